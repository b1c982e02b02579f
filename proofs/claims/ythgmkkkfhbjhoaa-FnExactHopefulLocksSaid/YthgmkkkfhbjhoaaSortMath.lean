/-
  MATHEMATICS of sorting doors, own to these proofs: a list sorted has the same members, and ascends where none stands twice; what numbering and painting make of doors. No condition.
-/
import Derived.Test.YthgmkkkfhbjhoaaPutMath
namespace Go.Proofs.Ythgmkkkfhbjhoaa
open Go.RowKit
namespace M

def leD (x y : Dr) : Bool := !ltD y x
/-- the doors sorted -/
def srt (l : List Dr) : List Dr := l.mergeSort leD
theorem srt_perm (l : List Dr) : (srt l).Perm l := List.mergeSort_perm l leD
theorem srt_len (l : List Dr) : (srt l).length = l.length := (srt_perm l).length_eq
theorem mem_srt {l : List Dr} {x : Dr} : x ∈ srt l ↔ x ∈ l := (srt_perm l).mem_iff
theorem leD_trans (a b c : Dr) (h1 : leD a b = true) (h2 : leD b c = true) : leD a c = true := by
  unfold leD ltD at *
  simp only [Bool.not_eq_true', decide_eq_false_iff_not] at *
  omega
theorem leD_total (a b : Dr) : (leD a b || leD b a) = true := by
  unfold leD
  cases h1 : ltD b a with
  | false => rfl
  | true =>
    cases h2 : ltD a b with
    | false => rfl
    | true =>
      have := ltD_trans h1 h2
      rw [ltD_irrefl] at this
      cases this
theorem srt_sorted (l : List Dr) : (srt l).Pairwise fun a b => leD a b = true := List.pairwise_mergeSort leD_trans leD_total l
theorem srt_asc {l : List Dr} (h : l.Nodup) : Asc ltD (srt l) := by
  have h1 := srt_sorted l
  have h2 : (srt l).Nodup := (srt_perm l).nodup_iff.2 h
  unfold Asc
  have h3 := h1.and h2
  refine h3.imp fun {a b} hab => ?_
  obtain ⟨hle, hne⟩ := hab
  unfold leD at hle
  cases h : ltD a b with
  | true => rfl
  | false =>
    have : ltD b a = false := by simpa using hle
    exact absurd (ltD_tri h this) hne
/-- sorted or put one by one: the same, where none stands twice -/
theorem putAll_srt {l : List Dr} (h : l.Nodup) : putAll ltD [] l = srt l :=
  putAll_eq ordD Asc.nil (srt_asc h) fun x => by rw [mem_srt]; simp
theorem putAll_srt_on {l ds : List Dr} (hl : Asc ltD l) (h : (l ++ ds).Nodup) : putAll ltD l ds = srt (l ++ ds) :=
  putAll_eq ordD hl (srt_asc h) fun x => by rw [mem_srt, List.mem_append]
theorem Asc.nodup {l : List Dr} (h : Asc ltD l) : l.Nodup := by
  unfold Asc at h
  refine h.imp fun {a b} hab => ?_
  rintro rfl
  rw [ltD_irrefl] at hab
  cases hab
/-- where one stands twice, the sorted list does not ascend -/
theorem srt_not {l : List Dr} (h : ¬ l.Nodup) : ¬ Asc ltD (srt l) := fun ha => h ((srt_perm l).nodup_iff.1 ha.nodup)

/-- whether a maze whose doors stand in any order is valid but for that order -/
def doorsOk (n : Int) (l : List Dr) : Prop := ∀ d ∈ l, doorB n d = true
theorem doorsB_iff {n : Int} {l : List Dr} : doorsB n l = true ↔ doorsOk n l ∧ Asc ltD l := by
  unfold doorsB
  rw [all_range_take]
  constructor
  · intro h
    refine ⟨fun d hd => ?_, asc_of_sorted ordD fun k hk => ?_⟩
    · obtain ⟨k, hk, rfl⟩ := List.mem_iff_getElem.1 hd
      exact ((stepB_iff hk).1 (h k hk)).1
    · have := ((stepB_iff hk).1 (h (k + 1) hk)).2 (by omega)
      rw [Nat.add_sub_cancel, List.getD_eq_getElem?_getD, List.getElem?_eq_getElem (by omega)] at this
      exact this
  · rintro ⟨h1, h2⟩ k hk
    refine (stepB_iff hk).2 ⟨h1 _ (List.getElem_mem hk), fun h0 => ?_⟩
    obtain ⟨j, rfl⟩ : ∃ j, k = j + 1 := ⟨k - 1, by omega⟩
    rw [Nat.add_sub_cancel, List.getD_eq_getElem?_getD, List.getElem?_eq_getElem (by omega)]
    exact h2.sorted j hk
theorem doorsOk_mem {n : Int} {l l' : List Dr} (h : ∀ x, x ∈ l ↔ x ∈ l') : doorsOk n l ↔ doorsOk n l' :=
  ⟨fun k d hd => k d ((h d).2 hd), fun k d hd => k d ((h d).1 hd)⟩
theorem doorB_iff {n : Int} {d : Dr} : doorB n d = true ↔ 0 ≤ d.1 ∧ d.1 < n ∧ 0 ≤ d.2.1 ∧ d.2.1 < n ∧ d.1 < d.2.1 ∧ 0 ≤ d.2.2 ∧ d.2.2 < 64 := by
  unfold doorB; rw [decide_eq_true_iff]
theorem Valid.ok {m : Mz} (h : Valid m) : doorsOk m.size m.doors := fun d hd => by
  obtain ⟨k, hk, rfl⟩ := List.mem_iff_getElem.1 hd
  exact doorB_iff.2 (h.door k hk)
theorem valid_mk {m : Mz} (h1 : 1 ≤ m.size) (h2 : m.size ≤ 12) (h3 : m.doors.length ≤ 30) (h4 : (m.keys.length : Int) = m.size) (h5 : doorsOk m.size m.doors) (h6 : Asc ltD m.doors) (h7 : ∀ s ∈ m.keys, 0 ≤ s ∧ s < 64) : mazeB m = true :=
  of_valid ⟨h1, h2, h3, h4, fun _ hk => doorB_iff.1 (h5 _ (List.getElem_mem hk)), h6.sorted, fun _ hk => h7 _ (List.getElem_mem hk)⟩
theorem Valid.sets {m : Mz} (h : Valid m) : ∀ s ∈ m.keys, 0 ≤ s ∧ s < 64 := fun s hs => by
  obtain ⟨k, hk, rfl⟩ := List.mem_iff_getElem.1 hs
  exact h.key k hk
end M
end Go.Proofs.Ythgmkkkfhbjhoaa
