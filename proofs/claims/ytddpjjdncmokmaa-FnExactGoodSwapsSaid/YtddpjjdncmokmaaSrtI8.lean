/-
  CONTRACT of slices.Sort at numbers: the row holds the numbers sorted; what lay elsewhere stays. Condition: the row may be written, at most 1048576 numbers.
-/
import Derived.Test.YtddpjjdncmokmaaShelf
import Derived.Test.YtddpjjdncmokmaaWAMem
import Derived.Test.YtddpjjdncmokmaaWBDigitsI
import Derived.Sort.Grow
namespace Go.Proofs.Ytddpjjdncmokmaa
open Go.RowKit
namespace M
def srtI (l : List Int) : List Int := l.mergeSort fun x y => decide (x ≤ y)
theorem srtI_perm (l : List Int) : (srtI l).Perm l := List.mergeSort_perm l _
theorem srtI_len (l : List Int) : (srtI l).length = l.length := (srtI_perm l).length_eq
theorem srtI_sorted (l : List Int) : (srtI l).Pairwise fun a b => decide (a ≤ b) = true :=
  List.pairwise_mergeSort (fun a b c h1 h2 => by simp only [decide_eq_true_iff] at *; omega) (fun a b => by simp only [Bool.or_eq_true, decide_eq_true_iff]; omega) l
theorem srtI_asc {l : List Int} (h : l.Nodup) : Asc ltI (srtI l) := by
  have h1 := srtI_sorted l
  have h2 : (srtI l).Nodup := (srtI_perm l).nodup_iff.2 h
  unfold Asc
  have h3 := h1.and h2
  refine h3.imp fun {a b} hab => ?_
  obtain ⟨hle, hne⟩ := hab
  rw [decide_eq_true_iff] at hle
  unfold ltI
  rw [decide_eq_true_iff]
  omega
end M
open Go.Sort Go.Proofs
namespace C
set_option maxHeartbeats 800000
set_option maxRecDepth 20000
theorem holdsI_of_own {lo hi : Nat} {w : World} {b off : Nat} {l : List Int} (h : OwnAt lo hi w 3 (some ⟨b, off, none⟩) (M.encIs l)) : Holds (Value.int .i64) w b off l.toArray := by
  intro j hj
  have hj' : j < l.length := by simpa using hj
  obtain ⟨b', off', e, _, _, hc⟩ := h.row.at_ (k := j) (by rw [M.encIs_len]; exact hj')
  injection e with e
  injection e with e1 e2 _
  subst e1; subst e2
  have e : l.toArray[j]! = l[j] := by simp [hj']
  exact ⟨by rw [e]; exact hc j _ (M.encIs_at hj'), h.free rfl (k := j) (by rw [M.encIs_len]; exact hj') _⟩
theorem sorted_worldI {lo hi : Nat} {w : World} {b off : Nat} {l l' : List Int} (h : OwnAt lo hi w 3 (some ⟨b, off, none⟩) (M.encIs l)) (hne : l ≠ []) (hl : l'.length = l.length) (n : Nat) (os : Array Obj) :
    OwnAt lo hi (grow (putRow (Value.int .i64) (Sort.ahead w n) b off l'.toArray) os) 3 (some ⟨b, off, none⟩) (M.encIs l') ∧ Turned lo hi w (grow (putRow (Value.int .i64) (Sort.ahead w n) b off l'.toArray) os) := by
  have hH := holdsI_of_own h
  rcases h with h | ⟨g, o, cur, e, h1, h2, hh, hc⟩
  · have hz : (M.encIs l).length = 0 := by rw [h]; rfl
    rw [M.encIs_len] at hz
    exact absurd (List.eq_nil_of_length_eq_zero hz) hne
  · injection e with e
    injection e with e1 e2 _
    subst e1; subst e2
    have hlt := heap_lt hh
    have hheap : (grow (putRow (Value.int .i64) (Sort.ahead w n) b off l'.toArray) os).heap[b]? = some (.cells (putCells (Value.int .i64) off l'.toArray cur) 3 (0, 0)) := by
      rw [heap_grow_old _ _ (by rw [Sort.size_putRow]; exact hlt)]
      unfold putRow mapBlock
      show (w.heap.modify b _)[b]? = _
      rw [Array.getElem?_modify, if_pos rfl, hh]
      rfl
    have hK : Holds (Value.int .i64) (grow (putRow (Value.int .i64) (Sort.ahead w n) b off l'.toArray) os) b off l'.toArray :=
      holds_grow _ _ _ _ _ _ (by rw [Sort.size_putRow]; exact hlt) (holds_putRow (Value.int .i64) (Sort.ahead w n) b off l.toArray l'.toArray hH (by simpa using hl))
    refine ⟨.inr ⟨b, off, _, rfl, h1, h2, hheap, fun i u hu => ?_⟩, ?_⟩
    · have hi : i < l'.length := by
        have := (List.getElem?_eq_some_iff.1 hu).1
        rwa [M.encIs_len] at this
      have := (hK i (by simpa using hi)).1
      have hcell : (grow (putRow (Value.int .i64) (Sort.ahead w n) b off l'.toArray) os).cell? ⟨b, off + i, none⟩ = (putCells (Value.int .i64) off l'.toArray cur)[off + i]? := by
        unfold World.cell?
        simp [hheap]
      rw [hcell] at this
      rw [this, show l'.toArray[i]! = l'[i] by simp [hi], ← hu, M.encIs_at hi]
    · refine ⟨rfl, rfl, rfl, ?_, fun k hk ho => ?_⟩
      · rw [size_grow, Sort.size_putRow]
        exact Nat.le_add_right _ _
      · rw [heap_grow_old _ _ (by rw [Sort.size_putRow]; exact hk)]
        unfold putRow mapBlock
        show (w.heap.modify b _)[k]? = _
        rw [Array.getElem?_modify, if_neg (by omega)]
/-- slices.Sort at numbers -/
theorem sortInts_any (w : World) (lo hi : Nat) (a : Option Addr) (c : Nat) (l : List Int) (h : OwnAt lo hi w 3 a (M.encIs l)) (hne : l ≠ []) (hl : l.length ≤ 1048576) :
    Calls Try.prog 134 #[.slice a l.length c] w fun e w' => e = .returned (.tuple #[]) ∧ OwnAt lo hi w' 3 a (M.encIs (M.srtI l)) ∧ Turned lo hi w w' := by
  have hlen : 0 < l.length := List.length_pos_iff.2 hne
  obtain ⟨b, off, ha, h1, h2, _⟩ := h.row.at_ (k := 0) (by rw [M.encIs_len]; exact hlen)
  subst ha
  have hb : b < w.heap.size := by
    rcases h with e | ⟨g, off', cur, e, _, _, hh, _⟩
    · have hz : (M.encIs l).length = 0 := by rw [e]; rfl
      rw [M.encIs_len] at hz
      omega
    · injection e with e
      injection e with e1 e2 _
      subst e1
      exact heap_lt hh
  refine (Try.slices_Sort_int b off c l w (holdsI_of_own h) hb (by omega)).mono ?_
  rintro e w' ⟨rfl, n, os, rfl⟩
  obtain ⟨r1, r2⟩ := sorted_worldI (l' := M.srtI l) h hne (M.srtI_len l) n os
  exact ⟨rfl, r1, r2⟩
theorem sortNone_any (w : World) (a : Option Addr) (c : Nat) : Calls Try.prog 134 #[.slice a 0 c] w fun e w' => e = .returned (.tuple #[]) ∧ w' = w := Try.slices_Sort_int_none a c w
end C
end Go.Proofs.Ytddpjjdncmokmaa
