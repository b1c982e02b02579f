/-
  MATHEMATICS of doors between nodes and of sets in sets, own to these proofs: the program's and the model's tests say the same of valid mazes. No condition.
-/
import Derived.Test.YthgmkkkfhbjhoaaPutMath
namespace Go.Proofs.Ythgmkkkfhbjhoaa
open Go.RowKit
namespace M
/-- a set has all colours of a need, as the program reckons it, and as the model does -/
def hasB (set need : Int) : Bool := bits .andNot .i64 need set == 0
def has2B (set need : Int) : Bool := bits .and .i64 set need == need
theorem has_fin : ∀ s t : Fin 64, hasB (s.val : Int) (t.val : Int) = has2B (s.val : Int) (t.val : Int) := by decide +kernel
theorem has_same {s t : Int} (h0 : 0 ≤ s) (h1 : s < 64) (h2 : 0 ≤ t) (h3 : t < 64) : hasB s t = has2B s t := by
  have := has_fin ⟨s.toNat, by omega⟩ ⟨t.toNat, by omega⟩
  simp only at this
  rwa [Int.toNat_of_nonneg h0, Int.toNat_of_nonneg h2] at this
theorem or_fin : ∀ s t : Fin 64, 0 ≤ bits .or .i64 (s.val : Int) (t.val : Int) ∧ bits .or .i64 (s.val : Int) (t.val : Int) < 64 := by decide +kernel
theorem or_set {s t : Int} (h0 : 0 ≤ s) (h1 : s < 64) (h2 : 0 ≤ t) (h3 : t < 64) : 0 ≤ bits .or .i64 s t ∧ bits .or .i64 s t < 64 := by
  have := or_fin ⟨s.toNat, by omega⟩ ⟨t.toNat, by omega⟩
  simp only at this
  rwa [Int.toNat_of_nonneg h0, Int.toNat_of_nonneg h2] at this
def joinsB (d : Dr) (x y : Int) : Bool := (d.1 == x && d.2.1 == y) || (d.1 == y && d.2.1 == x)
def betwB (d : Dr) (p q : Int) : Bool := decide (d.1 = p ∧ d.2.1 = q)
theorem joins_betw {d : Dr} (x y : Int) (h : d.1 < d.2.1) : joinsB d x y = betwB d (min x y) (max x y) := by
  unfold joinsB betwB
  rw [Bool.eq_iff_iff]
  simp only [Bool.or_eq_true, Bool.and_eq_true, beq_iff_eq, decide_eq_true_eq]
  omega
/-- the needs of the doors between two nodes -/
def needs (l : List Dr) (p q : Int) : List Int := (l.filter fun d => betwB d p q).map fun d => d.2.2
theorem needs_yes {l : List Dr} {p q : Int} {k : Nat} (hk : k < l.length) (h : betwB l[k] p q = true) : needs (l.take (k + 1)) p q = needs (l.take k) p q ++ [l[k].2.2] := by
  unfold needs
  rw [List.take_succ_eq_append_getElem hk, List.filter_append, List.filter_cons_of_pos (p := fun d => betwB d p q) h]
  simp
theorem needs_no {l : List Dr} {p q : Int} {k : Nat} (hk : k < l.length) (h : betwB l[k] p q = false) : needs (l.take (k + 1)) p q = needs (l.take k) p q := by
  unfold needs
  rw [List.take_succ_eq_append_getElem hk, List.filter_append, List.filter_cons_of_neg (p := fun d => betwB d p q) (by show ¬ betwB l[k] p q = true; rw [h]; decide)]
  simp
theorem needs_len (l : List Dr) (p q : Int) : (needs l p q).length ≤ l.length := by
  unfold needs; rw [List.length_map]; exact List.length_filter_le _ _
def openB (l : List Dr) (x y set : Int) : Bool := l.any fun d => joinsB d x y && has2B set d.2.2
theorem open_same {m : Mz} (V : Valid m) {x y set : Int} (h0 : 0 ≤ set) (h1 : set < 64) : (needs m.doors (min x y) (max x y)).any (fun n => hasB set n) = openB m.doors x y set := by
  unfold needs openB
  rw [List.any_map, List.any_filter]
  rw [Bool.eq_iff_iff, List.any_eq_true, List.any_eq_true]
  have e : ∀ d ∈ m.doors, (betwB d (min x y) (max x y) && hasB set d.2.2) = (joinsB d x y && has2B set d.2.2) := by
    intro d hd
    obtain ⟨k, hk, rfl⟩ := List.mem_iff_getElem.1 hd
    obtain ⟨_, _, _, _, a, b, c⟩ := V.door k hk
    rw [joins_betw x y a, has_same h0 h1 b c]
  constructor
  · rintro ⟨d, hd, h⟩
    exact ⟨d, hd, by rw [← e d hd]; exact h⟩
  · rintro ⟨d, hd, h⟩
    exact ⟨d, hd, by rw [← e d hd] at h; exact h⟩
end M
end Go.Proofs.Ythgmkkkfhbjhoaa
