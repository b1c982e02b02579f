/-
  MATHEMATICS of least needs, own to these proofs: the program's list and the model's say the same of valid mazes. No condition.
-/
import Derived.Test.YtjbapfmplbphbaaOpenMath
namespace Go.Proofs.Ytjbapfmplbphbaa
open Go.RowKit
namespace M
/-- whether a need has in it the whole of another one of a list -/
def otherB (l : List Int) (n : Int) : Bool := l.any fun o => (o != n) && hasB n o
/-- the needs of a list that have in them the whole of no other one -/
def leastOf (l : List Int) : List Int := l.filter fun n => !otherB l n
/-- the least needs of a list, as far as k of them are looked at -/
def leastTo (l : List Int) (k : Nat) : List Int := (l.take k).filter fun n => !otherB l n
theorem leastTo_yes {l : List Int} {k : Nat} (hk : k < l.length) (h : otherB l l[k] = false) : leastTo l (k + 1) = leastTo l k ++ [l[k]] := by
  unfold leastTo
  rw [List.take_succ_eq_append_getElem hk, List.filter_append, List.filter_cons_of_pos (by show (!otherB l l[k]) = true; rw [h]; rfl)]
  simp
theorem leastTo_no {l : List Int} {k : Nat} (hk : k < l.length) (h : otherB l l[k] = true) : leastTo l (k + 1) = leastTo l k := by
  unfold leastTo
  rw [List.take_succ_eq_append_getElem hk, List.filter_append, List.filter_cons_of_neg (by show ¬ (!otherB l l[k]) = true; rw [h]; decide)]
  simp
theorem leastTo_all (l : List Int) : leastTo l l.length = leastOf l := by unfold leastTo leastOf; rw [List.take_of_length_le (Nat.le_refl _)]
theorem leastTo_len (l : List Int) (k : Nat) : (leastTo l k).length ≤ l.length := by
  unfold leastTo
  exact Nat.le_trans (List.length_filter_le _ _) (List.length_take_le' k l)
/-- what a door at place k says against the one at i -/
def badB (l : List Dr) (x y : Int) (i k : Nat) : Bool := (k != i) && (joinsB (l.getD k default) x y && has2B (l.getD i default).2.2 (l.getD k default).2.2)
/-- whether none of the first k says so -/
def goodTo (l : List Dr) (x y : Int) (i k : Nat) : Bool := joinsB (l.getD i default) x y && !(List.range k).any (badB l x y i)
theorem goodTo_zero (l : List Dr) (x y : Int) (i : Nat) : goodTo l x y i 0 = joinsB (l.getD i default) x y := by unfold goodTo; simp
theorem goodTo_succ (l : List Dr) (x y : Int) (i k : Nat) : goodTo l x y i (k + 1) = (goodTo l x y i k && !badB l x y i k) := by
  unfold goodTo
  rw [List.range_succ, List.any_append]
  cases joinsB (l.getD i default) x y <;> cases (List.range k).any (badB l x y i) <;> simp
theorem goodTo_false {l : List Dr} {x y : Int} {i k j : Nat} (h : goodTo l x y i k = false) (hj : k ≤ j) : goodTo l x y i j = false := by
  obtain ⟨n, rfl⟩ : ∃ n, j = k + n := ⟨j - k, by omega⟩
  induction n with
  | zero => exact h
  | succ n ih => rw [← Nat.add_assoc, goodTo_succ, ih (by omega)]; rfl
/-- the model's list, as far as i doors are looked at -/
def modelTo (l : List Dr) (x y : Int) (i : Nat) : List Int := ((List.range i).filter fun j => goodTo l x y j l.length).map fun j => (l.getD j default).2.2
theorem modelTo_yes {l : List Dr} {x y : Int} {i : Nat} (h : goodTo l x y i l.length = true) : modelTo l x y (i + 1) = modelTo l x y i ++ [(l.getD i default).2.2] := by
  unfold modelTo
  rw [List.range_succ, List.filter_append, List.filter_cons_of_pos (p := fun j => goodTo l x y j l.length) h]
  simp
theorem modelTo_no {l : List Dr} {x y : Int} {i : Nat} (h : goodTo l x y i l.length = false) : modelTo l x y (i + 1) = modelTo l x y i := by
  unfold modelTo
  rw [List.range_succ, List.filter_append, List.filter_cons_of_neg (p := fun j => goodTo l x y j l.length) (by show ¬ goodTo l x y i l.length = true; rw [h]; decide)]
  simp
theorem modelTo_len (l : List Dr) (x y : Int) (i : Nat) : (modelTo l x y i).length ≤ i := by
  unfold modelTo
  rw [List.length_map]
  have := List.length_filter_le (fun j => goodTo l x y j l.length) (List.range i)
  simpa using this
theorem getD_at {l : List Dr} {k : Nat} (h : k < l.length) : l.getD k default = l[k] := by rw [List.getD_eq_getElem?_getD, List.getElem?_eq_getElem h]; rfl
theorem range_map_getD (l : List Dr) : (List.range l.length).map (fun j => l.getD j default) = l := by
  apply List.ext_getElem
  · simp
  · intro i h1 h2
    simp only [List.getElem_map, List.getElem_range]
    exact getD_at h2
/-- both say the same -/
theorem least_same {m : Mz} (V : Valid m) (x y : Int) : modelTo m.doors x y m.doors.length = leastOf (needs m.doors (min x y) (max x y)) := by
  have hasc := V.asc
  have hnd : ∀ i k (hi : i < m.doors.length) (hk : k < m.doors.length), m.doors[i] = m.doors[k] → i = k := by
    intro i k hi hk he
    unfold Asc at hasc
    have hp := List.pairwise_iff_getElem.1 hasc
    rcases Nat.lt_trichotomy i k with h | h | h
    · have := hp i k hi hk h
      rw [he, ltD_irrefl] at this; cases this
    · exact h
    · have := hp k i hk hi h
      rw [he, ltD_irrefl] at this; cases this
  have hg : ∀ i, i < m.doors.length → goodTo m.doors x y i m.doors.length = (betwB (m.doors.getD i default) (min x y) (max x y) && !otherB (needs m.doors (min x y) (max x y)) (m.doors.getD i default).2.2) := by
    intro i hi
    rw [getD_at hi]
    unfold goodTo
    rw [getD_at hi]
    obtain ⟨_, _, _, _, a, b, c⟩ := V.door i hi
    rw [joins_betw x y a]
    cases hb : betwB m.doors[i] (min x y) (max x y) with
    | false => rfl
    | true =>
      rw [Bool.true_and, Bool.true_and]
      congr 1
      unfold otherB needs
      rw [List.any_map, List.any_filter]
      rw [Bool.eq_iff_iff, List.any_eq_true, List.any_eq_true]
      constructor
      · rintro ⟨k, hk, h⟩
        rw [List.mem_range] at hk
        unfold badB at h
        rw [getD_at hk, getD_at hi] at h
        simp only [Bool.and_eq_true, bne_iff_ne, ne_eq] at h
        obtain ⟨h1, h2, h3⟩ := h
        obtain ⟨_, _, _, _, a', b', c'⟩ := V.door k hk
        rw [joins_betw x y a'] at h2
        refine ⟨m.doors[k], List.getElem_mem hk, ?_⟩
        simp only [Bool.and_eq_true, Function.comp, bne_iff_ne, ne_eq]
        refine ⟨h2, ?_, by rw [has_same b c b' c']; exact h3⟩
        intro he
        apply h1
        refine hnd k i hk hi ?_
        unfold betwB at hb h2
        rw [decide_eq_true_iff] at hb h2
        exact Prod.ext (h2.1.trans hb.1.symm) (Prod.ext (h2.2.trans hb.2.symm) he)
      · rintro ⟨d, hd, h⟩
        obtain ⟨k, hk, rfl⟩ := List.mem_iff_getElem.1 hd
        simp only [Bool.and_eq_true, Function.comp, bne_iff_ne, ne_eq] at h
        obtain ⟨h2, h1, h3⟩ := h
        obtain ⟨_, _, _, _, a', b', c'⟩ := V.door k hk
        refine ⟨k, List.mem_range.2 hk, ?_⟩
        unfold badB
        rw [getD_at hk, getD_at hi, joins_betw x y a']
        simp only [Bool.and_eq_true, bne_iff_ne, ne_eq]
        refine ⟨fun he => h1 (by subst he; rfl), h2, by rw [← has_same b c b' c']; exact h3⟩
  unfold modelTo
  rw [List.filter_congr (q := fun i => (betwB (m.doors.getD i default) (min x y) (max x y) && !otherB (needs m.doors (min x y) (max x y)) (m.doors.getD i default).2.2)) (fun i hi => hg i (List.mem_range.1 hi))]
  have e : ∀ (f : Dr → Bool), ((List.range m.doors.length).filter fun i => f (m.doors.getD i default)).map (fun j => (m.doors.getD j default).2.2) = (m.doors.filter f).map fun d => d.2.2 := by
    intro f
    conv => rhs; rw [← range_map_getD m.doors]
    rw [List.filter_map, List.map_map]
    rfl
  rw [e (fun d => betwB d (min x y) (max x y) && !otherB (needs m.doors (min x y) (max x y)) d.2.2)]
  unfold leastOf
  conv => rhs; unfold needs
  rw [List.filter_map, List.filter_filter]
  congr 1
  refine List.filter_congr fun d _ => ?_
  simp only [Function.comp]
  rw [Bool.and_comm]
  rfl
end M
end Go.Proofs.Ytjbapfmplbphbaa
