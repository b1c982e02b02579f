/-
  CONTRACT of slices.DeleteFunc at ints: the row without those of which a predicate holds, in place; what lay elsewhere stays. Condition: the row may be written, at most 1000 of them; the predicate answers p and leaves memory as it is.
-/
import Derived.Test.YtcaaookecgdbdaaDel
import Derived.Test.YtcaaookecgdbdaaIdxI
import Derived.IntWalk
namespace Go.Proofs.Ytcaaookecgdbdaa
open Go.RowKit
namespace M
/-- those of which p does not hold -/
def kept {α : Type} (p : α → Bool) (l : List α) : List α := l.filter fun x => !p x
theorem kept_all {α : Type} {p : α → Bool} {l : List α} (h : ∀ j (hj : j < l.length), p l[j] = false) : kept p l = l := by
  unfold kept
  rw [List.filter_eq_self]
  intro x hx
  obtain ⟨j, hj, rfl⟩ := List.mem_iff_getElem.1 hx
  rw [h j hj]; rfl
theorem kept_yes {α : Type} {p : α → Bool} {l : List α} {k : Nat} (hk : k < l.length) (h : p l[k] = false) : kept p (l.take (k + 1)) = kept p (l.take k) ++ [l[k]] := by
  unfold kept
  rw [List.take_succ_eq_append_getElem hk, List.filter_append, List.filter_cons_of_pos (p := fun x => !p x) (by show (!p l[k]) = true; rw [h]; rfl)]
  rfl
theorem kept_no {α : Type} {p : α → Bool} {l : List α} {k : Nat} (hk : k < l.length) (h : p l[k] = true) : kept p (l.take (k + 1)) = kept p (l.take k) := by
  unfold kept
  rw [List.take_succ_eq_append_getElem hk, List.filter_append, List.filter_cons_of_neg (p := fun x => !p x) (by show ¬ (!p l[k]) = true; rw [h]; decide)]
  simp
theorem kept_first {α : Type} {p : α → Bool} {l : List α} {k : Nat} (hk : k < l.length) (h : p l[k] = true) (hn : ∀ j (hj : j < l.length), j < k → p l[j] = false) : l.take k = kept p (l.take (k + 1)) := by
  rw [kept_no hk h]
  exact (kept_all fun j hj => by
    rw [List.length_take] at hj
    rw [List.getElem_take]
    exact hn j (by omega) (by omega)).symm
theorem drop_set_lt {α : Type} (xs : List α) (i j : Nat) (u : α) (h : i < j) : (xs.set i u).drop j = xs.drop j := by
  refine List.ext_getElem? fun k => ?_
  rw [List.getElem?_drop, List.getElem?_drop, List.getElem?_set_ne (by omega)]
theorem take_set_succ {α : Type} (xs : List α) (i : Nat) (u : α) (h : i < xs.length) : (xs.set i u).take (i + 1) = xs.take i ++ [u] := by
  rw [List.take_succ_eq_append_getElem (by simpa using h), List.take_set_of_le (Nat.le_refl _), List.getElem_set_self]
theorem drop_next {α : Type} {xs l : List α} {j : Nat} (h : xs.drop j = l.drop j) : xs.drop (j + 1) = l.drop (j + 1) := by
  rw [← List.drop_drop, ← List.drop_drop, h]
end M
namespace C
set_option maxHeartbeats 3200000
set_option maxRecDepth 20000
theorem zeroI1 (w : World) : (zeroValue 3).run Try.prog w = .ok (.int .i64 0) w := by kernel_rfl
def PredITurn (g : Nat) (lb : Array Value) (p : Int → Bool) (lo hi : Nat) (w : World) : Prop :=
  ∀ W x, Turned lo hi w W → Calls Try.prog g (#[.int .i64 x] ++ lb) W fun e w' => e = .returned (.bool (p x)) ∧ Below W.heap.size W w'
end C
end Go.Proofs.Ytcaaookecgdbdaa
