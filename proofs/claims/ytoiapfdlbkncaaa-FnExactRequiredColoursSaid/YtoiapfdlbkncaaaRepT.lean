/-
  MATHEMATICS, own to these proofs: a list whose first k elements are replaced. No condition.
-/
import Derived.WalkKit
namespace Go.Proofs.Ytoiapfdlbkncaaa
open Go.RowKit
namespace M
def repT {α : Type} (f : α → α) (l : List α) (k : Nat) : List α := (l.take k).map f ++ l.drop k
section
variable {α : Type} {f : α → α} {l : List α} {k : Nat}
theorem repT_len (f : α → α) (l : List α) (k : Nat) : (repT f l k).length = l.length := by unfold repT; rw [List.length_append, List.length_map, List.length_take, List.length_drop]; omega
theorem repT_zero (f : α → α) (l : List α) : repT f l 0 = l := by unfold repT; simp
theorem repT_all (f : α → α) (l : List α) : repT f l l.length = l.map f := by unfold repT; simp
theorem repT_at (h : k < l.length) : repT f l k = (l.take k).map f ++ l[k] :: l.drop (k + 1) := by unfold repT; rw [List.drop_eq_getElem_cons h]
theorem repT_next (h : k < l.length) : repT f l (k + 1) = (l.take k).map f ++ f l[k] :: l.drop (k + 1) := by
  unfold repT
  rw [List.take_succ_eq_append_getElem h, List.map_append, List.append_assoc]
  rfl
theorem repT_set (h : k < l.length) : (repT f l k).set k (f l[k]) = repT f l (k + 1) := by
  rw [repT_at h, repT_next h, List.set_append_right _ _ (by rw [List.length_map, List.length_take]; omega)]
  have : k - ((l.take k).map f).length = 0 := by rw [List.length_map, List.length_take]; omega
  rw [this]
  rfl
theorem repT_get (h : k < l.length) : (repT f l k)[k]? = some l[k] := by
  rw [repT_at h, List.getElem?_append_right (by rw [List.length_map, List.length_take]; omega)]
  have : k - ((l.take k).map f).length = 0 := by rw [List.length_map, List.length_take]; omega
  rw [this]
  rfl
end
end M
end Go.Proofs.Ytoiapfdlbkncaaa
