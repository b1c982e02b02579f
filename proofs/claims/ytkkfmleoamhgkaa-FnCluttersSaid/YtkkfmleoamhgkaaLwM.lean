/-
  MATHEMATICS: the least sets that win or bar, the colours that all or none of some sets have, own to these proofs. No condition.
-/
import Derived.Test.YtkkfmleoamhgkaaCluI
import Derived.Test.YtkkfmleoamhgkaaLstS
namespace Go.Proofs.Ytkkfmleoamhgkaa
open Go.RowKit
namespace M
noncomputable def lwV (F : Mz → St6 → Bool) (m : Mz) : List Int := if mazeB m then intsF (leastF (F m)) else []
theorem lwV_no {F : Mz → St6 → Bool} {m : Mz} (h : mazeB m = false) : lwV F m = [] := by unfold lwV; rw [h]; rfl
theorem lwV_yes {F : Mz → St6 → Bool} {m : Mz} (h : mazeB m = true) : lwV F m = intsF (leastF (F m)) := by unfold lwV; rw [if_pos h]
theorem leastF_len (P : St6 → Bool) : (leastF P).length ≤ 64 := by
  rw [← leastUp_all]; exact leastUp_len P 64
theorem lwV_len (F : Mz → St6 → Bool) (m : Mz) : (lwV F m).length ≤ 1048576 := by
  cases h : mazeB m with
  | false => rw [lwV_no h]; simp
  | true => rw [lwV_yes h, intsF_len]; have := leastF_len (F m); omega
theorem least_sel {P : St6 → Bool} (hP : ∀ a b, subF a b = true → P a = true → P b = true) : cluV (intsF (selF P)) = intsF (leastF P) := by
  rw [cluV_intsF, least_all hP fun a => mem_selF]
def cntV (m : Mz) (F : Mz → St6 → Bool) : Int := if mazeB m then ((selF (F m)).length : Int) else 0
/-- the colours that all sets of a list have -/
def andAll : List St6 → Int → Int
  | [], s => s
  | a :: l, s => andAll l (bits .and .i64 s (a.val : Int))
theorem andAll_snoc : ∀ (l : List St6) (a : St6) (s : Int), andAll (l ++ [a]) s = bits .and .i64 (andAll l s) (a.val : Int)
  | [], _, _ => rfl
  | _ :: l, a, _ => andAll_snoc l a _
theorem andAll_take {l : List St6} {k : Nat} (h : k < l.length) (s : Int) : andAll (l.take (k + 1)) s = bits .and .i64 (andAll (l.take k) s) ((l[k]).val : Int) := by
  rw [List.take_succ_eq_append_getElem h, andAll_snoc]
/-- the colours that no set of a list has -/
def subAll : List St6 → Int → Int
  | [], s => s
  | a :: l, s => subAll l (bits .andNot .i64 s (a.val : Int))
theorem subAll_snoc : ∀ (l : List St6) (a : St6) (s : Int), subAll (l ++ [a]) s = bits .andNot .i64 (subAll l s) (a.val : Int)
  | [], _, _ => rfl
  | _ :: l, a, _ => subAll_snoc l a _
theorem subAll_take {l : List St6} {k : Nat} (h : k < l.length) (s : Int) : subAll (l.take (k + 1)) s = bits .andNot .i64 (subAll (l.take k) s) ((l[k]).val : Int) := by
  rw [List.take_succ_eq_append_getElem h, subAll_snoc]
end M
namespace C
set_option maxHeartbeats 3200000
set_option maxRecDepth 20000
end C
end Go.Proofs.Ytkkfmleoamhgkaa
