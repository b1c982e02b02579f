/-
  CONTRACTS of doors between nodes: spec.l2Joins, l2Has, l2Open; impl.hasAll, needsBetween, isOpen; what lay in memory stays. Condition: the maze reads so; for impl.isOpen it is valid.
-/
import Derived.Test.YthgmkkkfhbjhoaaDoorsAt
import Derived.Test.YthgmkkkfhbjhoaaOpenMath
import Derived.Laws.StructEq
namespace Go.Proofs.Ythgmkkkfhbjhoaa
open Go.RowKit
namespace C
set_option maxHeartbeats 1600000
set_option maxRecDepth 20000
theorem hasAll_any (s t : Int) (w : World) : Calls Try.prog 93 #[.int .i64 s, .int .i64 t] w fun e w' => e = .returned (.bool (M.hasB s t)) ∧ w = w' := by
  go_enter Try.func93, Try.ntmps93
  go_wp2_with fail
  go_ret
  exact ⟨rfl, rfl⟩
end C
end Go.Proofs.Ythgmkkkfhbjhoaa
