/-
  CONTRACT of impl.Maze.hasNode in a weaker form: what lay in memory stays. No condition.
-/
import Derived.Test.YtoiapfdlbkncaaaNode
namespace Go.Proofs.Ytoiapfdlbkncaaa
open Go.RowKit
namespace C
theorem hasNode_b (m : M.Mz) (a b : Option Addr) (c d : Nat) (x : Int) (w : World) :
    Calls Try.prog 65 #[.agg #[.int .i64 m.size, .slice a m.doors.length c, .slice b m.keys.length d], .int .i64 x] w fun e w' => e = .returned (.bool (M.nodeB m.size x)) ∧ Below w.heap.size w w' :=
  (hasNode_any m a b c d x w).mono fun _ _ ⟨h1, h2⟩ => ⟨h1, by rw [← h2]; exact below_alloc _ _⟩
end C
end Go.Proofs.Ytoiapfdlbkncaaa
