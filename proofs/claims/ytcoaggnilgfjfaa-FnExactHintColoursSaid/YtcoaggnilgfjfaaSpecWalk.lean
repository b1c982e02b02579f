/-
  CONTRACTS of TakenOn and IsKeyWalk, the model's side; what lay in memory stays. No condition but that memory reads so, a walk of at most 1048576 numbers.
-/
import Derived.Test.YtcoaggnilgfjfaaTaken
namespace Go.Proofs.Ytcoaggnilgfjfaa
open Go.RowKit
namespace C
set_option maxHeartbeats 1600000
set_option maxRecDepth 20000
theorem takenOn_no {m : M.Mz} {walk : List Int} (h : M.mazeB m = false) : M.takenOnB m walk = false ∧ M.takenOnV m walk = [] := by
  constructor
  · unfold M.takenOnB; rw [h]; rfl
  · unfold M.takenOnV; rw [h]; rfl
theorem takenOn_yes {m : M.Mz} {walk : List Int} (h : M.mazeB m = true) : M.takenOnB m walk = M.walkB m walk ∧ M.takenOnV m walk = M.takenV m walk := by
  constructor
  · unfold M.takenOnB; rw [h]; rfl
  · unfold M.takenOnV; rw [h]; rfl
end C
end Go.Proofs.Ytcoaggnilgfjfaa
