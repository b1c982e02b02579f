/-
  CONTRACT of spec.l2Maze and spec.IsMaze: they tell whether a maze is valid; what lay in memory stays. No condition but that the maze reads so.
-/
import Derived.Test.YtkkfmleoamhgkaaIsMaze2
import Derived.Test.YtkkfmleoamhgkaaNode
import Derived.Sort.Grow
namespace Go.Proofs.Ytkkfmleoamhgkaa
open Go.RowKit
namespace C
set_option maxHeartbeats 1600000
set_option maxRecDepth 20000
theorem same_grown {P : Program} {f : FuncId} {args : Array Value} {W : World} {v : Value} (h : Calls P f args W fun e w' => e = .returned v ∧ W = w') : Calls P f args W fun e w' => e = .returned v ∧ ∃ q os, w' = Sort.grow (W.drewN q) os :=
  h.mono fun _ _ ⟨he, hw⟩ => ⟨he, 0, #[], by rw [← hw, Sort.grow_empty]; rfl⟩
theorem shape_no {m : M.Mz} (h : M.shapeB m = false) : M.mazeB m = false := by unfold M.mazeB; rw [h]; rfl
theorem doors_no {m : M.Mz} (h : M.doorsB m.size m.doors = false) : M.mazeB m = false := by unfold M.mazeB; rw [h]; cases M.shapeB m <;> rfl
theorem keys_no {m : M.Mz} (h : M.keysB m.keys = false) : M.mazeB m = false := by unfold M.mazeB; rw [h]; cases M.shapeB m <;> cases M.doorsB m.size m.doors <;> rfl
end C
end Go.Proofs.Ytkkfmleoamhgkaa
