/-
  CONTRACTS of a maze's copies: impl.Maze.clone, spec.l2Own: what reads alike in memory of the call's own; what lay in memory stays. Condition: at most 1048576 doors and keys.
-/
import Derived.Test.YthgmkkkfhbjhoaaClone
import Derived.Deep.RegionHeld3
namespace Go.Proofs.Ythgmkkkfhbjhoaa
open Go.RowKit
namespace C
set_option maxHeartbeats 1600000
set_option maxRecDepth 20000
/-- the result's box written field by field: the maze in memory of the call's own -/
theorem mz_end {w w3 : World} {m : M.Mz} {da ia : Option Addr} {dc ic : Nat} {u0 u1 u2 : Value} (hB : Below w.heap.size w w3)
    (p1 : OwnAt (w.heap.size + 1 + 1) w3.heap.size w3 48 da (M.encDs m.doors)) (p2 : OwnAt (w.heap.size + 1 + 1) w3.heap.size w3 3 ia (M.encIs m.keys))
    (q1 : m.doors.length ≤ dc) (q2 : dc ≤ 9223372036854775807) (q3 : m.keys.length ≤ ic) (q4 : ic ≤ 9223372036854775807) (hz : w.heap.size + 1 < w3.heap.size) :
    MzPost w m (.returned (.agg #[.int .i64 m.size, .slice da m.doors.length dc, .slice ia m.keys.length ic])) (((w3.setCell ⟨w.heap.size + 1, 0, none⟩ u0).setCell ⟨w.heap.size + 1, 1, none⟩ u1).setCell ⟨w.heap.size + 1, 2, none⟩ u2) := by
  have hT : Turned (w.heap.size + 1) (w.heap.size + 1 + 1) w3 (((w3.setCell ⟨w.heap.size + 1, 0, none⟩ u0).setCell ⟨w.heap.size + 1, 1, none⟩ u1).setCell ⟨w.heap.size + 1, 2, none⟩ u2) :=
    ((Turned.setCell _ _ _ _ (by omega) (by omega)).trans (Turned.setCell _ _ _ _ (by omega) (by omega))).trans (Turned.setCell _ _ _ _ (by omega) (by omega))
  have hs := hT.size
  exact ⟨_, _, _, _, rfl, ⟨(p1.turned hT (Nat.le_refl _) (by omega)).mono (by omega) hs, (p2.turned hT (Nat.le_refl _) (by omega)).mono (by omega) hs, q1, q2, q3, q4⟩, Below.thenTurned hB hT (by omega) (by omega)⟩
end C
end Go.Proofs.Ythgmkkkfhbjhoaa
