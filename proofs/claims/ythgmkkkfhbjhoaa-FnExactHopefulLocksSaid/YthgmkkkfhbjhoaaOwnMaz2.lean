/-
  CONTRACT of spec.l2Own, a maze's copy, with no doors. Condition: at most 1048576 doors and keys.
-/
import Derived.Test.YthgmkkkfhbjhoaaOwnMazW
namespace Go.Proofs.Ythgmkkkfhbjhoaa
open Go.RowKit
namespace C
set_option maxHeartbeats 32000000
set_option maxRecDepth 20000
theorem mz_end0 {w w3 : World} {m : M.Mz} {g : Addr} {ia : Option Addr} {ic : Nat} {u0 u1 u2 : Value} (hB : Below w.heap.size w w3) (hd1 : M.encDs m.doors = []) (hd0 : m.doors.length = 0)
    (p2 : OwnAt (w.heap.size + 1 + 1) w3.heap.size w3 3 ia (M.encIs m.keys))
    (q3 : m.keys.length ≤ ic) (q4 : ic ≤ 9223372036854775807) (hz : w.heap.size + 1 < w3.heap.size) :
    MzPost w m (.returned (.agg #[.int .i64 m.size, .slice (some g) 0 0, .slice ia m.keys.length ic])) (((w3.setCell ⟨w.heap.size + 1, 0, none⟩ u0).setCell ⟨w.heap.size + 1, 1, none⟩ u1).setCell ⟨w.heap.size + 1, 2, none⟩ u2) := by
  have := mz_end (u0 := u0) (u1 := u1) (u2 := u2) (da := some g) (dc := 0) hB (by rw [hd1]; exact OwnAt.nil _ _ _ _ _) p2 (by omega) (by omega) q3 q4 hz
  rwa [hd0] at this
end C
end Go.Proofs.Ythgmkkkfhbjhoaa
