/-
  WORDS for spec.l2Own: what an append leaves unturned. No condition.
-/
import Derived.Test.YthgmkkkfhbjhoaaOwnMaz
namespace Go.Proofs.Ythgmkkkfhbjhoaa
open Go.RowKit
namespace C
set_option maxHeartbeats 32000000
set_option maxRecDepth 20000
theorem turned_of_grown {w w' : World} {row : Option Nat} {g : Nat} (hg : w.grownBy w' row) (hr : row = some g) : Turned g (g + 1) w w' :=
  ⟨hg.os, hg.tape, hg.output, hg.size, fun k hk ho => hg.block k hk (fun e => by rw [hr] at e; injection e; omega)⟩
theorem run_app_nil0 {P : Program} (t ty e : TypeId) (i : TypeInfo) (ht : P.underlying t = some (.slice e)) (hi : P.info? e = some i) (w : World) (g c : Nat) :
    (Builtin.append_ #[t, t] ty #[.slice (some ⟨g, 0, none⟩) 0 0, .slice none 0 c]).run P w = .ok (.slice (some ⟨g, 0, none⟩) 0 0) w := by
  simp [Builtin.append_, run_underlying ht, sizeOf, typeInfo, hi, Builtin.lenOf, Builtin.firstCells, storeCells]
/-- a row of doors held by the call so far -/
def ownsNow (w : World) (B : Nat) (v : Value) (m : M.Mz) : Prop := w.ownsRow B 48 3 v m.doors.length (M.encDs m.doors)
end C
end Go.Proofs.Ythgmkkkfhbjhoaa
