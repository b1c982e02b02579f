/-
  CONTRACT of math/bits.OnesCount at a set of colours: how many colours it has; memory stays as it is. Condition: a number from 0 to 63.
-/
import Derived.Test.YtdgfceiobpnchaaSets
namespace Go.Proofs.Ytdgfceiobpnchaa
open Go.RowKit
namespace M
def o1 (x : Int) : Int := IntKind.u64.wrap (bits .and .u64 (x / 2) 6148914691236517205 + bits .and .u64 x 6148914691236517205)
def o2 (x : Int) : Int := IntKind.u64.wrap (bits .and .u64 (o1 x / 4) 3689348814741910323 + bits .and .u64 (o1 x) 3689348814741910323)
def o3 (x : Int) : Int := bits .and .u64 (IntKind.u64.wrap (o2 x / 16 + o2 x)) 1085102592571150095
def o4 (x : Int) : Int := IntKind.u64.wrap (o3 x + o3 x / 256)
def o5 (x : Int) : Int := IntKind.u64.wrap (o4 x + o4 x / 65536)
def o6 (x : Int) : Int := IntKind.u64.wrap (o5 x + o5 x / 4294967296)
/-- how many colours a set has -/
def many (x : Int) : Int := bits .and .i64 (wrap64 (o6 x)) 127
theorem many_fin : ∀ x : Fin 64, 0 ≤ many (x.val : Int) ∧ many (x.val : Int) ≤ 6 := by decide +kernel
theorem many_le {x : Int} (h0 : 0 ≤ x) (h1 : x < 64) : 0 ≤ many x ∧ many x ≤ 6 := by
  have := many_fin ⟨x.toNat, by omega⟩
  simp only at this
  rwa [show ((x.toNat : Nat) : Int) = x by omega] at this
end M
namespace C
set_option maxHeartbeats 1600000
set_option maxRecDepth 20000
theorem ones64_any (x : Int) (w : World) (_h0 : 0 ≤ x) (_h1 : x < 64) : Calls Try.prog 144 #[.int .u64 x] w fun e w' => e = .returned (.int .i64 (M.many x)) ∧ w = w' := by
  go_enter Try.func144, Try.ntmps144
  go_wp2_with fail
  go_ret
  exact ⟨rfl, rfl⟩
theorem ones_any (x : Int) (w : World) (h0 : 0 ≤ x) (h1 : x < 64) : Calls Try.prog 125 #[.int .u64 x] w fun e w' => e = .returned (.int .i64 (M.many x)) ∧ w = w' := by
  go_enter Try.func125, Try.ntmps125
  go_wp2_with fail
  refine (ones64_any x w h0 h1).mono ?_
  rintro e w1 ⟨rfl, rfl⟩
  go_wp2_with fail
  go_ret
  exact ⟨rfl, rfl⟩
end C
end Go.Proofs.Ytdgfceiobpnchaa
