/-
  CONTRACT of impl.digitsOf: the places of the binary digits 1, in a new list, ascending; what lay in memory stays. Condition: a number below 4096 (64 for colours).
-/
import Derived.Test.YtkkfmleoamhgkaaSets
namespace Go.Proofs.Ytkkfmleoamhgkaa
open Go.RowKit
namespace M
theorem wraps_i64 (n : Int) (h0 : 0 ≤ n) (h1 : n < 2 ^ 62) : IntKind.i64.wrap n = n := by rw [IntKind.wrap_i64]; omega
theorem and1 (n : Nat) (h : n < 4096) : bits .and .i64 (n : Int) 1 = ((n % 2 : Nat) : Int) := by
  have := (bits_nat .i64 62 (by decide) wraps_i64 n 1 (by omega) (by decide)).1
  rw [Nat.and_one_is_mod] at this
  exact this
theorem shr_nat (n p : Nat) : (n : Int) / 2 ^ p = ((n / 2 ^ p : Nat) : Int) := by simp
end M
namespace C
set_option maxHeartbeats 800000
set_option maxRecDepth 20000
end C
end Go.Proofs.Ytkkfmleoamhgkaa
