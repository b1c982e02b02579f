/-
  MATHEMATICS of the numbers of nodes below 4096, own to these proofs. No condition.
-/
import Derived.Test.YthgmkkkfhbjhoaaOpenTo
import Derived.Test.YthgmkkkfhbjhoaaDigitsI
import Derived.Test.YthgmkkkfhbjhoaaSpecMaze
import Derived.Test.YthgmkkkfhbjhoaaReachMath
namespace Go.Proofs.Ythgmkkkfhbjhoaa
open Go.RowKit
namespace M
theorem and4 (a b : Nat) (ha : a < 4096) (hb : b < 4096) : bits .and .i64 (a : Int) (b : Int) = ((a &&& b : Nat) : Int) := (bits_nat .i64 62 (by decide) wraps_i64 a b (by omega) (by omega)).1
theorem or4 (a b : Nat) (ha : a < 4096) (hb : b < 4096) : bits .or .i64 (a : Int) (b : Int) = ((a ||| b : Nat) : Int) := (bits_nat .i64 62 (by decide) wraps_i64 a b (by omega) (by omega)).2
theorem pow12 {k : Nat} (h : k < 12) : 2 ^ k < 4096 := by
  have h12 : (2 : Nat) ^ 12 = 4096 := rfl
  rw [← h12]
  exact Nat.pow_lt_pow_of_lt (by decide) h
theorem wrap_pow {k : Nat} (h : k < 12) : wrap64 (2 ^ k) = ((2 ^ k : Nat) : Int) := by
  have := pow12 h
  have e : ((2 : Int) ^ k) = ((2 ^ k : Nat) : Int) := by simp
  rw [e]
  generalize 2 ^ k = n at this
  unfold wrap64
  omega
theorem endsI (d : Dr) (h1 : d.1 < 12) (h2 : d.2.1 < 12) : bits .or .i64 (wrap64 (2 ^ d.1.toNat)) (wrap64 (2 ^ d.2.1.toNat)) = ((endsN d : Nat) : Int) := by
  rw [wrap_pow (by omega), wrap_pow (by omega), or4 _ _ (pow12 (by omega)) (pow12 (by omega))]
  rfl
end M
end Go.Proofs.Ythgmkkkfhbjhoaa
