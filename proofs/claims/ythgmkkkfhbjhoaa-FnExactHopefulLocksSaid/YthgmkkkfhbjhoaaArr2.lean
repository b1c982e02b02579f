/-
  CLOSED FACTS on arrays of two and three numbers: '==', a slice turned to an array. No condition.
-/
import Derived.Test.YthgmkkkfhbjhoaaMem
import Derived.Laws.StructEq
import Derived.ProofKit
namespace Go.Proofs.Ythgmkkkfhbjhoaa
open Go.RowKit
namespace C
theorem eqA3 (a b e c d f : Int) (w : World) : (Op.equalIn 10000 48 (.agg #[.int .i64 a, .int .i64 b, .int .i64 e]) (.agg #[.int .i64 c, .int .i64 d, .int .i64 f])).run Try.prog w = .ok (a == c && b == d && e == f) w := by
  have u3 := Try.underlying3
  have a3 := Try.isAgg3
  have z3 := Try.sizeOf3
  rw [show (10000 : Nat) = 9999 + 1 from rfl, Op.equalIn]
  simp only [Sem.run_bind, run_underlying Try.underlying48, Result.andThen_ok]
  simp only [Std.Legacy.Range.forIn_eq_forIn_range', Std.Legacy.Range.size, Nat.sub_zero, Nat.add_sub_cancel, Nat.div_one, List.range'_succ, List.range'_zero, List.forIn_cons, List.forIn_nil]
  go_simp
  by_cases h1 : a = c <;> by_cases h2 : b = d <;> by_cases h3 : e = f <;> simp [h1, h2, h3]
theorem sl23 (g : Nat) (w : World) : (Instr.sliceAt 48 (.pointer (some ⟨g, 0, none⟩)) none (some (.int .i64 2)) none).run Try.prog w = .ok (.slice (some ⟨g, 0, none⟩) 2 3) w := by kernel_rfl
theorem eqT3 : Try.prog.eqGuardType Try.prog.depth 48 = false := by kernel_rfl
end C
end Go.Proofs.Ythgmkkkfhbjhoaa
