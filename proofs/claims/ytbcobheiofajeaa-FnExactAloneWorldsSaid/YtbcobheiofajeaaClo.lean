/-
  CLOSED FACTS of the whole program that every row asks for, own to these proofs: proved once here, not anew in each law. No condition.
-/
import Derived.Test.YtbcobheiofajeaaRows
import Derived.WalkKit
import Derived.ProofKit
import Derived.JoinedOf
namespace Go.Proofs.Ytbcobheiofajeaa
open Go.RowKit
namespace P
theorem cloMake : Try.prog.make = some ({ program := "", sum := "", func := "", spec := "" } : OpenClaim).make := by kernel_rfl
theorem cloEnter : Try.prog.mayEnter = true := by kernel_rfl
theorem cloLift : Try.prog.liftsFinal = false := by kernel_rfl
end P
end Go.Proofs.Ytbcobheiofajeaa
