/-
  WHAT THE LIST OF FIVE VARIABLES GIVES THE CONTRACTS: the table of powers of ten reads as laid, and each of the two sentinel errors holds a value of an interface's type. No condition of its own.
-/
import Derived.Test.YtlbnofkjjjbfnaaDoorDoor
import Derived.Test.YtlbnofkjjjbfnaaDoorAtoi
namespace Go.Proofs.YtlbnofkjjjbfnaaDoor
open Go.RowKit
namespace D
theorem gSyn : Tryd.prog.globalNamed "strconv.ErrSyntax" = some 0 := by kernel_rfl
theorem tSyn : (Tryd.prog.globals[0]?).map (·.type) = some 46 := by kernel_rfl
theorem gRan : Tryd.prog.globalNamed "strconv.ErrRange" = some 1 := by kernel_rfl
theorem tRan : (Tryd.prog.globals[1]?).map (·.type) = some 46 := by kernel_rfl
theorem star : ("*" ++ "errors.errorString" : String) = "*errors.errorString" := by decide
theorem rowErr : ∀ u, Tryd.prog.typeName? 3 u = some "*errors.errorString" → u = 86 := fun u h =>
  typeName_ptr_named (nm := "errors.errorString") (by rw [star]; kernel_rfl) (by kernel_rfl) (by decide) u (by rw [star]; exact h)
theorem env5 {W : World} (h : laidMetH Tryd.prog list5 W) : C.Env5 W := by
  rw [MakeChecks.laidMetH_plain _ _ _ (by kernel_rfl)] at h
  have h2 : laidMet Tryd.prog (("internal/strconv.uint64pow10", Lib.tabData .u64 Lib.pow10Tab) :: [("strconv.ErrRange", Rows.laid_strconv_ErrRange), ("strconv.ErrSyntax", Rows.laid_strconv_ErrSyntax)]) W := h.tail.tail
  have h3 := h2.tail
  have h4 := h3.tail
  obtain ⟨a0, _, hv0, _⟩ := laid_sentinel h3 gRan tRan Tryd.underlying46 rowErr Tryd.underlying86 Tryd.underlying88 rfl rfl Tryd.underlying9 (by kernel_rfl) (by kernel_rfl)
  obtain ⟨a1, _, hv1, _⟩ := laid_sentinel h4 gSyn tSyn Tryd.underlying46 rowErr Tryd.underlying86 Tryd.underlying88 rfl rfl Tryd.underlying9 (by kernel_rfl) (by kernel_rfl)
  exact ⟨Lib.tabIs_of_head gTab tTab Tryd.underlying80 Tryd.underlying35 (by kernel_rfl) (by kernel_rfl) h2, ⟨_, _, hv1⟩, ⟨_, _, hv0⟩⟩
end D
end Go.Proofs.YtlbnofkjjjbfnaaDoor
