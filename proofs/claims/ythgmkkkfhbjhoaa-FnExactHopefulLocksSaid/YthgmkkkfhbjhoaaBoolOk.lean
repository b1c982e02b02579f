/-
  WORDS for two results, own to these proofs: a bool and whether the arguments were valid. No condition.
-/
import Derived.Test.YthgmkkkfhbjhoaaMem
namespace Go.Proofs.Ythgmkkkfhbjhoaa
open Go.RowKit
namespace C
def BoolOkPost (w : World) (r ok : Bool) (e : Ending) (w' : World) : Prop := e = .returned (.tuple #[.bool r, .bool ok]) ∧ Below w.heap.size w w'
end C
end Go.Proofs.Ythgmkkkfhbjhoaa
