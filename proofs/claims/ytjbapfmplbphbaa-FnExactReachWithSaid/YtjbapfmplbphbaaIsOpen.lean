/-
  CONTRACTS of IsOpenTo on both sides, and of impl's isOpen: whether there is a door that is open to a set; what lay in memory stays. Condition: for isOpen, a valid maze and a set of colours.
-/
import Derived.Test.YtjbapfmplbphbaaNeeds
namespace Go.Proofs.Ytjbapfmplbphbaa
open Go.RowKit
namespace M
def openVB (m : Mz) (x y set : Int) : Bool := mzNodeB m x && (nodeB m.size y && setB set)
def openV (m : Mz) (x y set : Int) : Bool := openVB m x y set && openB m.doors x y set
end M
namespace C
set_option maxHeartbeats 1600000
set_option maxRecDepth 20000
def BoolOkPost (w : World) (r ok : Bool) (e : Ending) (w' : World) : Prop := e = .returned (.tuple #[.bool r, .bool ok]) ∧ Below w.heap.size w w'
end C
end Go.Proofs.Ytjbapfmplbphbaa
