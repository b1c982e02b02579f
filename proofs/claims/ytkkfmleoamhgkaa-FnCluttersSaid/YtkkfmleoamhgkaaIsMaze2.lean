/-
  CONTRACT of impl.IsMaze: it tells whether a maze is valid; what lay in memory stays. No condition but that the maze reads so.
-/
import Derived.Test.YtkkfmleoamhgkaaNode
import Derived.Sort.Grow
import Derived.IntWalk
import Derived.Shelf.SlSortCmp.QuietGrown
namespace Go.Proofs.Ytkkfmleoamhgkaa
open Go.RowKit
namespace C
set_option maxHeartbeats 800000
set_option maxRecDepth 20000
def BoolPost (w : World) (r : Bool) (e : Ending) (w' : World) : Prop := e = .returned (.bool r) ∧ Below w.heap.size w w'
end C
end Go.Proofs.Ytkkfmleoamhgkaa
