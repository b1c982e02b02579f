/-
  CONTRACTS of the model's RoundsOf, GainAtLast, l3Wins, CanWin, NodeRounds, WinRound; what lay in memory stays. No condition but that the maze reads so.
-/
import Derived.Test.YtkkfmleoamhgkaaSpecMaze
import Derived.Test.YtkkfmleoamhgkaaGainMath
import Derived.Test.YtkkfmleoamhgkaaClone
import Derived.Deep.RegionHeld3
import Derived.Deep.RegionLaw
import Derived.Test.YtkkfmleoamhgkaaMem
import Derived.Laws.StructEq
import Derived.ProofKit
import Derived.Test.YtkkfmleoamhgkaaPutMath
import Derived.Test.YtkkfmleoamhgkaaInts
import Derived.Test.YtkkfmleoamhgkaaOpenMath
import Derived.Test.YtkkfmleoamhgkaaOwn
import Derived.Test.YtkkfmleoamhgkaaOpenTo
import Derived.Maps.AppendAt
import Derived.Test.YtkkfmleoamhgkaaOpen
import Derived.Deep.RegionWith
import Derived.Deep.DeepCutAuto
import Derived.OwnWalk
import Derived.IntWalk
namespace Go.Proofs.Ytkkfmleoamhgkaa
open Go.RowKit
namespace C
set_option maxHeartbeats 1600000
set_option maxRecDepth 20000
def BoolsPost (w : World) (r ok : Bool) (e : Ending) (w' : World) : Prop := e = .returned (.tuple #[.bool r, .bool ok]) ∧ Below w.heap.size w w'
def GainPost (w : World) (s : Int) (l : List Int) (ok : Bool) (e : Ending) (w' : World) : Prop :=
  ∃ a c, e = .returned (.tuple #[.int .i64 s, .slice a l.length c, .bool ok]) ∧ OwnAt w.heap.size w'.heap.size w' 3 a (M.encIs l) ∧ l.length ≤ c ∧ c ≤ 9223372036854775807 ∧ Below w.heap.size w w'
end C
end Go.Proofs.Ytkkfmleoamhgkaa
