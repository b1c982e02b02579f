/-
  MATHEMATICS: the colours that no least win has, own to these proofs. No condition.
-/
import Derived.Test.YtcoaggnilgfjfaaSClu
namespace Go.Proofs.Ytcoaggnilgfjfaa
open Go.RowKit
namespace M
noncomputable def idleV (m : Mz) : Int := if mazeB m then subAll (leastF (wF m)) 63 else 0
end M
namespace C
set_option maxHeartbeats 3200000
set_option maxRecDepth 20000
end C
end Go.Proofs.Ytcoaggnilgfjfaa
