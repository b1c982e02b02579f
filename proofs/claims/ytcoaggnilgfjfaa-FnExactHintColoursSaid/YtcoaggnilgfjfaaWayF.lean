/-
  CONTRACTS of impl's FewestWith, FewestSteps, StatesOf; what lay in memory stays. No condition but that the maze reads so.
-/
import Derived.Test.YtcoaggnilgfjfaaWayI
import Derived.Test.YtcoaggnilgfjfaaLate
import Derived.Test.YtcoaggnilgfjfaaStep
import Derived.Test.YtcoaggnilgfjfaaUValid
namespace Go.Proofs.Ytcoaggnilgfjfaa
open Go.RowKit
namespace M
/-- where one begins -/
def st0 (m : Mz) : St := stAt m 0 0
theorem st0_ok {m : Mz} (V : Valid m) : StOk m (st0 m) := stAt_ok V (by omega) (by have := V.size1; omega) (by decide) (by decide)
/-- the least number of steps from a state to where p holds -/
noncomputable def wayO (m : Mz) (s : St) (p : St → Bool) : Option Nat := minO (fun t => p t = true) (dst (nexts m) [s])
def wantW (m : Mz) (set : Int) (t : St) : Bool := (t.1 == m.size - 1) && hasB t.2 set
noncomputable def fwO (m : Mz) (set : Int) : Option Nat := if mazeB m && setB set then wayO m (st0 m) (wantW m set) else none
def wonB (m : Mz) (t : St) : Bool := t.1 == m.size - 1
def optV (r : Option Nat) : Int := (r.getD 0 : Nat)
noncomputable def ffO (m : Mz) (x set : Int) : Option Nat := if mazeB m && (nodeB m.size x && setB set) then wayO m (stAt m x set) (wonB m) else none
/-- how many keys there are -/
def IsCnt (f : St → Option Nat) (n : Nat) : Prop := ∃ L : List St, L.Nodup ∧ (∀ s, s ∈ L ↔ ∃ k, f s = some k) ∧ L.length = n
theorem IsCnt.unique {f : St → Option Nat} {n k : Nat} (h : IsCnt f n) (h' : IsCnt f k) : n = k := by
  obtain ⟨L, h1, h2, rfl⟩ := h
  obtain ⟨L', h3, h4, rfl⟩ := h'
  exact ((List.perm_ext_iff_of_nodup h1 h3).2 fun s => (h2 s).trans (h4 s).symm).length_eq
noncomputable def cntO (f : St → Option Nat) : Nat := by classical exact if h : ∃ n, IsCnt f n then Classical.choose h else 0
theorem cntO_eq {f : St → Option Nat} {n : Nat} (h : IsCnt f n) : cntO f = n := by
  unfold cntO
  have h' : ∃ n, IsCnt f n := ⟨n, h⟩
  rw [dif_pos h']
  exact (Classical.choose_spec h').unique h
noncomputable def statesV (m : Mz) : Int := if mazeB m then (cntO (dst (nexts m) [st0 m]) : Nat) else 0
end M
namespace C
set_option maxHeartbeats 3200000
set_option maxRecDepth 20000
end C
end Go.Proofs.Ytcoaggnilgfjfaa
