/-
  CONTRACTS of impl's StepsTable, StepsAndKeys, FewestKeys, DetourOf; what lay in memory stays. No condition but that the maze reads so.
-/
import Derived.Test.YtcoaggnilgfjfaaWayF
import Derived.Test.YtcoaggnilgfjfaaOnes
import Derived.Test.YtcoaggnilgfjfaaIdxI
import Derived.Deep.RegionWith
namespace Go.Proofs.Ytcoaggnilgfjfaa
open Go.RowKit
namespace M
def nodeP (x : Int) (t : St) : Bool := t.1 == x
def keysP (m : Mz) (n : Int) (t : St) : Bool := wonB m t && decide (many t.2 ≤ n)
/-- the numbers of steps to where p holds, for each of the first k numbers -/
noncomputable def stepsTo (m : Mz) (p : Int → St → Bool) (k : Nat) : List Int := (List.range k).map fun x : Nat => optI (wayO m (st0 m) (p x))
theorem stepsTo_len (m : Mz) (p : Int → St → Bool) (k : Nat) : (stepsTo m p k).length = k := by unfold stepsTo; simp
theorem stepsTo_succ (m : Mz) (p : Int → St → Bool) (k : Nat) : stepsTo m p (k + 1) = stepsTo m p k ++ [optI (wayO m (st0 m) (p k))] := by unfold stepsTo; rw [List.range_succ, List.map_append]; rfl
noncomputable def tabV (m : Mz) : List Int := if mazeB m then stepsTo m nodeP m.size.toNat else []
noncomputable def sakV (m : Mz) : List Int := if mazeB m then stepsTo m (keysP m) 7 else []
theorem dst_ok {m : Mz} (V : Valid m) {s t : St} (hs : StOk m s) {k : Nat} (h : dst (nexts m) [s] t = some k) : StOk m t := by
  have hd := dst_is (nexts m) [s] t
  rw [h] at hd
  exact hd.1.inside (fun u hu => by rw [List.mem_singleton] at hu; subst hu; exact hs) fun u hu v hv => nexts_ok V hu hv
/-- the first number of colours with which one wins -/
noncomputable def fkO (m : Mz) : Option Nat := if mazeB m then lst (fun n => n < 7 ∧ ∃ v, wayO m (st0 m) (keysP m n) = some v) else none
noncomputable def detV (m : Mz) : Int := match fwO m 0 with | some n => wrap64 ((n : Int) - optV (ffO m 0 63)) | none => 0
end M
namespace C
set_option maxHeartbeats 3200000
set_option maxRecDepth 20000
theorem in_ok {w : World} {b : Nat} {L : List M.St} {m : M.Mz} (V : M.Valid m) {s : M.St} (hs : M.StOk m s) (h : MapP w b L (M.dst (M.nexts m) [s])) : ∀ t ∈ L, M.StOk m t := fun t ht => by
  obtain ⟨k, hk⟩ := (h.some_iff t).1 ht
  exact M.dst_ok V hs hk
end C
end Go.Proofs.Ytcoaggnilgfjfaa
