/-
  CONTRACTS of spec.l2Node and of DoorsAt on both sides: the places of all doors at a node, in a new list, ascending, or false; what lay in memory stays. No condition but that the maze reads so.
-/
import Derived.Test.YthgmkkkfhbjhoaaSpecMaze
import Derived.Test.YthgmkkkfhbjhoaaOwn
namespace Go.Proofs.Ythgmkkkfhbjhoaa
open Go.RowKit
namespace M
def mzNodeB (m : Mz) (x : Int) : Bool := mazeB m && nodeB m.size x
def touchB (d : Dr) (x : Int) : Bool := decide (d.1 = x ∨ d.2.1 = x)
/-- the places below k whose doors are at x -/
def placesTo (l : List Dr) (x : Int) (k : Nat) : List Int := ((List.range k).filter fun i => touchB (l.getD i default) x).map fun i : Nat => (i : Int)
theorem placesTo_yes {l : List Dr} {x : Int} {k : Nat} (hk : k < l.length) (h : touchB l[k] x = true) : placesTo l x (k + 1) = placesTo l x k ++ [(k : Int)] := by
  unfold placesTo
  have hg : l.getD k default = l[k] := by rw [List.getD_eq_getElem?_getD, List.getElem?_eq_getElem hk]; rfl
  rw [List.range_succ, List.filter_append, List.filter_cons_of_pos (by rw [hg]; exact h)]
  simp
theorem placesTo_no {l : List Dr} {x : Int} {k : Nat} (hk : k < l.length) (h : touchB l[k] x = false) : placesTo l x (k + 1) = placesTo l x k := by
  unfold placesTo
  have hg : l.getD k default = l[k] := by rw [List.getD_eq_getElem?_getD, List.getElem?_eq_getElem hk]; rfl
  rw [List.range_succ, List.filter_append, List.filter_cons_of_neg (by rw [hg, h]; decide)]
  simp
theorem placesTo_len (l : List Dr) (x : Int) (k : Nat) : (placesTo l x k).length ≤ k := by
  unfold placesTo
  rw [List.length_map]
  have := List.length_filter_le (fun i => touchB (l.getD i default) x) (List.range k)
  simpa using this
def doorsAtV (m : Mz) (x : Int) : List Int := if mzNodeB m x then placesTo m.doors x m.doors.length else []
theorem doorsAtV_yes {m : Mz} {x : Int} (h : mzNodeB m x = true) : doorsAtV m x = placesTo m.doors x m.doors.length := by unfold doorsAtV; rw [if_pos h]
theorem doorsAtV_no {m : Mz} {x : Int} (h : mzNodeB m x = false) : doorsAtV m x = [] := by unfold doorsAtV; rw [h]; rfl
theorem doorsAtV_len (m : Mz) (x : Int) : (doorsAtV m x).length ≤ 1048576 := by
  unfold doorsAtV
  split
  · rename_i h
    unfold mzNodeB at h
    rw [Bool.and_eq_true] at h
    have := placesTo_len m.doors x m.doors.length
    have := (valid_of h.1).few
    omega
  · simp
theorem mzNode_no {m : Mz} {x : Int} (h : mazeB m = false) : mzNodeB m x = false := by unfold mzNodeB; rw [h]; rfl
theorem mzNode_no2 {m : Mz} {x : Int} (h : nodeB m.size x = false) : mzNodeB m x = false := by unfold mzNodeB; rw [h]; cases mazeB m <;> rfl
theorem mzNode_yes {m : Mz} {x : Int} (h : mazeB m = true) (h2 : nodeB m.size x = true) : mzNodeB m x = true := by unfold mzNodeB; rw [h, h2]; rfl
end M
namespace C
set_option maxHeartbeats 1600000
set_option maxRecDepth 20000
end C
end Go.Proofs.Ythgmkkkfhbjhoaa
