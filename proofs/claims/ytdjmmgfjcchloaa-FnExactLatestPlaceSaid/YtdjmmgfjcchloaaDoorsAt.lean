/-
  CONTRACTS of spec.l2Node and of DoorsAt on both sides: the places of all doors at a node, in a new list, ascending, or false; what lay in memory stays. No condition but that the maze reads so.
-/
import Derived.Test.YtdjmmgfjcchloaaSpecMaze
import Derived.Test.YtdjmmgfjcchloaaOwn
namespace Go.Proofs.Ytdjmmgfjcchloaa
open Go.RowKit
namespace M
def mzNodeB (m : Mz) (x : Int) : Bool := mazeB m && nodeB m.size x
def touchB (d : Dr) (x : Int) : Bool := decide (d.1 = x ∨ d.2.1 = x)
/-- the places below k whose doors are at x -/
def placesTo (l : List Dr) (x : Int) (k : Nat) : List Int := ((List.range k).filter fun i => touchB (l.getD i default) x).map fun i : Nat => (i : Int)
theorem placesTo_yes {l : List Dr} {x : Int} {k : Nat} (hk : k < l.length) (h : touchB l[k] x = true) : placesTo l x (k + 1) = placesTo l x k ++ [(k : Int)] := by
  unfold placesTo
  have hg : l.getD k default = l[k] := by rw [List.getD_eq_getElem?_getD, List.getElem?_eq_getElem hk]; rfl
  rw [List.range_succ, List.filter_append, List.filter_cons_of_pos (by rw [hg]; exact h)]
  simp
theorem placesTo_no {l : List Dr} {x : Int} {k : Nat} (hk : k < l.length) (h : touchB l[k] x = false) : placesTo l x (k + 1) = placesTo l x k := by
  unfold placesTo
  have hg : l.getD k default = l[k] := by rw [List.getD_eq_getElem?_getD, List.getElem?_eq_getElem hk]; rfl
  rw [List.range_succ, List.filter_append, List.filter_cons_of_neg (by rw [hg, h]; decide)]
  simp
theorem placesTo_len (l : List Dr) (x : Int) (k : Nat) : (placesTo l x k).length ≤ k := by
  unfold placesTo
  rw [List.length_map]
  have := List.length_filter_le (fun i => touchB (l.getD i default) x) (List.range k)
  simpa using this
def doorsAtV (m : Mz) (x : Int) : List Int := if mzNodeB m x then placesTo m.doors x m.doors.length else []
theorem doorsAtV_yes {m : Mz} {x : Int} (h : mzNodeB m x = true) : doorsAtV m x = placesTo m.doors x m.doors.length := by unfold doorsAtV; rw [if_pos h]
theorem doorsAtV_no {m : Mz} {x : Int} (h : mzNodeB m x = false) : doorsAtV m x = [] := by unfold doorsAtV; rw [h]; rfl
theorem doorsAtV_len (m : Mz) (x : Int) : (doorsAtV m x).length ≤ 1048576 := by
  unfold doorsAtV
  split
  · rename_i h
    unfold mzNodeB at h
    rw [Bool.and_eq_true] at h
    have := placesTo_len m.doors x m.doors.length
    have := (valid_of h.1).few
    omega
  · simp
theorem mzNode_no {m : Mz} {x : Int} (h : mazeB m = false) : mzNodeB m x = false := by unfold mzNodeB; rw [h]; rfl
theorem mzNode_no2 {m : Mz} {x : Int} (h : nodeB m.size x = false) : mzNodeB m x = false := by unfold mzNodeB; rw [h]; cases mazeB m <;> rfl
theorem mzNode_yes {m : Mz} {x : Int} (h : mazeB m = true) (h2 : nodeB m.size x = true) : mzNodeB m x = true := by unfold mzNodeB; rw [h, h2]; rfl
end M
namespace C
set_option maxHeartbeats 1600000
set_option maxRecDepth 20000
theorem l2Node_any (w : World) (lo hi : Nat) (m : M.Mz) (a b : Option Addr) (c d : Nat) (x : Int) (h : MzIn lo hi w m a c b d) (hz : hi ≤ w.heap.size) :
    Calls Try.prog 86 #[.agg #[.int .i64 m.size, .slice a m.doors.length c, .slice b m.keys.length d], .int .i64 x] w (BoolPost w (M.mzNodeB m x)) := by
  have H := Lib.hid h
  clear h
  go_enter Try.func86, Try.ntmps86
  go_wp2_with fail
  refine named ?_
  intro W hW
  have hb : Below w.heap.size w W := by rw [hW]; exact below_alloc _ _
  have x1 : Box3 W w.heap.size 29 (.int .i64 m.size) (.slice a m.doors.length c) (.slice b m.keys.length d) := by rw [hW]; exact Box3.new _ _ _ _ rfl
  clear hW
  have hzw := hb.size
  refine (specMaze_any W lo hi m a b c d (H.out.below hb hz) (by omega)).mono ?_
  rintro e w1 ⟨rfl, hb1⟩
  obtain ⟨c0, c1, c2⟩ := (x1.below hb1).cells
  have HB := Lib.hid (hb.trans (hb1.mono hzw))
  clear hb hb1 x1
  cases hm : M.mazeB m with
  | false =>
    have HF := Lib.hid (M.mzNode_no (x := x) hm)
    clear hm
    go_wp2_with fail
    go_ret
    exact ⟨by rw [HF.out]; rfl, HB.out⟩
  | true =>
    have V := M.valid_of hm
    have v1 := V.size1
    have v2 := V.size12
    have hE : M.inB x 0 (m.size - 1) = M.nodeB m.size x := by unfold M.inB M.nodeB; congr 1; apply propext; omega
    have HE := Lib.hid hE
    have HM := Lib.hid hm
    clear V hE hm
    go_wp2_with fail
    refine (l1In_any _ _ _ _).mono ?_
    rintro e w2 ⟨rfl, rfl⟩
    rw [HE.out]
    cases hn : M.nodeB m.size x with
    | false =>
      have HF := Lib.hid (M.mzNode_no2 hn)
      clear hn
      go_wp2_with fail
      go_ret
      exact ⟨by rw [HF.out]; rfl, HB.out⟩
    | true =>
      have HF := Lib.hid (M.mzNode_yes HM.out hn)
      clear hn
      go_wp2_with fail
      go_ret
      exact ⟨by rw [HF.out]; rfl, HB.out⟩
end C
end Go.Proofs.Ytdjmmgfjcchloaa
