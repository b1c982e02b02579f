/-
  CONTRACTS of spec.l2Node and of DoorsAt on both sides: the places of all doors at a node, in a new list, ascending, or false; what lay in memory stays. No condition but that the maze reads so.
-/
import Derived.Test.YtoiapfdlbkncaaaSpecMaze
import Derived.Test.YtoiapfdlbkncaaaOwn
namespace Go.Proofs.Ytoiapfdlbkncaaa
open Go.RowKit
namespace M
def mzNodeB (m : Mz) (x : Int) : Bool := mazeB m && nodeB m.size x
def touchB (d : Dr) (x : Int) : Bool := decide (d.1 = x ∨ d.2.1 = x)
/-- the places below k whose doors are at x -/
def placesTo (l : List Dr) (x : Int) (k : Nat) : List Int := ((List.range k).filter fun i => touchB (l.getD i default) x).map fun i : Nat => (i : Int)
theorem placesTo_yes {l : List Dr} {x : Int} {k : Nat} (hk : k < l.length) (h : touchB l[k] x = true) : placesTo l x (k + 1) = placesTo l x k ++ [(k : Int)] := by
  unfold placesTo
  have hg : l.getD k default = l[k] := by rw [List.getD_eq_getElem?_getD, List.getElem?_eq_getElem hk]; rfl
  rw [List.range_succ, List.filter_append, List.filter_cons_of_pos (by rw [hg]; exact h)]
  simp
theorem placesTo_no {l : List Dr} {x : Int} {k : Nat} (hk : k < l.length) (h : touchB l[k] x = false) : placesTo l x (k + 1) = placesTo l x k := by
  unfold placesTo
  have hg : l.getD k default = l[k] := by rw [List.getD_eq_getElem?_getD, List.getElem?_eq_getElem hk]; rfl
  rw [List.range_succ, List.filter_append, List.filter_cons_of_neg (by rw [hg, h]; decide)]
  simp
theorem placesTo_len (l : List Dr) (x : Int) (k : Nat) : (placesTo l x k).length ≤ k := by
  unfold placesTo
  rw [List.length_map]
  have := List.length_filter_le (fun i => touchB (l.getD i default) x) (List.range k)
  simpa using this
def doorsAtV (m : Mz) (x : Int) : List Int := if mzNodeB m x then placesTo m.doors x m.doors.length else []
theorem doorsAtV_yes {m : Mz} {x : Int} (h : mzNodeB m x = true) : doorsAtV m x = placesTo m.doors x m.doors.length := by unfold doorsAtV; rw [if_pos h]
theorem doorsAtV_no {m : Mz} {x : Int} (h : mzNodeB m x = false) : doorsAtV m x = [] := by unfold doorsAtV; rw [h]; rfl
theorem doorsAtV_len (m : Mz) (x : Int) : (doorsAtV m x).length ≤ 1048576 := by
  unfold doorsAtV
  split
  · rename_i h
    unfold mzNodeB at h
    rw [Bool.and_eq_true] at h
    have := placesTo_len m.doors x m.doors.length
    have := (valid_of h.1).few
    omega
  · simp
theorem mzNode_no {m : Mz} {x : Int} (h : mazeB m = false) : mzNodeB m x = false := by unfold mzNodeB; rw [h]; rfl
theorem mzNode_no2 {m : Mz} {x : Int} (h : nodeB m.size x = false) : mzNodeB m x = false := by unfold mzNodeB; rw [h]; cases mazeB m <;> rfl
theorem mzNode_yes {m : Mz} {x : Int} (h : mazeB m = true) (h2 : nodeB m.size x = true) : mzNodeB m x = true := by unfold mzNodeB; rw [h, h2]; rfl
end M
namespace C
set_option maxHeartbeats 1600000
set_option maxRecDepth 20000
theorem l2Node_any (w : World) (lo hi : Nat) (m : M.Mz) (a b : Option Addr) (c d : Nat) (x : Int) (h : MzIn lo hi w m a c b d) (hz : hi ≤ w.heap.size) :
    Calls Try.prog 60 #[.agg #[.int .i64 m.size, .slice a m.doors.length c, .slice b m.keys.length d], .int .i64 x] w (BoolPost w (M.mzNodeB m x)) := by
  have H := Lib.hid h
  clear h
  go_enter Try.func60, Try.ntmps60
  go_wp2_with fail
  refine named ?_
  intro W hW
  have hb : Below w.heap.size w W := by rw [hW]; exact below_alloc _ _
  have x1 : Box3 W w.heap.size 29 (.int .i64 m.size) (.slice a m.doors.length c) (.slice b m.keys.length d) := by rw [hW]; exact Box3.new _ _ _ _ rfl
  clear hW
  have hzw := hb.size
  refine (specMaze_any W lo hi m a b c d (H.out.below hb hz) (by omega)).mono ?_
  rintro e w1 ⟨rfl, hb1⟩
  obtain ⟨c0, c1, c2⟩ := (x1.below hb1).cells
  have HB := Lib.hid (hb.trans (hb1.mono hzw))
  clear hb hb1 x1
  cases hm : M.mazeB m with
  | false =>
    have HF := Lib.hid (M.mzNode_no (x := x) hm)
    clear hm
    go_wp2_with fail
    go_ret
    exact ⟨by rw [HF.out]; rfl, HB.out⟩
  | true =>
    have V := M.valid_of hm
    have v1 := V.size1
    have v2 := V.size12
    have hE : M.inB x 0 (m.size - 1) = M.nodeB m.size x := by unfold M.inB M.nodeB; congr 1; apply propext; omega
    have HE := Lib.hid hE
    have HM := Lib.hid hm
    clear V hE hm
    go_wp2_with fail
    refine (l1In_any _ _ _ _).mono ?_
    rintro e w2 ⟨rfl, rfl⟩
    rw [HE.out]
    cases hn : M.nodeB m.size x with
    | false =>
      have HF := Lib.hid (M.mzNode_no2 hn)
      clear hn
      go_wp2_with fail
      go_ret
      exact ⟨by rw [HF.out]; rfl, HB.out⟩
    | true =>
      have HF := Lib.hid (M.mzNode_yes HM.out hn)
      clear hn
      go_wp2_with fail
      go_ret
      exact ⟨by rw [HF.out]; rfl, HB.out⟩
theorem implDoorsAt_lw (w : World) (lo hi : Nat) (m : M.Mz) (a b : Option Addr) (c d : Nat) (h : MzIn lo hi w m a c b d) (hz : hi ≤ w.heap.size) (_h1 : m.doors.length ≤ 1048576) (_h2 : m.keys.length ≤ 1048576) (x : Int) (_h3 : -9223372036854775808 ≤ x) (_h4 : x ≤ 9223372036854775807) :
    Calls Try.prog 57 #[.agg #[.int .i64 m.size, .slice a m.doors.length c, .slice b m.keys.length d], .int .i64 x] w (IntsOkPost w (M.doorsAtV m x) (M.mzNodeB m x)) := by
  obtain ⟨i0, hi0, hz0, hz1, hz2⟩ := info_parts infoI
  have H := Lib.hid h
  have hc1 := h.c1
  have hc2 := h.c2
  clear h
  go_enter Try.func57, Try.ntmps57
  go_wp2_with fail
  refine named ?_
  intro W hW
  have hb : Below w.heap.size w W := by rw [hW]; exact below_alloc _ _
  have x1 : Box3 W w.heap.size 29 (.int .i64 m.size) (.slice a m.doors.length c) (.slice b m.keys.length d) := by rw [hW]; exact Box3.new _ _ _ _ rfl
  clear hW
  have hzw := hb.size
  refine (isMaze_any W lo hi m a b c d (H.out.below hb hz) (by omega)).mono ?_
  rintro e w1 ⟨rfl, hb1⟩
  have x2 := x1.below hb1
  have hbx := x2.lt
  have HB := Lib.hid (hb.trans (hb1.mono hzw))
  have hz1w := hb1.size
  clear hb hb1 x1
  obtain ⟨y0, y1, y2⟩ := x2.cells
  have X2 := Lib.hid x2
  clear x2
  cases hm : M.mazeB m with
  | false =>
    have HNN := Lib.hid (M.mzNode_no (x := x) hm)
    have HF := Lib.hid (M.doorsAtV_no HNN.out)
    clear hm
    go_wp2_with fail
    go_ret2
    rw [HF.out, HNN.out]
    refine intsOk_end (l := []) (ownsRow_empty _ _ _ _ (by omega)) (HB.out.alloc (by omega) _)
  | true =>
    have V := M.valid_of hm
    have v30 := V.few
    have HM := Lib.hid hm
    clear V hm
    go_wp2_with fail
    refine (hasNode_any m _ _ _ _ _ _).mono ?_
    rintro e w2 ⟨rfl, rfl⟩
    cases hn : M.nodeB m.size x with
    | false =>
      have HNN := Lib.hid (M.mzNode_no2 hn)
      have HF := Lib.hid (M.doorsAtV_no HNN.out)
      clear hn
      go_wp2_with fail
      go_ret2
      rw [HF.out, HNN.out]
      have := ownsRow_empty (w1.alloc (.cells #[.int .i64 m.size, .slice a m.doors.length c, .slice b m.keys.length d] 29)) w.heap.size 3 1 (by simp; omega)
      have this0 : ((w1.alloc (.cells #[.int .i64 m.size, .slice a m.doors.length c, .slice b m.keys.length d] 29)).alloc (.cells #[] 3)).ownsRow w.heap.size 3 1 (.slice (some ⟨w1.heap.size + 1, 0, none⟩) 0 0) 0 [] := by simpa using this
      refine intsOk_end (l := []) this0 ((HB.out.alloc (by omega) _).alloc (by simp; omega) _)
    | true =>
      have HNN := Lib.hid (M.mzNode_yes HM.out hn)
      have HF := Lib.hid (M.doorsAtV_yes HNN.out)
      clear hn
      go_wp2_with fail
      go_loopw [6, 7, 8, 23] (fun v _ _ i wr => ∃ (k : Nat), k ≤ m.doors.length ∧ i = .int .i64 k ∧ wr.ownsRow w.heap.size 3 1 v (M.placesTo m.doors x k).length (M.encIs (M.placesTo m.doors x k)) ∧ Below w.heap.size w wr) (fun _ _ _ i _ => m.doors.length - (intOf i).toNat)
      case atStart =>
        have := ownsRow_empty (w1.alloc (.cells #[.int .i64 m.size, .slice a m.doors.length c, .slice b m.keys.length d] 29)) w.heap.size 3 1 (by simp; omega)
        have this0 : ((w1.alloc (.cells #[.int .i64 m.size, .slice a m.doors.length c, .slice b m.keys.length d] 29)).alloc (.cells #[] 3)).ownsRow w.heap.size 3 1 (.slice (some ⟨w1.heap.size + 1, 0, none⟩) 0 0) 0 [] := by simpa using this
        exact ⟨0, Nat.zero_le _, rfl, this0, (HB.out.alloc (by omega) _).alloc (by simp; omega) _⟩
      case round =>
        obtain ⟨k, hk, rfl, hown, hnx⟩ := hrel
        have HN := Lib.hid hnx
        have HO := Lib.hid hown
        have hzr := hnx.size
        have hlen := M.placesTo_len m.doors x k
        clear hnx
        by_cases hlt : k < m.doors.length
        · obtain ⟨db, off, rfl, _, hdb, hc0⟩ := (H.out.doors.below HN.out hz).at_ (k := k * 3) (by rw [M.encDs_len]; omega)
          have a0 := hc0 _ _ (M.encDs_at0 hlt)
          have a1 : wr.cell? ⟨db, off + k * 3 + 1, none⟩ = some (.int .i64 m.doors[k].2.1) := hc0 _ _ (M.encDs_at1 hlt)
          have a2 : wr.cell? ⟨db, off + k * 3 + 2, none⟩ = some (.int .i64 m.doors[k].2.2) := hc0 _ _ (M.encDs_at2 hlt)
          clear hc0
          have hcn := cell_one_new (wr.alloc (.cells #[.int .i64 m.doors[k].1, .int .i64 m.doors[k].2.1, .int .i64 m.doors[k].2.2] 81)) (.int .i64 (k : Int)) 3
          rw [World.size_alloc] at hcn
          have HCN := Lib.hid hcn
          clear hcn
          by_cases t1 : m.doors[k].1 = x
          · have HD := Lib.hid (M.placesTo_yes hlt (decide_eq_true (.inl t1)))
            have e1 : (m.doors[k].1 == x) = true := by simpa using t1
            clear t1
            go_wp2_with (at_builtin; refine wpList_append_own _ rfl _ _ 23 rfl w.heap.size 3 i0 (.int .i64 0) 1 8 Try.underlying23 hi0 hz0 hz1 hz2 rfl (by decide) _ _ _ rfl ((hown.alloc _).alloc _) ⟨wr.heap.size + 1, 0, none⟩ 1 1 [.int .i64 (k : Int)] rfl rfl HCN.out (fun x hx => by simp at hx; subst hx; rfl) (by unfold maxLen; omega) (by omega) (by simp; omega) ?_; intro v' w3 hown' hgrow3 hnil3)
            go_roundw
            case rel =>
              refine ⟨k + 1, by omega, by go_num, ?_, ((HN.out.alloc hzr _).alloc (by simp; omega) _).grown hgrow3 (by simp; omega) (own_base hown)⟩
              rw [HD.out]
              simpa [M.encIs] using hown'
            case measure => simp [intOf]; omega
          · by_cases t2 : m.doors[k].2.1 = x
            · have HD := Lib.hid (M.placesTo_yes hlt (decide_eq_true (.inr t2)))
              have e1 : (m.doors[k].1 == x) = false := by simpa using t1
              have e2 : (m.doors[k].2.1 == x) = true := by simpa using t2
              clear t1 t2
              go_wp2_with (at_builtin; refine wpList_append_own _ rfl _ _ 23 rfl w.heap.size 3 i0 (.int .i64 0) 1 8 Try.underlying23 hi0 hz0 hz1 hz2 rfl (by decide) _ _ _ rfl ((hown.alloc _).alloc _) ⟨wr.heap.size + 1, 0, none⟩ 1 1 [.int .i64 (k : Int)] rfl rfl HCN.out (fun x hx => by simp at hx; subst hx; rfl) (by unfold maxLen; omega) (by omega) (by simp; omega) ?_; intro v' w3 hown' hgrow3 hnil3)
              go_roundw
              case rel =>
                refine ⟨k + 1, by omega, by go_num, ?_, ((HN.out.alloc hzr _).alloc (by simp; omega) _).grown hgrow3 (by simp; omega) (own_base hown)⟩
                rw [HD.out]
                simpa [M.encIs] using hown'
              case measure => simp [intOf]; omega
            · have HD := Lib.hid (M.placesTo_no hlt (decide_eq_false (fun h => h.elim t1 t2)))
              have e1 : (m.doors[k].1 == x) = false := by simpa using t1
              have e2 : (m.doors[k].2.1 == x) = false := by simpa using t2
              clear t1 t2
              go_wp2_with fail
              go_roundw
              case rel => exact ⟨k + 1, by omega, by go_num, by rw [HD.out]; exact hown.alloc _, HN.out.alloc hzr _⟩
              case measure => simp [intOf]; omega
        · obtain rfl : k = m.doors.length := by omega
          clear hown
          go_wp2_with fail
          go_ret2
          rw [HF.out, HNN.out]
          exact intsOk_end HO.out HN.out
end C
end Go.Proofs.Ytoiapfdlbkncaaa
