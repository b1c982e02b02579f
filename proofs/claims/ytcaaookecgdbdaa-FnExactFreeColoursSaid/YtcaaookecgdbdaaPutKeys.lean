/-
  CONTRACTS of PutKeys on both sides: the maze with a node's keys changed, in memory of its own, or the empty one and false; what lay in memory stays. No condition but that the maze reads so.
-/
import Derived.Test.YtcaaookecgdbdaaMzEnd
import Derived.Test.YtcaaookecgdbdaaOwnMaz3
import Derived.Test.YtcaaookecgdbdaaNodeB
import Derived.Test.YtcaaookecgdbdaaDoorsAt
namespace Go.Proofs.Ytcaaookecgdbdaa
open Go.RowKit
namespace M
def putB (m : Mz) (x set : Int) : Bool := mzNodeB m x && setB set
def putV (m : Mz) (x set : Int) : Mz := if putB m x set then ⟨m.size, m.doors, m.keys.set x.toNat set⟩ else C.mz0
theorem putV_yes {m : Mz} {x set : Int} (h : putB m x set = true) : putV m x set = ⟨m.size, m.doors, m.keys.set x.toNat set⟩ := by unfold putV; rw [if_pos h]
theorem putV_no {m : Mz} {x set : Int} (h : putB m x set = false) : putV m x set = C.mz0 := by unfold putV; rw [h]; rfl
theorem putV_len (m : Mz) (x set : Int) : (putV m x set).doors.length ≤ 1048576 ∧ (putV m x set).keys.length ≤ 1048576 := by
  unfold putV
  split
  · rename_i h
    unfold putB mzNodeB at h
    rw [Bool.and_eq_true, Bool.and_eq_true] at h
    have V := valid_of h.1.1
    have h1 := V.few
    have h2 := V.keysLen
    have h3 := V.size12
    simp only [List.length_set]
    omega
  · simp [C.mz0]
end M
namespace C
set_option maxHeartbeats 1600000
set_option maxRecDepth 20000
theorem implPutKeys_lw (w : World) (lo hi : Nat) (m : M.Mz) (a b : Option Addr) (c d : Nat) (h : MzIn lo hi w m a c b d) (hz : hi ≤ w.heap.size) (_h1 : m.doors.length ≤ 1048576) (_h2 : m.keys.length ≤ 1048576) (x : Int) (_x1 : -9223372036854775808 ≤ x) (_x2 : x ≤ 9223372036854775807) (set : Int) (_s1 : -9223372036854775808 ≤ set) (_s2 : set ≤ 9223372036854775807) :
    Calls Try.prog 53 #[.agg #[.int .i64 m.size, .slice a m.doors.length c, .slice b m.keys.length d], .int .i64 x, .int .i64 set] w (MzOkPost w (M.putV m x set) (M.putB m x set)) := by
  have H := Lib.hid h
  clear h
  go_enter Try.func53, Try.ntmps53
  go_wp2_with fail
  refine named ?_
  intro W hW
  have hb : Below w.heap.size w W := by rw [hW]; exact (below_alloc _ _).alloc (by simp) _
  have x1 : Box3 W w.heap.size 27 (.int .i64 m.size) (.slice a m.doors.length c) (.slice b m.keys.length d) := by rw [hW]; exact (Box3.new _ _ _ _ rfl).alloc _
  have y1 : Box3 W (w.heap.size + 1) 27 (.int .i64 0) (.slice none 0 0) (.slice none 0 0) := by rw [hW]; exact Box3.new _ _ _ _ (by simp)
  clear hW
  have hzw := hb.size
  refine (isMaze_any W lo hi m a b c d (H.out.below hb hz) (by omega)).mono ?_
  rintro e w1 ⟨rfl, hb1⟩
  have X1 := Lib.hid (x1.below hb1)
  have Y1 := Lib.hid (y1.below hb1)
  have hbl := Y1.out.lt
  have HB1 := Lib.hid (hb.trans (hb1.mono hzw))
  have hz1w := hb1.size
  clear hb hb1 x1 y1
  obtain ⟨c0, c1, c2⟩ := X1.out.cells
  obtain ⟨k0, k1, k2⟩ := Y1.out.cells
  obtain ⟨f0, f1, f2⟩ := Y1.out.free
  cases q0 : M.mazeB m with
  | false =>
    have HF : Hid (M.putB m x set = false) := Lib.hid (by unfold M.putB M.mzNodeB; rw [q0]; rfl)
    have HV := Lib.hid (M.putV_no HF.out)
    clear q0
    go_wp2_with fail
    refine bodyPost_ret (v := .tuple #[.agg #[.int .i64 0, .slice none 0 0, .slice none 0 0], .bool false]) (by simp [results, Try.results53, go_sem, k0, k1, k2]) rfl ?_
    rw [HF.out, HV.out]
    exact mzNo_end HB1.out
  | true =>
    have HM := Lib.hid q0
    have HVA := Lib.hid (M.valid_of q0)
    clear q0
    go_wp2_with fail
    refine (hasNode_b m _ _ _ _ _ _).mono ?_
    rintro e W2 ⟨rfl, hb2⟩
    have X2 := Lib.hid (X1.out.below hb2)
    have Y2 := Lib.hid (Y1.out.below hb2)
    have HB2 := Lib.hid (HB1.out.trans (hb2.mono (by omega)))
    have hz2w := hb2.size
    clear hb2 c0 c1 c2 k0 k1 k2 f0 f1 f2
    obtain ⟨c0, c1, c2⟩ := X2.out.cells
    obtain ⟨k0, k1, k2⟩ := Y2.out.cells
    obtain ⟨f0, f1, f2⟩ := Y2.out.free
    cases q1 : M.nodeB m.size x with
    | false =>
      have HF : Hid (M.putB m x set = false) := Lib.hid (by unfold M.putB M.mzNodeB; rw [q1, HM.out]; rfl)
      have HV := Lib.hid (M.putV_no HF.out)
      clear q1
      go_wp2_with fail
      refine bodyPost_ret (v := .tuple #[.agg #[.int .i64 0, .slice none 0 0, .slice none 0 0], .bool false]) (by simp [results, Try.results53, go_sem, k0, k1, k2]) rfl ?_
      rw [HF.out, HV.out]
      exact mzNo_end HB2.out
    | true =>
      have Q1 : Hid (M.mzNodeB m x = true) := Lib.hid (M.mzNode_yes HM.out q1)
      have hx : 0 ≤ x ∧ x < m.size := by unfold M.nodeB at q1; exact decide_eq_true_iff.1 q1
      clear q1
      go_wp2_with fail
      refine (isSet_any _ _).mono ?_
      rintro e w3 ⟨rfl, rfl⟩
      cases q3 : M.setB set with
      | false =>
        have HF : Hid (M.putB m x set = false) := Lib.hid (by unfold M.putB; rw [q3, Q1.out]; rfl)
        have HV := Lib.hid (M.putV_no HF.out)
        clear q3
        go_wp2_with fail
        refine bodyPost_ret (v := .tuple #[.agg #[.int .i64 0, .slice none 0 0, .slice none 0 0], .bool false]) (by simp [results, Try.results53, go_sem, k0, k1, k2]) rfl ?_
        rw [HF.out, HV.out]
        exact mzNo_end HB2.out
      | true =>
        have HF : Hid (M.putB m x set = true) := Lib.hid (by unfold M.putB; rw [q3, Q1.out]; rfl)
        have HV := Lib.hid (M.putV_yes HF.out)
        have hkl := HVA.out.keysLen
        have hdl := HVA.out.few
        have hs12 := HVA.out.size12
        clear q3
        go_wp2_with fail
        refine (clone_any W2 lo hi m a b c d (H.out.below HB2.out hz) (by omega) (by omega) (by omega)).mono ?_
        rintro e w3 ⟨ca, cc, cb, cd, rfl, ho, hb3⟩
        have hz3w := hb3.size
        have X3 := Lib.hid (X2.out.below hb3)
        have Y3 := Lib.hid (Y2.out.below hb3)
        have HB3 := Lib.hid (HB2.out.trans (hb3.mono (by omega)))
        have HO := Lib.hid ho
        clear hb3 ho c0 c1 c2 k0 k1 k2 f0 f1 f2
        obtain ⟨k, rfl⟩ : ∃ k : Nat, x = (k : Int) := ⟨x.toNat, by omega⟩
        have hkk : k < m.keys.length := by omega
        obtain ⟨g, off, hcb, hg1, hg2, hc0⟩ := HO.out.keys.row.at_ (k := k) (by rw [M.encIs_len]; exact hkk)
        have cx := hc0 _ _ (M.encIs_at hkk)
        have fx : w3.frozen? ⟨g, off + k, none⟩ = false := HO.out.keys.free hcb (k := k) (by rw [M.encIs_len]; exact hkk) _
        clear hc0
        subst hcb
        obtain ⟨k0, k1, k2⟩ := Y3.out.cells
        obtain ⟨f0, f1, f2⟩ := Y3.out.free
        have hyl := Y3.out.lt
        have HE := Lib.hid (HO.out.setKey rfl k hkk set)
        have hyb := ((Y3.out.turned (Turned.setCell w3 g (off + k) (.int .i64 set) hg1 hg2) (.inl (by omega))).setAll (.int .i64 m.size) (.slice ca m.doors.length cc) (.slice (some ⟨g, off, none⟩) m.keys.length cd)).alloc (.cells #[.int .i64 m.size, .slice ca m.doors.length cc, .slice (some ⟨g, off, none⟩) m.keys.length cd] 27)
        obtain ⟨r0, r1, r2⟩ := hyb.cells
        go_wp2_with fail
        refine bodyPost_ret (v := .tuple #[.agg #[.int .i64 m.size, .slice ca m.doors.length cc, .slice (some ⟨g, off, none⟩) m.keys.length cd], .bool true]) (by simp [results, Try.results53, go_sem, r0, r1, r2]) rfl ?_
        rw [HF.out, HV.out]
        exact (mzYes_end (m := ⟨m.size, m.doors, m.keys.set k set⟩) (HB3.out.setCell (p := ⟨g, off + k, none⟩) (by show w.heap.size ≤ g; omega) _) HE.out (by omega) (by simp [World.setCell]) rfl (by simp)).more (below_alloc _ _)
end C
end Go.Proofs.Ytcaaookecgdbdaa
