/-
  CONTRACT of the model's FewestFrom; what lay in memory stays. No condition but that the maze reads so.
-/
import Derived.Test.YtbpinhfjfjfbdaaRemain
import Derived.Test.YtbpinhfjfjfbdaaDoorsAt
namespace Go.Proofs.Ytbpinhfjfjfbdaa
open Go.RowKit
namespace M
theorem ffO_no {m : Mz} {x set : Int} (h : mzNodeB m x = false) : ffO m x set = none := by
  unfold ffO
  unfold mzNodeB at h
  rw [if_neg]
  intro e
  rw [Bool.and_eq_true, Bool.and_eq_true] at e
  rw [e.1, e.2.1] at h
  cases h
theorem ffO_no2 {m : Mz} {x set : Int} (h : setB set = false) : ffO m x set = none := by
  unfold ffO
  rw [h, Bool.and_false, Bool.and_false]
  rfl
theorem ffO_yes {m : Mz} {x set : Int} (h : mzNodeB m x = true) (h2 : setB set = true) : mazeB m = true ∧ 0 ≤ x ∧ x < m.size ∧ 0 ≤ set ∧ set < 64 ∧ ffO m x set = remO m (x, set) := by
  unfold mzNodeB at h
  rw [Bool.and_eq_true] at h
  have h3 : 0 ≤ x ∧ x < m.size := by have := h.2; unfold nodeB at this; have := of_decide_eq_true this; omega
  have h4 : 0 ≤ set ∧ set < 64 := by unfold setB at h2; exact of_decide_eq_true h2
  refine ⟨h.1, h3.1, h3.2, h4.1, h4.2, ?_⟩
  unfold ffO remO
  rw [h.1, h.2, h2]
  rfl
end M
namespace C
set_option maxHeartbeats 3200000
set_option maxRecDepth 20000
def RemPost (w : World) (m : M.Mz) (e : Ending) (w' : World) : Prop :=
  ∃ a c, e = .returned (.slice a (M.size64 m) c) ∧ OwnAt w.heap.size w'.heap.size w' 3 a (M.encIs (M.tblL (M.size64 m) (M.remO m))) ∧ Below w.heap.size w w'
theorem remainT_any (w : World) (lo hi : Nat) (m : M.Mz) (a b : Option Addr) (c d : Nat) (h : MzIn lo hi w m a c b d) (hz : hi ≤ w.heap.size) (V : M.Valid m) :
    Calls Try.prog 65 #[.agg #[.int .i64 m.size, .slice a m.doors.length c, .slice b m.keys.length d]] w (RemPost w m) := by
  refine (l4Remain_any w lo hi m a b c d h hz V).mono ?_
  rintro e w1 ⟨ra, rc, rfl, ho, _, _, hb⟩
  have hl : (M.remainL m).length = M.size64 m := M.tblL_len _ _
  exact ⟨ra, rc, by rw [hl], ho, hb⟩
theorem specFewF_lw (w : World) (lo hi : Nat) (m : M.Mz) (a b : Option Addr) (c d : Nat) (h : MzIn lo hi w m a c b d) (hz : hi ≤ w.heap.size) (_h1 : m.doors.length ≤ 1048576) (_h2 : m.keys.length ≤ 1048576) (x : Int) (_x1 : -9223372036854775808 ≤ x) (_x2 : x ≤ 9223372036854775807) (set : Int) (_s1 : -9223372036854775808 ≤ set) (_s2 : set ≤ 9223372036854775807) :
    Calls Try.prog 37 #[.agg #[.int .i64 m.size, .slice a m.doors.length c, .slice b m.keys.length d], .int .i64 x, .int .i64 set] w (OptPost w (M.ffO m x set)) := by
  have H := Lib.hid h
  clear h
  go_enter Try.func37, Try.ntmps37
  go_upto_region 1 with fail
  refine wp_named ?_
  intro W hW
  have hb : Below w.heap.size w W := by rw [hW]; exact below_alloc _ _
  have x1 : Box3 W w.heap.size 29 (.int .i64 m.size) (.slice a m.doors.length c) (.slice b m.keys.length d) := by rw [hW]; exact Box3.new _ _ _ _ rfl
  clear hW
  have hzw := hb.size
  obtain ⟨c0, c1, c2⟩ := x1.cells
  have HIM := Lib.hid (l2Node_any W lo hi m a b c d x (H.out.below hb hz) (by omega))
  go_wp2_with fail
  refine (HIM.out).mono ?_
  rintro e w1 ⟨rfl, hb1⟩
  have X1 := Lib.hid (x1.below hb1)
  have HB1 := Lib.hid (hb.trans (hb1.mono hzw))
  have hz1 := hb1.size
  clear hb hb1 x1 c0 c1 c2 HIM
  cases q0 : M.mzNodeB m x with
  | false =>
    have HF : Hid (M.ffO m x set = none) := Lib.hid (M.ffO_no q0)
    clear q0
    go_wp2_with fail
    go_ret2
    rw [HF.out]
    exact ⟨rfl, HB1.out⟩
  | true =>
    have HM := Lib.hid q0
    clear q0
    go_wp2_with fail
    refine (l2Set_any _ _).mono ?_
    rintro e w9 ⟨rfl, rfl⟩
    cases q1 : M.setB set with
    | false =>
      have HF : Hid (M.ffO m x set = none) := Lib.hid (M.ffO_no2 q1)
      clear q1
      go_wp2_with fail
      go_ret2
      rw [HF.out]
      exact ⟨rfl, HB1.out⟩
    | true =>
      obtain ⟨hmz, hx0, hx1, hs0, hs1, hff⟩ := M.ffO_yes HM.out q1
      have HVA := Lib.hid (M.valid_of hmz)
      have HF := Lib.hid hff
      have HSO : Hid (M.StOk m (x, set)) := Lib.hid ⟨hx0, hx1, hs0, hs1⟩
      have v1 := HVA.out.size1
      have v12 := HVA.out.size12
      clear q1 hff hmz
      obtain ⟨c0, c1, c2⟩ := X1.out.cells
      have CR := Lib.hid (remainT_any w1 lo hi m a b c d (H.out.below HB1.out hz) (by omega) HVA.out)
      go_wp2_with fail
      refine (CR.out).mono ?_
      rintro e w2 ⟨ra, rc, rfl, ho2, hb2⟩
      have HB2 := Lib.hid (HB1.out.trans (hb2.mono HB1.out.size))
      have HID := Lib.hid (l4Id_any x set w2 hx0 (by omega) hs0 (by omega))
      have hil : M.idN (x, set) < M.size64 m := M.idN_lt HSO.out
      obtain ⟨sb, off, hsa, _, hsb, hcell⟩ := ho2.row.at_ (k := M.idN (x, set)) (by rw [M.encIs_len, M.tblL_len]; exact hil)
      subst hsa
      have y0 := hcell _ _ (M.tblL_at hil)
      rw [M.unid_idN HSO.out] at y0
      have hsz : M.size64 m ≤ 768 := by unfold M.size64; omega
      have HT := Lib.hid (l4Told_any (M.remO m (x, set)) w2)
      clear hcell ho2 hb2 c0 c1 c2 CR
      generalize M.idN (x, set) = i at *
      generalize M.size64 m = sz at *
      go_wp2_with fail
      refine (HID.out).mono ?_
      rintro e w3 ⟨rfl, rfl⟩
      go_wp2_with fail
      refine (HT.out).mono ?_
      rintro e w4 ⟨rfl, rfl⟩
      go_wp2_with fail
      go_ret2
      rw [HF.out]
      exact ⟨rfl, HB2.out⟩
end C
end Go.Proofs.Ytbpinhfjfjfbdaa
