/-
  CONTRACT of the program's AreApart; what lay in memory stays. No condition but that the works read so.
-/
import Derived.Test.YtdgfceiobpnchaaFewI
import Derived.Test.YtdgfceiobpnchaaVis
namespace Go.Proofs.Ytdgfceiobpnchaa
open Go.RowKit
namespace C
set_option maxHeartbeats 3200000
set_option maxRecDepth 20000
theorem apart1_any (W : World) (gb : Nat) (s t : M.Vs) (hb : Box2 W gb 71 (.int .i64 t.1) (.int .i64 t.2)) :
    Calls Try.prog 96 #[.agg #[.int .i64 s.1, .int .i64 s.2], .pointer (some ⟨gb, 0, none⟩)] W (BoolW W (decide (s = t))) := by
  have HB := Lib.hid hb
  have hbl := hb.lt
  obtain ⟨k0, k1⟩ := hb.cells
  clear hb
  go_enter Try.func96, Try.ntmps96
  go_upto_region 1 with fail
  refine wp_named ?_
  intro W1 hW
  have hb1 : Below W.heap.size W W1 := by rw [hW]; exact below_alloc _ _
  have z1 : Box2 W1 W.heap.size 71 (.int .i64 s.1) (.int .i64 s.2) := by rw [hW]; exact Box2.new _ _ _ rfl
  clear hW
  obtain ⟨j0, j1⟩ := z1.cells
  obtain ⟨k2, k3⟩ := (HB.out.below hb1).cells
  have HB1 := Lib.hid hb1
  have tq := eqTV
  clear hb1 z1 k0 k1
  rcases Classical.em (s = t) with hst | hst
  · have HD : Hid (decide (s = t) = true) := Lib.hid (decide_eq_true hst)
    have hq := eqV_yes hst
    clear hst
    go_wp2_with fail
    go_ret
    rw [HD.out]
    exact ⟨rfl, HB1.out⟩
  · have HD : Hid (decide (s = t) = false) := Lib.hid (decide_eq_false hst)
    have hq := eqV_no hst
    clear hst
    go_wp2_with fail
    go_ret
    rw [HD.out]
    exact ⟨rfl, HB1.out⟩
theorem implApart_lw (w : World) (lo hi : Nat) (m : M.Wk) (a b : Option Addr) (c d : Nat) (h : WkIn lo hi w m a c b d) (hz : hi ≤ w.heap.size) (_h1 : m.gates.length ≤ 1048576) (_h2 : m.pulls.length ≤ 1048576) (x : Int) (_x1 : -9223372036854775808 ≤ x) (_x2 : x ≤ 9223372036854775807) (y : Int) (_y1 : -9223372036854775808 ≤ y) (_y2 : y ≤ 9223372036854775807) (z : Int) (_z1 : -9223372036854775808 ≤ z) (_z2 : z ≤ 9223372036854775807) (v : Int) (_v1 : -9223372036854775808 ≤ v) (_v2 : v ≤ 9223372036854775807) :
    Calls Try.prog 53 #[.agg #[.int .i64 m.size, .slice a m.gates.length c, .slice b m.pulls.length d], .int .i64 x, .int .i64 y, .int .i64 z, .int .i64 v] w (fun e w' => e = .returned (.tuple #[.bool (M.apartV m x y z v), .bool (M.apartB m x y z v)]) ∧ Below w.heap.size w w') := by
  have H := Lib.hid h
  clear h
  go_enter Try.func53, Try.ntmps53
  go_upto_region 2 with fail
  refine wp_named ?_
  intro W hW
  have hb : Below w.heap.size w W := by rw [hW]; exact ((below_alloc _ _).alloc (by simp) _).alloc (by simp; omega) _
  have x1 : Box3 W w.heap.size 28 (.int .i64 m.size) (.slice a m.gates.length c) (.slice b m.pulls.length d) := by rw [hW]; exact ((Box3.new _ _ _ _ rfl).alloc _).alloc _
  have z1 : Box2 W (w.heap.size + 1) 71 (.int .i64 x) (.int .i64 y) := by rw [hW]; exact (Box2.new _ _ _ (by simp)).alloc _
  have z2 : Box2 W (w.heap.size + 2) 71 (.int .i64 z) (.int .i64 v) := by rw [hW]; exact Box2.new _ _ _ (by simp)
  clear hW
  have hzw := hb.size
  have hxl := x1.lt
  have hyl := z2.lt
  obtain ⟨c0, c1, c2⟩ := x1.cells
  obtain ⟨k0, k1⟩ := z1.cells
  obtain ⟨k2, k3⟩ := z2.cells
  go_wp2_with fail
  refine (isWorks_any W lo hi m a b c d (H.out.below hb hz) (by omega)).mono ?_
  rintro e w1 ⟨rfl, hb1⟩
  have X1 := Lib.hid (x1.below hb1)
  have Z1 := Lib.hid (z1.below hb1)
  have Y1 := Lib.hid (z2.below hb1)
  have HB1 := Lib.hid (hb.trans (hb1.mono hzw))
  have hz1 := hb1.size
  clear hb hb1 x1 z1 z2 c0 c1 c2 k0 k1 k2 k3
  obtain ⟨c0, c1, c2⟩ := X1.out.cells
  obtain ⟨k0, k1⟩ := Z1.out.cells
  obtain ⟨k2, k3⟩ := Y1.out.cells
  cases q0 : M.worksB m with
  | false =>
    have HG : Hid (M.apartB m x y z v = false) := Lib.hid (by unfold M.apartB; rw [visitB_off q0]; rfl)
    have HF := Lib.hid (M.apart_no HG.out)
    clear q0
    go_wp2_with fail
    go_ret2
    rw [HF.out, HG.out]
    exact ⟨rfl, HB1.out⟩
  | true =>
    have HVX := Lib.hid (visitB_on q0)
    clear q0
    go_wp2_with fail
    refine (isVisit_any w1 m a b c d (x, y)).mono ?_
    rintro e w2 ⟨rfl, hb2⟩
    simp only
    have HB2 := Lib.hid (HB1.out.trans (hb2.mono (by omega)))
    have X2 := Lib.hid (X1.out.below hb2)
    have Z2 := Lib.hid (Z1.out.below hb2)
    have Y2 := Lib.hid (Y1.out.below hb2)
    have hz2 := hb2.size
    clear hb2 c0 c1 c2 k0 k1 k2 k3
    obtain ⟨c0, c1, c2⟩ := X2.out.cells
    obtain ⟨k0, k1⟩ := Z2.out.cells
    obtain ⟨k2, k3⟩ := Y2.out.cells
    cases q1 : (M.nodeB m.size x && M.setB y) with
    | false =>
      have HG : Hid (M.apartB m x y z v = false) := Lib.hid (by unfold M.apartB; rw [HVX.out x y, q1]; rfl)
      have HF := Lib.hid (M.apart_no HG.out)
      clear q1
      go_wp2_with fail
      go_ret2
      rw [HF.out, HG.out]
      exact ⟨rfl, HB2.out⟩
    | true =>
      have Q1 : Hid (M.visitB m x y = true) := Lib.hid ((HVX.out x y).trans q1)
      clear q1
      go_wp2_with fail
      refine (isVisit_any w2 m a b c d (z, v)).mono ?_
      rintro e w3 ⟨rfl, hb3⟩
      simp only
      have HB3 := Lib.hid (HB2.out.trans (hb3.mono (by omega)))
      have X3 := Lib.hid (X2.out.below hb3)
      have Z3 := Lib.hid (Z2.out.below hb3)
      have Y3 := Lib.hid (Y2.out.below hb3)
      have hz3 := hb3.size
      clear hb3 c0 c1 c2 k0 k1 k2 k3
      obtain ⟨c0, c1, c2⟩ := X3.out.cells
      obtain ⟨k0, k1⟩ := Z3.out.cells
      obtain ⟨k2, k3⟩ := Y3.out.cells
      cases q2 : (M.nodeB m.size z && M.setB v) with
      | false =>
        have HG : Hid (M.apartB m x y z v = false) := Lib.hid (by unfold M.apartB; rw [Q1.out, HVX.out z v, q2]; rfl)
        have HF := Lib.hid (M.apart_no HG.out)
        clear q2
        go_wp2_with fail
        go_ret2
        rw [HF.out, HG.out]
        exact ⟨rfl, HB3.out⟩
      | true =>
        have Q2 : Hid (M.visitB m z v = true) := Lib.hid ((HVX.out z v).trans q2)
        have HG : Hid (M.apartB m x y z v = true) := Lib.hid (by unfold M.apartB; rw [Q1.out, Q2.out]; rfl)
        have HV := Lib.hid (visitB_iff Q1.out)
        have HF := Lib.hid (M.apart_yes HG.out)
        clear q2
        have HAF := Lib.hid (show Calls _ _ _ _ (MapPost w3 (M.dst (M.nextW m) [(x, y)])) from actsFrom_any w3 lo hi m a b c d (H.out.below HB3.out hz) (by omega) HV.out.1 (x, y) HV.out.2)
        have HON := Lib.hid (M.minO_one (z, v) (M.dst (M.nextW m) [(x, y)]))
        go_wp2_with fail
        refine (HAF.out).mono ?_
        rintro e w4 ⟨mb, ml, rfl, hmb, hmp, hml, hb4⟩
        have HB4 := Lib.hid (HB3.out.trans (hb4.mono (by omega)))
        have Y4 := Lib.hid (Y3.out.below hb4)
        have HMP := Lib.hid hmp
        have HFT := Lib.hid (fewestTo_any 96 #[] #[.pointer (some ⟨w.heap.size + 2, 0, none⟩)] (enters_of Try.func96 (by kernel_rfl) rfl) (fun s => decide (s = (z, v))) w4 mb ml _ HMP.out (fun W' s hb' _ => apart1_any W' (w.heap.size + 2) s (z, v) (Y4.out.below hb')))
        clear hb4 hmp c0 c1 c2 k0 k1 k2 k3
        go_wp2_with fail
        refine (HFT.out).mono ?_
        rintro e w5 ⟨rfl, hb5⟩
        have hz4 := HB4.out.size
        have HB5 := Lib.hid (HB4.out.trans (hb5.mono (by omega)))
        clear hb5 HFT
        generalize M.minO (fun t => decide (t = (z, v)) = true) (M.dst (M.nextW m) [(x, y)]) = r at *
        go_wp2_with fail
        go_ret2
        rw [HF.out, ← HON.out, HG.out]
        exact ⟨by cases r <;> rfl, HB5.out⟩
end C
end Go.Proofs.Ytdgfceiobpnchaa
