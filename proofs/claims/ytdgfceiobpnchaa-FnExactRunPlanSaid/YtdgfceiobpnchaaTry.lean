/-
  CONTRACTS of the program's tryAct, and of DoAct, the program's and the model's; what lay in memory stays. No condition but that the works read so.
-/
import Derived.Test.YtdgfceiobpnchaaActI
import Derived.Test.YtdgfceiobpnchaaRunM
import Derived.Test.YtdgfceiobpnchaaWkSpec
namespace Go.Proofs.Ytdgfceiobpnchaa
open Go.RowKit
namespace C
set_option maxHeartbeats 3200000
set_option maxRecDepth 20000
def VsOkPost (w : World) (s : M.Vs) (ok : Bool) (e : Ending) (w' : World) : Prop := e = .returned (.tuple #[.agg #[.int .i64 s.1, .int .i64 s.2], .bool ok]) ∧ Below w.heap.size w w'
theorem tryAct_any (w : World) (lo hi : Nat) (m : M.Wk) (a b : Option Addr) (c d : Nat) (h : WkIn lo hi w m a c b d) (hz : hi ≤ w.heap.size) (s : M.Vs) (act : Int) :
    Calls Try.prog 77 #[.agg #[.int .i64 m.size, .slice a m.gates.length c, .slice b m.pulls.length d], .agg #[.int .i64 s.1, .int .i64 s.2], .int .i64 act] w (VsOkPost w (M.doV m s.1 s.2 act) (M.actB m s.1 s.2 act)) := by
  obtain ⟨x, y⟩ := s
  show Calls _ _ #[_, .agg #[.int .i64 x, .int .i64 y], _] _ (VsOkPost w (M.doV m x y act) (M.actB m x y act))
  have H := Lib.hid h
  clear h
  go_enter Try.func77, Try.ntmps77
  go_upto_region 1 with fail
  refine wp_named ?_
  intro W hW
  have hb : Below w.heap.size w W := by rw [hW]; exact ((below_alloc _ _).alloc (by simp) _).alloc (by simp; omega) _
  have x1 : Box3 W w.heap.size 28 (.int .i64 m.size) (.slice a m.gates.length c) (.slice b m.pulls.length d) := by rw [hW]; exact ((Box3.new _ _ _ _ rfl).alloc _).alloc _
  have z1 : Box2 W (w.heap.size + 1) 71 (.int .i64 x) (.int .i64 y) := by rw [hW]; exact (Box2.new _ _ _ (by simp)).alloc _
  have r1 : Box2 W (w.heap.size + 1 + 1) 71 (.int .i64 0) (.int .i64 0) := by rw [hW]; exact Box2.new _ _ _ (by simp)
  clear hW
  have hzw := hb.size
  obtain ⟨c0, c1, c2⟩ := x1.cells
  obtain ⟨k0, k1⟩ := z1.cells
  go_wp2_with fail
  refine (isWorks_any W lo hi m a b c d (H.out.below hb hz) (by omega)).mono ?_
  rintro e w1 ⟨rfl, hb1⟩
  have X1 := Lib.hid (x1.below hb1)
  have Z1 := Lib.hid (z1.below hb1)
  have R1 := Lib.hid (r1.below hb1)
  have HB1 := Lib.hid (hb.trans (hb1.mono hzw))
  have hz1 := hb1.size
  have hrl := r1.lt
  clear hb hb1 x1 z1 r1 c0 c1 c2 k0 k1
  obtain ⟨c0, c1, c2⟩ := X1.out.cells
  obtain ⟨k0, k1⟩ := Z1.out.cells
  cases q0 : M.worksB m with
  | false =>
    have HG := Lib.hid (M.actB_off (visitB_off q0 x y) act)
    have HF := Lib.hid (M.actB_no HG.out)
    clear q0
    obtain ⟨j0, j1⟩ := R1.out.cells
    obtain ⟨f0, f1⟩ := R1.out.free
    obtain ⟨q0', q1'⟩ := (R1.out.setAll (.int .i64 0) (.int .i64 0)).cells
    go_wp2_with fail
    refine bodyPost_ret (v := .tuple #[.agg #[.int .i64 0, .int .i64 0], .bool false]) (by simp [results, Try.results77, go_sem, q0', q1']) rfl ?_
    rw [HF.out, HG.out]
    exact ⟨rfl, Below.thenTurned HB1.out (Turned.set2 _ _ _) (by omega) (by omega)⟩
  | true =>
    have HG0 := Lib.hid (visitB_on q0 x y)
    clear q0
    go_wp2_with fail
    refine (isVisit_any w1 m a b c d (x, y)).mono ?_
    rintro e w2 ⟨rfl, hb2⟩
    simp only
    have HB2 := Lib.hid (HB1.out.trans (hb2.mono (by omega)))
    have X2 := Lib.hid (X1.out.below hb2)
    have Z2 := Lib.hid (Z1.out.below hb2)
    have R2 := Lib.hid (R1.out.below hb2)
    have hz2 := hb2.size
    clear hb2 c0 c1 c2 k0 k1
    obtain ⟨c0, c1, c2⟩ := X2.out.cells
    obtain ⟨k0, k1⟩ := Z2.out.cells
    cases q1 : (M.nodeB m.size x && M.setB y) with
    | false =>
      have HG := Lib.hid (M.actB_off (HG0.out.trans q1) act)
      have HF := Lib.hid (M.actB_no HG.out)
      clear q1
      obtain ⟨j0, j1⟩ := R2.out.cells
      obtain ⟨f0, f1⟩ := R2.out.free
      obtain ⟨q0', q1'⟩ := (R2.out.setAll (.int .i64 0) (.int .i64 0)).cells
      go_wp2_with fail
      refine bodyPost_ret (v := .tuple #[.agg #[.int .i64 0, .int .i64 0], .bool false]) (by simp [results, Try.results77, go_sem, q0', q1']) rfl ?_
      rw [HF.out, HG.out]
      exact ⟨rfl, Below.thenTurned HB2.out (Turned.set2 _ _ _) (by omega) (by omega)⟩
    | true =>
      have HV := Lib.hid (visitB_iff (HG0.out.trans q1))
      have HG1 := Lib.hid (M.actB_on (HG0.out.trans q1) act)
      have hal := M.actsL_len m (x, y)
      clear q1
      go_wp2_with fail
      refine (actsAt_any w2 lo hi m a b c d (H.out.below HB2.out hz) (by omega) HV.out.1 (x, y) HV.out.2).mono ?_
      rintro e w3 ⟨ra, rc, rfl, ho, hq1, hq2, hb3⟩
      have HB3 := Lib.hid (HB2.out.trans (hb3.mono (by omega)))
      have X3 := Lib.hid (X2.out.below hb3)
      have Z3 := Lib.hid (Z2.out.below hb3)
      have R3 := Lib.hid (R2.out.below hb3)
      have hz3 := hb3.size
      have HCO := Lib.hid (containsI_any w3 _ _ ra rc _ act ho.row (by omega))
      clear hb3 c0 c1 c2 k0 k1 ho hq1 hq2
      go_wp2_with fail
      refine (HCO.out).mono ?_
      rintro e w4 ⟨rfl, rfl⟩
      obtain ⟨c0, c1, c2⟩ := X3.out.cells
      obtain ⟨k0, k1⟩ := Z3.out.cells
      cases q2 : M.memB (M.actsL m (x, y)) act with
      | false =>
        have HG := Lib.hid (HG1.out.trans q2)
        have HF := Lib.hid (M.actB_no HG.out)
        clear q2
        obtain ⟨j0, j1⟩ := R3.out.cells
        obtain ⟨f0, f1⟩ := R3.out.free
        obtain ⟨q0', q1'⟩ := (R3.out.setAll (.int .i64 0) (.int .i64 0)).cells
        go_wp2_with fail
        refine bodyPost_ret (v := .tuple #[.agg #[.int .i64 0, .int .i64 0], .bool false]) (by simp [results, Try.results77, go_sem, q0', q1']) rfl ?_
        rw [HF.out, HG.out]
        exact ⟨rfl, Below.thenTurned HB3.out (Turned.set2 _ _ _) (by omega) (by omega)⟩
      | true =>
        have HG := Lib.hid (HG1.out.trans q2)
        have HF := Lib.hid (M.actB_yes HG.out)
        have hact := (M.actsL_rng HV.out.1 (M.memB_true q2)).1
        clear q2
        go_wp2_with fail
        refine (behind_any w3 lo hi m a b c d (H.out.below HB3.out hz) (by omega) HV.out.1 (x, y) HV.out.2 act hact).mono ?_
        rintro e w5 ⟨rfl, hb5⟩
        have HB5 := Lib.hid (HB3.out.trans (hb5.mono (by omega)))
        have R5 := Lib.hid (R3.out.below hb5)
        have hz5 := hb5.size
        clear hb5 c0 c1 c2 k0 k1
        generalize M.doA m (x, y) act = t at *
        obtain ⟨j0, j1⟩ := R5.out.cells
        obtain ⟨f0, f1⟩ := R5.out.free
        obtain ⟨q0', q1'⟩ := (R5.out.setAll (.int .i64 t.1) (.int .i64 t.2)).cells
        go_wp2_with fail
        refine bodyPost_ret (v := .tuple #[.agg #[.int .i64 t.1, .int .i64 t.2], .bool true]) (by simp [results, Try.results77, go_sem, q0', q1']) rfl ?_
        rw [HF.out, HG.out]
        exact ⟨rfl, Below.thenTurned HB5.out (Turned.set2 _ _ _) (by omega) (by omega)⟩
theorem specDoAct_lw (w : World) (lo hi : Nat) (m : M.Wk) (a b : Option Addr) (c d : Nat) (h : WkIn lo hi w m a c b d) (hz : hi ≤ w.heap.size) (_h1 : m.gates.length ≤ 1048576) (_h2 : m.pulls.length ≤ 1048576) (x : Int) (_x1 : -9223372036854775808 ≤ x) (_x2 : x ≤ 9223372036854775807) (y : Int) (_y1 : -9223372036854775808 ≤ y) (_y2 : y ≤ 9223372036854775807) (z : Int) (_z1 : -9223372036854775808 ≤ z) (_z2 : z ≤ 9223372036854775807) :
    Calls Try.prog 30 #[.agg #[.int .i64 m.size, .slice a m.gates.length c, .slice b m.pulls.length d], .int .i64 x, .int .i64 y, .int .i64 z] w (fun e w' => e = .returned (.tuple #[.int .i64 (M.doV m x y z).1, .int .i64 (M.doV m x y z).2, .bool (M.actB m x y z)]) ∧ Below w.heap.size w w') := by
  have H := Lib.hid h
  clear h
  go_enter Try.func30, Try.ntmps30
  go_wp2_with fail
  refine named ?_
  intro W hW
  have hb : Below w.heap.size w W := by rw [hW]; exact below_alloc _ _
  have x1 : Box3 W w.heap.size 28 (.int .i64 m.size) (.slice a m.gates.length c) (.slice b m.pulls.length d) := by rw [hW]; exact Box3.new _ _ _ _ rfl
  clear hW
  have hzw := hb.size
  refine (l8Visit_any W lo hi m a b c d (H.out.below hb hz) (by omega) x y).mono ?_
  rintro e w1 ⟨rfl, hb1⟩
  have X1 := Lib.hid (x1.below hb1)
  have HB1 := Lib.hid (hb.trans (hb1.mono hzw))
  have hz1 := hb1.size
  clear hb hb1 x1
  obtain ⟨c0, c1, c2⟩ := X1.out.cells
  cases q0 : M.visitB m x y with
  | false =>
    have HG := Lib.hid (M.actB_off q0 z)
    have HF := Lib.hid (M.actB_no HG.out)
    clear q0
    go_wp2_with fail
    go_ret3
    rw [HF.out, HG.out]
    exact ⟨rfl, HB1.out⟩
  | true =>
    have HV := Lib.hid (visitB_iff q0)
    have HG1 := Lib.hid (M.actB_on q0 z)
    have hal := M.actsL_len m (x, y)
    clear q0
    go_wp2_with fail
    refine (l8Acts_any w1 lo hi m a b c d (H.out.below HB1.out hz) (by omega) HV.out.1 (x, y) HV.out.2).mono ?_
    rintro e w2 ⟨ra, rc, rfl, ho, hq1, hq2, hb2⟩
    have X2 := Lib.hid (X1.out.below hb2)
    have HB2 := Lib.hid (HB1.out.trans (hb2.mono (by omega)))
    have hz2 := hb2.size
    have HCO := Lib.hid (l1Has_any w2 _ _ ra rc _ z ho.row (by omega))
    clear ho hb2 hq1 hq2 c0 c1 c2
    go_wp2_with fail
    refine (HCO.out).mono ?_
    rintro e w4 ⟨rfl, rfl⟩
    obtain ⟨c0, c1, c2⟩ := X2.out.cells
    cases q2 : M.memB (M.actsL m (x, y)) z with
    | false =>
      have HG := Lib.hid (HG1.out.trans q2)
      have HF := Lib.hid (M.actB_no HG.out)
      clear q2
      go_wp2_with fail
      go_ret3
      rw [HF.out, HG.out]
      exact ⟨rfl, HB2.out⟩
    | true =>
      have HG := Lib.hid (HG1.out.trans q2)
      have HF := Lib.hid (M.actB_yes HG.out)
      obtain ⟨hact, hact1⟩ := M.actsL_rng HV.out.1 (M.memB_true q2)
      have v12 := HV.out.1.size12
      have hact2 : z < 9223372036854775807 := by omega
      clear q2
      go_wp2_with fail
      refine (l8Do_any w2 lo hi m a b c d (H.out.below HB2.out hz) (by omega) HV.out.1 (x, y) HV.out.2 z hact hact2).mono ?_
      rintro e w3 ⟨rfl, hb3⟩
      have HB3 := Lib.hid (HB2.out.trans (hb3.mono (by omega)))
      clear hb3
      go_wp2_with fail
      go_ret3
      rw [HF.out, HG.out]
      exact ⟨rfl, HB3.out⟩
theorem implDoAct_lw (w : World) (lo hi : Nat) (m : M.Wk) (a b : Option Addr) (c d : Nat) (h : WkIn lo hi w m a c b d) (hz : hi ≤ w.heap.size) (_h1 : m.gates.length ≤ 1048576) (_h2 : m.pulls.length ≤ 1048576) (x : Int) (_x1 : -9223372036854775808 ≤ x) (_x2 : x ≤ 9223372036854775807) (y : Int) (_y1 : -9223372036854775808 ≤ y) (_y2 : y ≤ 9223372036854775807) (z : Int) (_z1 : -9223372036854775808 ≤ z) (_z2 : z ≤ 9223372036854775807) :
    Calls Try.prog 31 #[.agg #[.int .i64 m.size, .slice a m.gates.length c, .slice b m.pulls.length d], .int .i64 x, .int .i64 y, .int .i64 z] w (fun e w' => e = .returned (.tuple #[.int .i64 (M.doV m x y z).1, .int .i64 (M.doV m x y z).2, .bool (M.actB m x y z)]) ∧ Below w.heap.size w w') := by
  have H := Lib.hid h
  clear h
  go_enter Try.func31, Try.ntmps31
  go_wp2_with fail
  refine named ?_
  intro W hW
  have hb : Below w.heap.size w W := by rw [hW]; exact below_alloc _ _
  have x1 : Box3 W w.heap.size 28 (.int .i64 m.size) (.slice a m.gates.length c) (.slice b m.pulls.length d) := by rw [hW]; exact Box3.new _ _ _ _ rfl
  clear hW
  have hzw := hb.size
  have HT := Lib.hid (tryAct_any W lo hi m a b c d (H.out.below hb hz) (by omega) (x, y) z)
  refine (HT.out).mono ?_
  rintro e w1 ⟨rfl, hb1⟩
  simp only
  have HB1 := Lib.hid (hb.trans (hb1.mono hzw))
  have hz1 := hb1.size
  clear hb hb1 x1 HT
  have z1 := Box2.new (w := w1) (g := w1.heap.size) 71 (.int .i64 (M.doV m x y z).1) (.int .i64 (M.doV m x y z).2) rfl
  obtain ⟨k0, k1⟩ := z1.cells
  have hzl := z1.lt
  clear z1
  go_wp2_with fail
  go_quiet (fail)
  go_wp2_with fail
  go_ret3
  exact ⟨rfl, Below.drawnN (HB1.out.alloc (by omega) _) _⟩
end C
end Go.Proofs.Ytdgfceiobpnchaa
