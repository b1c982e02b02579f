/-
  CONTRACTS of GateOpen and ActsAt, the program's and the model's; what lay in memory stays. No condition but that the works read so.
-/
import Derived.Test.YtdgfceiobpnchaaActI
import Derived.Test.YtdgfceiobpnchaaRunM
namespace Go.Proofs.Ytdgfceiobpnchaa
open Go.RowKit
namespace M
def gateOk (m : Wk) (k lev : Int) : Bool := worksB m && (decide (0 ≤ k ∧ k < m.gates.length) && setB lev)
def gateV (m : Wk) (k lev : Int) : Bool := gateOk m k lev && openG (m.gates.getD k.toNat default) lev
theorem gate_off {m : Wk} {k lev : Int} (h : gateOk m k lev = false) : gateV m k lev = false := by unfold gateV; rw [h]; rfl
theorem gate_on {m : Wk} {k : Nat} {lev : Int} (h : gateOk m k lev = true) (hk : k < m.gates.length) : gateV m k lev = openG m.gates[k] lev := by
  unfold gateV
  rw [h, Int.toNat_natCast, List.getD_eq_getElem?_getD, List.getElem?_eq_getElem hk, Bool.true_and, Option.getD_some]
def actsV (m : Wk) (x lev : Int) : List Int := if visitB m x lev then actsL m (x, lev) else []
theorem acts_off {m : Wk} {x lev : Int} (h : visitB m x lev = false) : actsV m x lev = [] := by unfold actsV; rw [h]; rfl
theorem acts_on {m : Wk} {x lev : Int} (h : visitB m x lev = true) : actsV m x lev = actsL m (x, lev) := by unfold actsV; rw [h]; rfl
theorem actsV_len (m : Wk) (x lev : Int) : (actsV m x lev).length ≤ 1048576 := by
  unfold actsV
  split
  · have := actsL_len m (x, lev); omega
  · simp
end M
namespace C
set_option maxHeartbeats 3200000
set_option maxRecDepth 20000
theorem specGate_lw (w : World) (lo hi : Nat) (m : M.Wk) (a b : Option Addr) (c d : Nat) (h : WkIn lo hi w m a c b d) (hz : hi ≤ w.heap.size) (_h1 : m.gates.length ≤ 1048576) (_h2 : m.pulls.length ≤ 1048576) (x : Int) (_x1 : -9223372036854775808 ≤ x) (_x2 : x ≤ 9223372036854775807) (y : Int) (_y1 : -9223372036854775808 ≤ y) (_y2 : y ≤ 9223372036854775807) :
    Calls Try.prog 22 #[.agg #[.int .i64 m.size, .slice a m.gates.length c, .slice b m.pulls.length d], .int .i64 x, .int .i64 y] w (fun e w' => e = .returned (.tuple #[.bool (M.gateV m x y), .bool (M.gateOk m x y)]) ∧ Below w.heap.size w w') := by
  obtain ⟨ii0, hi0, hz0, hzz1, hz2⟩ := info_parts infoI
  have H := Lib.hid h
  have hc1 := h.c1
  have hc2 := h.c2
  have hd1 := h.d1
  have hd2 := h.d2
  clear h
  go_enter Try.func22, Try.ntmps22
  go_wp2_with fail
  refine named ?_
  intro W hW
  have hb : Below w.heap.size w W := by rw [hW]; exact below_alloc _ _
  have x1 : Box3 W w.heap.size 28 (.int .i64 m.size) (.slice a m.gates.length c) (.slice b m.pulls.length d) := by rw [hW]; exact Box3.new _ _ _ _ rfl
  clear hW
  have hzw := hb.size
  refine (specWorks_any W lo hi m a b c d (H.out.below hb hz) (by omega)).mono ?_
  rintro e w1 ⟨rfl, hb1⟩
  have X1 := Lib.hid (x1.below hb1)
  have HB1 := Lib.hid (hb.trans (hb1.mono hzw))
  have hz1 := hb1.size
  have hxl1 := X1.out.lt
  clear hb hb1 x1
  obtain ⟨c0, c1, c2⟩ := X1.out.cells
  cases q0 : M.worksB m with
  | false =>
    have HM := Lib.hid q0
    clear q0
    go_wp2_with fail
    go_ret2
    have HG : Hid (M.gateOk m x y = false) := Lib.hid (by unfold M.gateOk; rw [HM.out]; rfl)
    have HF := Lib.hid (M.gate_off HG.out)
    rw [HF.out, HG.out]
    exact ⟨rfl, HB1.out⟩
  | true =>
    have HM := Lib.hid q0
    have HV := Lib.hid (M.wv_of q0)
    clear q0
    have hin : M.inB x 0 ((m.gates.length : Int) - 1) = decide (0 ≤ x ∧ x < m.gates.length) := by unfold M.inB; congr 1; apply propext; omega
    have hw1 : IntKind.i64.wrap ((m.gates.length : Int) - 1) = (m.gates.length : Int) - 1 := IntWalk.i64_in _ (by have := HV.out.few; omega)
    have v30 := HV.out.few
    by_cases hx : 0 ≤ x ∧ x < (m.gates.length : Int)
    · have Q : Hid (M.inB x 0 ((m.gates.length : Int) - 1) = true) := Lib.hid (hin.trans (decide_eq_true hx))
      obtain ⟨hx0, hx1⟩ := hx
      obtain ⟨k, rfl⟩ : ∃ k : Nat, x = (k : Int) := ⟨x.toNat, by omega⟩
      have hkl : k < m.gates.length := by omega
      clear hin
      go_wp2_with fail
      refine (l1In_any _ _ _ _).mono ?_
      rintro e w2 ⟨rfl, rfl⟩
      rw [Q.out]
      go_wp2_with fail
      refine (l2Set_any _ _).mono ?_
      rintro e w2 ⟨rfl, rfl⟩
      cases q1 : M.setB y with
      | false =>
        have HG : Hid (M.gateOk m k y = false) := Lib.hid (by unfold M.gateOk; rw [q1, Bool.and_false, Bool.and_false])
        have HF := Lib.hid (M.gate_off HG.out)
        clear q1
        go_wp2_with fail
        go_ret2
        rw [HF.out, HG.out]
        exact ⟨rfl, HB1.out⟩
      | true =>
        have HG : Hid (M.gateOk m k y = true) := Lib.hid (by unfold M.gateOk; rw [q1, HM.out, decide_eq_true ⟨hx0, hx1⟩]; rfl)
        have HF := Lib.hid (M.gate_on HG.out hkl)
        have hset : 0 ≤ y ∧ y < 64 := by unfold M.setB at q1; exact decide_eq_true_iff.1 q1
        obtain ⟨gb, go, rfl, hgb, g0, g1, g2, g3⟩ := gate_at (H.out.below HB1.out hz).gates hkl
        obtain ⟨p1, p2, p3, p4, p5, p6, p7⟩ := HV.out.gate k hkl
        clear q1
        generalize m.gates[k] = g at *
        go_wp2_with fail
        refine (l8Open_any g y _ p4 p5 hset.1 hset.2).mono ?_
        rintro e w3 ⟨rfl, hb3⟩
        have HB3 := Lib.hid (HB1.out.trans (hb3.mono (by omega)))
        clear hb3
        go_wp2_with fail
        go_ret2
        rw [HF.out, HG.out]
        exact ⟨rfl, HB3.out⟩
    · have Q : Hid (M.inB x 0 ((m.gates.length : Int) - 1) = false) := Lib.hid (hin.trans (decide_eq_false hx))
      have HG : Hid (M.gateOk m x y = false) := Lib.hid (by unfold M.gateOk; rw [decide_eq_false hx, Bool.false_and, Bool.and_false])
      have HF := Lib.hid (M.gate_off HG.out)
      clear hin hx
      go_wp2_with fail
      refine (l1In_any _ _ _ _).mono ?_
      rintro e w2 ⟨rfl, rfl⟩
      rw [Q.out]
      go_wp2_with fail
      go_ret2
      rw [HF.out, HG.out]
      exact ⟨rfl, HB1.out⟩
theorem implGate_lw (w : World) (lo hi : Nat) (m : M.Wk) (a b : Option Addr) (c d : Nat) (h : WkIn lo hi w m a c b d) (hz : hi ≤ w.heap.size) (_h1 : m.gates.length ≤ 1048576) (_h2 : m.pulls.length ≤ 1048576) (x : Int) (_x1 : -9223372036854775808 ≤ x) (_x2 : x ≤ 9223372036854775807) (y : Int) (_y1 : -9223372036854775808 ≤ y) (_y2 : y ≤ 9223372036854775807) :
    Calls Try.prog 23 #[.agg #[.int .i64 m.size, .slice a m.gates.length c, .slice b m.pulls.length d], .int .i64 x, .int .i64 y] w (fun e w' => e = .returned (.tuple #[.bool (M.gateV m x y), .bool (M.gateOk m x y)]) ∧ Below w.heap.size w w') := by
  obtain ⟨ii0, hi0, hz0, hzz1, hz2⟩ := info_parts infoI
  have H := Lib.hid h
  have hc1 := h.c1
  have hc2 := h.c2
  have hd1 := h.d1
  have hd2 := h.d2
  clear h
  go_enter Try.func23, Try.ntmps23
  go_wp2_with fail
  refine named ?_
  intro W hW
  have hb : Below w.heap.size w W := by rw [hW]; exact below_alloc _ _
  have x1 : Box3 W w.heap.size 28 (.int .i64 m.size) (.slice a m.gates.length c) (.slice b m.pulls.length d) := by rw [hW]; exact Box3.new _ _ _ _ rfl
  clear hW
  have hzw := hb.size
  refine (isWorks_any W lo hi m a b c d (H.out.below hb hz) (by omega)).mono ?_
  rintro e w1 ⟨rfl, hb1⟩
  have X1 := Lib.hid (x1.below hb1)
  have HB1 := Lib.hid (hb.trans (hb1.mono hzw))
  have hz1 := hb1.size
  have hxl1 := X1.out.lt
  clear hb hb1 x1
  obtain ⟨c0, c1, c2⟩ := X1.out.cells
  cases q0 : M.worksB m with
  | false =>
    have HM := Lib.hid q0
    clear q0
    go_wp2_with fail
    go_ret2
    have HG : Hid (M.gateOk m x y = false) := Lib.hid (by unfold M.gateOk; rw [HM.out]; rfl)
    have HF := Lib.hid (M.gate_off HG.out)
    rw [HF.out, HG.out]
    exact ⟨rfl, HB1.out⟩
  | true =>
    have HM := Lib.hid q0
    have HV := Lib.hid (M.wv_of q0)
    clear q0
    have hin : M.inB x 0 ((m.gates.length : Int) - 1) = decide (0 ≤ x ∧ x < m.gates.length) := by unfold M.inB; congr 1; apply propext; omega
    have hw1 : IntKind.i64.wrap ((m.gates.length : Int) - 1) = (m.gates.length : Int) - 1 := IntWalk.i64_in _ (by have := HV.out.few; omega)
    have v30 := HV.out.few
    by_cases hx : 0 ≤ x ∧ x < (m.gates.length : Int)
    · have Q : Hid (M.inB x 0 ((m.gates.length : Int) - 1) = true) := Lib.hid (hin.trans (decide_eq_true hx))
      obtain ⟨hx0, hx1⟩ := hx
      obtain ⟨k, rfl⟩ : ∃ k : Nat, x = (k : Int) := ⟨x.toNat, by omega⟩
      have hkl : k < m.gates.length := by omega
      clear hin
      go_wp2_with fail
      refine (areLevers_any _ _).mono ?_
      rintro e w2 ⟨rfl, rfl⟩
      cases q1 : M.setB y with
      | false =>
        have HG : Hid (M.gateOk m k y = false) := Lib.hid (by unfold M.gateOk; rw [q1, Bool.and_false, Bool.and_false])
        have HF := Lib.hid (M.gate_off HG.out)
        clear q1
        go_wp2_with fail
        go_ret2
        rw [HF.out, HG.out]
        exact ⟨rfl, HB1.out⟩
      | true =>
        have HG : Hid (M.gateOk m k y = true) := Lib.hid (by unfold M.gateOk; rw [q1, HM.out, decide_eq_true ⟨hx0, hx1⟩]; rfl)
        have HF := Lib.hid (M.gate_on HG.out hkl)
        have hset : 0 ≤ y ∧ y < 64 := by unfold M.setB at q1; exact decide_eq_true_iff.1 q1
        obtain ⟨gb, go, rfl, hgb, g0, g1, g2, g3⟩ := gate_at (H.out.below HB1.out hz).gates hkl
        obtain ⟨p1, p2, p3, p4, p5, p6, p7⟩ := HV.out.gate k hkl
        clear q1
        generalize m.gates[k] = g at *
        go_wp2_with fail
        refine (isOpenG_any g y _ p4 p5 hset.1 hset.2).mono ?_
        rintro e w3 ⟨rfl, hb3⟩
        have HB3 := Lib.hid (HB1.out.trans (hb3.mono (by omega)))
        clear hb3
        go_wp2_with fail
        go_ret2
        rw [HF.out, HG.out]
        exact ⟨rfl, HB3.out⟩
    · have HG : Hid (M.gateOk m x y = false) := Lib.hid (by unfold M.gateOk; rw [decide_eq_false hx, Bool.false_and, Bool.and_false])
      have HF := Lib.hid (M.gate_off HG.out)
      by_cases hx0 : x < 0
      · clear hin hx
        go_wp2_with fail
        go_ret2
        rw [HF.out, HG.out]
        exact ⟨rfl, HB1.out⟩
      · have hx1 : (m.gates.length : Int) ≤ x := by omega
        clear hin hx
        go_wp2_with fail
        go_ret2
        rw [HF.out, HG.out]
        exact ⟨rfl, HB1.out⟩
theorem specActs_lw (w : World) (lo hi : Nat) (m : M.Wk) (a b : Option Addr) (c d : Nat) (h : WkIn lo hi w m a c b d) (hz : hi ≤ w.heap.size) (_h1 : m.gates.length ≤ 1048576) (_h2 : m.pulls.length ≤ 1048576) (x : Int) (_x1 : -9223372036854775808 ≤ x) (_x2 : x ≤ 9223372036854775807) (y : Int) (_y1 : -9223372036854775808 ≤ y) (_y2 : y ≤ 9223372036854775807) :
    Calls Try.prog 24 #[.agg #[.int .i64 m.size, .slice a m.gates.length c, .slice b m.pulls.length d], .int .i64 x, .int .i64 y] w (IntsOkPost w (M.actsV m x y) (M.visitB m x y)) := by
  obtain ⟨ii0, hi0, hz0, hzz1, hz2⟩ := info_parts infoI
  have H := Lib.hid h
  clear h
  go_enter Try.func24, Try.ntmps24
  go_wp2_with fail
  refine named ?_
  intro W hW
  have hb : Below w.heap.size w W := by rw [hW]; exact below_alloc _ _
  have x1 : Box3 W w.heap.size 28 (.int .i64 m.size) (.slice a m.gates.length c) (.slice b m.pulls.length d) := by rw [hW]; exact Box3.new _ _ _ _ rfl
  clear hW
  have hzw := hb.size
  refine (l8Visit_any W lo hi m a b c d (H.out.below hb hz) (by omega) x y).mono ?_
  rintro e w1 ⟨rfl, hb1⟩
  have X1 := Lib.hid (x1.below hb1)
  have HB1 := Lib.hid (hb.trans (hb1.mono hzw))
  have hz1 := hb1.size
  clear hb hb1 x1
  obtain ⟨c0, c1, c2⟩ := X1.out.cells
  cases q0 : M.visitB m x y with
  | false =>
    have HF := Lib.hid (M.acts_off q0)
    have HG := Lib.hid q0
    clear q0
    go_wp2_with fail
    go_ret2
    rw [HF.out, HG.out]
    exact intsOk_end (l := []) (ownsRow_empty _ _ _ _ (by omega)) (HB1.out.alloc (by omega) _)
  | true =>
    have HF := Lib.hid (M.acts_on q0)
    have HG := Lib.hid q0
    have HV := Lib.hid (visitB_iff q0)
    clear q0
    go_wp2_with fail
    refine (l8Acts_any w1 lo hi m a b c d (H.out.below HB1.out hz) (by omega) HV.out.1 (x, y) HV.out.2).mono ?_
    rintro e w2 ⟨ra, rc, rfl, ho, hq1, hq2, hb2⟩
    have HO := Lib.hid ho
    have HB2 := Lib.hid (HB1.out.trans (hb2.mono (by omega)))
    clear ho hb2
    go_wp2_with fail
    go_ret2
    rw [HF.out, HG.out]
    exact ⟨ra, rc, rfl, HO.out.mono (by omega) (Nat.le_refl _), hq1, hq2, HB2.out⟩
theorem implActs_lw (w : World) (lo hi : Nat) (m : M.Wk) (a b : Option Addr) (c d : Nat) (h : WkIn lo hi w m a c b d) (hz : hi ≤ w.heap.size) (_h1 : m.gates.length ≤ 1048576) (_h2 : m.pulls.length ≤ 1048576) (x : Int) (_x1 : -9223372036854775808 ≤ x) (_x2 : x ≤ 9223372036854775807) (y : Int) (_y1 : -9223372036854775808 ≤ y) (_y2 : y ≤ 9223372036854775807) :
    Calls Try.prog 25 #[.agg #[.int .i64 m.size, .slice a m.gates.length c, .slice b m.pulls.length d], .int .i64 x, .int .i64 y] w (IntsOkPost w (M.actsV m x y) (M.visitB m x y)) := by
  obtain ⟨ii0, hi0, hz0, hzz1, hz2⟩ := info_parts infoI
  have H := Lib.hid h
  clear h
  go_enter Try.func25, Try.ntmps25
  go_upto_region 2 with fail
  refine wp_named ?_
  intro W hW
  have hb : Below w.heap.size w W := by rw [hW]; exact (below_alloc _ _).alloc (by simp) _
  have x1 : Box3 W w.heap.size 28 (.int .i64 m.size) (.slice a m.gates.length c) (.slice b m.pulls.length d) := by rw [hW]; exact (Box3.new _ _ _ _ rfl).alloc _
  have z1 : Box2 W (w.heap.size + 1) 71 (.int .i64 x) (.int .i64 y) := by rw [hW]; exact Box2.new _ _ _ (by simp)
  clear hW
  have hzw := hb.size
  obtain ⟨c0, c1, c2⟩ := x1.cells
  obtain ⟨k0, k1⟩ := z1.cells
  go_wp2_with fail
  refine (isWorks_any W lo hi m a b c d (H.out.below hb hz) (by omega)).mono ?_
  rintro e w1 ⟨rfl, hb1⟩
  have X1 := Lib.hid (x1.below hb1)
  have Z1 := Lib.hid (z1.below hb1)
  have HB1 := Lib.hid (hb.trans (hb1.mono hzw))
  have hz1 := hb1.size
  clear hb hb1 x1 z1 c0 c1 c2 k0 k1
  obtain ⟨c0, c1, c2⟩ := X1.out.cells
  obtain ⟨k0, k1⟩ := Z1.out.cells
  cases q0 : M.worksB m with
  | false =>
    have HG := Lib.hid (visitB_off q0 x y)
    have HF := Lib.hid (M.acts_off HG.out)
    clear q0
    go_wp2_with fail
    go_ret2
    rw [HF.out, HG.out]
    exact intsOk_end (l := []) (ownsRow_empty _ _ _ _ (by omega)) (HB1.out.alloc (by omega) _)
  | true =>
    have HG := Lib.hid (visitB_on q0 x y)
    clear q0
    go_wp2_with fail
    refine (isVisit_any w1 m a b c d (x, y)).mono ?_
    rintro e w2 ⟨rfl, hb2⟩
    simp only
    have HB2 := Lib.hid (HB1.out.trans (hb2.mono (by omega)))
    have X2 := Lib.hid (X1.out.below hb2)
    have Z2 := Lib.hid (Z1.out.below hb2)
    have hz2 := hb2.size
    clear hb2 c0 c1 c2 k0 k1
    obtain ⟨c0, c1, c2⟩ := X2.out.cells
    obtain ⟨k0, k1⟩ := Z2.out.cells
    cases q1 : (M.nodeB m.size x && M.setB y) with
    | false =>
      have HG2 : Hid (M.visitB m x y = false) := Lib.hid (HG.out.trans q1)
      have HF := Lib.hid (M.acts_off HG2.out)
      clear q1
      go_wp2_with fail
      go_ret2
      rw [HF.out, HG2.out]
      exact intsOk_end (l := []) (ownsRow_empty _ _ _ _ (by omega)) (HB2.out.alloc (by omega) _)
    | true =>
      have HG2 : Hid (M.visitB m x y = true) := Lib.hid (HG.out.trans q1)
      have HF := Lib.hid (M.acts_on HG2.out)
      have HV := Lib.hid (visitB_iff HG2.out)
      clear q1
      go_wp2_with fail
      refine (actsAt_any w2 lo hi m a b c d (H.out.below HB2.out hz) (by omega) HV.out.1 (x, y) HV.out.2).mono ?_
      rintro e w3 ⟨ra, rc, rfl, ho, hq1, hq2, hb3⟩
      have HO := Lib.hid ho
      have HB3 := Lib.hid (HB2.out.trans (hb3.mono (by omega)))
      clear ho hb3
      go_wp2_with fail
      go_ret2
      rw [HF.out, HG2.out]
      exact ⟨ra, rc, rfl, HO.out.mono (by omega) (Nat.le_refl _), hq1, hq2, HB3.out⟩
end C
end Go.Proofs.Ytdgfceiobpnchaa
