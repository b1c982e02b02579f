/-
  CONTRACT of the model's AreApart; what lay in memory stays. No condition but that the works read so.
-/
import Derived.Test.YtdgfceiobpnchaaFew8S
import Derived.Test.YtdgfceiobpnchaaVis
namespace Go.Proofs.Ytdgfceiobpnchaa
open Go.RowKit
namespace C
set_option maxHeartbeats 3200000
set_option maxRecDepth 20000
theorem specApart_lw (w : World) (lo hi : Nat) (m : M.Wk) (a b : Option Addr) (c d : Nat) (h : WkIn lo hi w m a c b d) (hz : hi ≤ w.heap.size) (_h1 : m.gates.length ≤ 1048576) (_h2 : m.pulls.length ≤ 1048576) (x : Int) (_x1 : -9223372036854775808 ≤ x) (_x2 : x ≤ 9223372036854775807) (y : Int) (_y1 : -9223372036854775808 ≤ y) (_y2 : y ≤ 9223372036854775807) (z : Int) (_z1 : -9223372036854775808 ≤ z) (_z2 : z ≤ 9223372036854775807) (v : Int) (_v1 : -9223372036854775808 ≤ v) (_v2 : v ≤ 9223372036854775807) :
    Calls Try.prog 52 #[.agg #[.int .i64 m.size, .slice a m.gates.length c, .slice b m.pulls.length d], .int .i64 x, .int .i64 y, .int .i64 z, .int .i64 v] w (fun e w' => e = .returned (.tuple #[.bool (M.apartV m x y z v), .bool (M.apartB m x y z v)]) ∧ Below w.heap.size w w') := by
  have H := Lib.hid h
  clear h
  go_enter Try.func52, Try.ntmps52
  go_wp2_with fail
  refine named ?_
  intro W hW
  have hb : Below w.heap.size w W := by rw [hW]; exact below_alloc _ _
  have x1 : Box3 W w.heap.size 28 (.int .i64 m.size) (.slice a m.gates.length c) (.slice b m.pulls.length d) := by rw [hW]; exact Box3.new _ _ _ _ rfl
  clear hW
  have hzw := hb.size
  refine (l8Visit_any W lo hi m a b c d (H.out.below hb hz) (by omega) x y).mono ?_
  rintro e w1 ⟨rfl, hb1⟩
  have X1 := Lib.hid (x1.below hb1)
  have HB1 := Lib.hid (hb.trans (hb1.mono hzw))
  have hz1 := hb1.size
  clear hb hb1 x1
  obtain ⟨c0, c1, c2⟩ := X1.out.cells
  cases q0 : M.visitB m x y with
  | false =>
    have HG : Hid (M.apartB m x y z v = false) := Lib.hid (by unfold M.apartB; rw [q0]; rfl)
    have HF := Lib.hid (M.apart_no HG.out)
    clear q0
    go_wp2_with fail
    go_ret2
    rw [HF.out, HG.out]
    exact ⟨rfl, HB1.out⟩
  | true =>
    have Q0 := Lib.hid q0
    clear q0
    go_wp2_with fail
    refine (l8Visit_any w1 lo hi m a b c d (H.out.below HB1.out hz) (by omega) z v).mono ?_
    rintro e w2 ⟨rfl, hb2⟩
    have X2 := Lib.hid (X1.out.below hb2)
    have HB2 := Lib.hid (HB1.out.trans (hb2.mono (by omega)))
    have hz2 := hb2.size
    clear hb2 c0 c1 c2
    obtain ⟨c0, c1, c2⟩ := X2.out.cells
    cases q1 : M.visitB m z v with
    | false =>
      have HG : Hid (M.apartB m x y z v = false) := Lib.hid (by unfold M.apartB; rw [Q0.out, q1]; rfl)
      have HF := Lib.hid (M.apart_no HG.out)
      clear q1
      go_wp2_with fail
      go_ret2
      rw [HF.out, HG.out]
      exact ⟨rfl, HB2.out⟩
    | true =>
      have HG : Hid (M.apartB m x y z v = true) := Lib.hid (by unfold M.apartB; rw [Q0.out, q1]; rfl)
      have HV := Lib.hid (visitB_iff Q0.out)
      have HV2 := Lib.hid (visitB_iff q1)
      have HF : Hid (M.apartV m x y z v = !(M.dstC (M.edgeW m false) (x, y) (z, v)).isSome) := Lib.hid (by rw [M.apart_yes HG.out, M.dst_same])
      clear q1
      have HSPR := Lib.hid (fun W' (hb' : Below w.heap.size w W') => l8Spread_any W' lo hi m a b c d (H.out.below hb' hz) (by have := hb'.size; omega) HV.out.1 (x, y) HV.out.2 false)
      obtain ⟨v1, v2, v3, v4⟩ := HV2.out.2
      have v12 := HV.out.1.size12
      simp only at v1 v2 v3 v4
      have hil := M.idN_lt HV2.out.2
      have HUN := Lib.hid (M.unid_idN HV2.out.2)
      generalize M.dstC (M.edgeW m false) (x, y) = f at *
      have HSZ : Hid (M.size64 m = m.size.toNat * 64) := Lib.hid rfl
      rw [← HSZ.out] at hil
      generalize M.size64 m = sz at *
      have HID := Lib.hid (fun W' => l4Id_any z v W' v1 (by omega) v3 (by omega))
      have HAT := Lib.hid (M.tblL_at (f := f) hil)
      rw [HUN.out] at HAT
      generalize M.idN (z, v) = i at *
      go_wp2_with fail
      refine (HSPR.out _ HB2.out).mono ?_
      rintro e w3 ⟨ra, rc, rfl, ho, hq1, hq2, hb3⟩
      have HTL := Lib.hid (M.tblL_len sz f)
      rw [HTL.out] at hq1
      rw [HTL.out]
      obtain ⟨sb, off, hsa, _, hsb, hcell⟩ := ho.row.at_ (k := i) (by rw [M.encIs_len, HTL.out]; exact hil)
      subst hsa
      have y0 := hcell _ _ HAT.out
      have HB3 := Lib.hid (HB2.out.trans (hb3.mono (by omega)))
      clear hcell ho hb3 c0 c1 c2
      generalize f (z, v) = r at *
      cases r with
      | none =>
        rw [M.optI_none] at y0
        go_wp2_with fail
        refine (HID.out _).mono ?_
        rintro e w4 ⟨rfl, rfl⟩
        go_wp2_with fail
        go_ret2
        rw [HF.out, HG.out]
        exact ⟨rfl, HB3.out⟩
      | some k =>
        rw [M.optI_some] at y0
        go_wp2_with fail
        refine (HID.out _).mono ?_
        rintro e w4 ⟨rfl, rfl⟩
        go_wp2_with fail
        go_ret2
        rw [HF.out, HG.out]
        exact ⟨rfl, HB3.out⟩
end C
end Go.Proofs.Ytdgfceiobpnchaa
