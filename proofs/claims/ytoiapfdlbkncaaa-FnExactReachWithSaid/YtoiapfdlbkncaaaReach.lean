/-
  CONTRACTS of ReachWith on both sides; what lay in memory stays. No condition but that the maze reads so.
-/
import Derived.Test.YtoiapfdlbkncaaaReachS
import Derived.Test.YtoiapfdlbkncaaaSpreadI
import Derived.Test.YtoiapfdlbkncaaaNodeB
import Derived.Deep.RegionHeld3
namespace Go.Proofs.Ytoiapfdlbkncaaa
open Go.RowKit
namespace C
set_option maxHeartbeats 3200000
set_option maxRecDepth 20000
theorem specReach_lw (w : World) (lo hi : Nat) (m : M.Mz) (a b : Option Addr) (c d : Nat) (h : MzIn lo hi w m a c b d) (hz : hi ≤ w.heap.size) (_h1 : m.doors.length ≤ 1048576) (_h2 : m.keys.length ≤ 1048576) (x : Int) (_x1 : -9223372036854775808 ≤ x) (_x2 : x ≤ 9223372036854775807) (set : Int) (_s1 : -9223372036854775808 ≤ set) (_s2 : set ≤ 9223372036854775807) :
    Calls Try.prog 16 #[.agg #[.int .i64 m.size, .slice a m.doors.length c, .slice b m.keys.length d], .int .i64 x, .int .i64 set] w (IntsOkPost w (M.reachV m x set) (M.reachB m x set)) := by
  have H := Lib.hid h
  clear h
  go_enter Try.func16, Try.ntmps16
  go_wp2_with fail
  refine named ?_
  intro W hW
  have hb : Below w.heap.size w W := by rw [hW]; exact below_alloc _ _
  have x1 : Box3 W w.heap.size 29 (.int .i64 m.size) (.slice a m.doors.length c) (.slice b m.keys.length d) := by rw [hW]; exact Box3.new _ _ _ _ rfl
  clear hW
  have hzw := hb.size
  refine (l2Node_any W lo hi m a b c d x (H.out.below hb hz) (by omega)).mono ?_
  rintro e w1 ⟨rfl, hb1⟩
  have X1 := Lib.hid (x1.below hb1)
  have HB1 := Lib.hid (hb.trans (hb1.mono hzw))
  have hz1 := hb1.size
  have hbl := X1.out.lt
  obtain ⟨c0, c1, c2⟩ := X1.out.cells
  clear hb hb1 x1
  cases q1 : M.mzNodeB m x with
  | false =>
    have HF : Hid (M.reachB m x set = false) := Lib.hid (by unfold M.reachB; rw [q1]; rfl)
    have HV := Lib.hid (M.reachV_no HF.out)
    clear q1
    go_wp2_with fail
    go_ret2
    rw [HF.out, HV.out]
    exact intsOk_end (l := []) (ownsRow_empty _ _ _ _ (by omega)) (HB1.out.alloc (by omega) _)
  | true =>
    have hmx : M.mazeB m = true ∧ M.nodeB m.size x = true := by unfold M.mzNodeB at q1; rwa [Bool.and_eq_true] at q1
    have Q1 := Lib.hid q1
    have HVA := Lib.hid (M.valid_of hmx.1)
    have hx : 0 ≤ x ∧ x < m.size := by have := hmx.2; unfold M.nodeB at this; exact decide_eq_true_iff.1 this
    clear q1 hmx
    go_wp2_with fail
    refine (l2Set_any _ _).mono ?_
    rintro e w3 ⟨rfl, rfl⟩
    cases q3 : M.setB set with
    | false =>
      have HF : Hid (M.reachB m x set = false) := Lib.hid (by unfold M.reachB; rw [q3, Bool.and_false])
      have HV := Lib.hid (M.reachV_no HF.out)
      clear q3
      go_wp2_with fail
      go_ret2
      rw [HF.out, HV.out]
      exact intsOk_end (l := []) (ownsRow_empty _ _ _ _ (by omega)) (HB1.out.alloc (by omega) _)
    | true =>
      have HF : Hid (M.reachB m x set = true) := Lib.hid (by unfold M.reachB; rw [q3, Q1.out]; rfl)
      have HV := Lib.hid (M.reachV_yes HF.out)
      have hs : 0 ≤ set ∧ set < 64 := by unfold M.setB at q3; exact decide_eq_true_iff.1 q3
      clear q3
      go_wp2_with fail
      refine (reach_any w1 lo hi m a b c d (H.out.below HB1.out hz) (by omega) HVA.out x set hx.1 hx.2 hs.1 hs.2).mono ?_
      rintro e w4 ⟨ra, rc, rfl, ho, ho1, ho2, hb4⟩
      have HO := Lib.hid ho
      have HB4 := Lib.hid (HB1.out.trans (hb4.mono (by omega)))
      have hz4 := hb4.size
      clear ho hb4
      go_wp2_with fail
      go_ret2
      rw [HF.out, HV.out]
      exact ⟨_, _, rfl, HO.out.mono (by omega) (Nat.le_refl _), ho1, ho2, HB4.out⟩
theorem wrap_small {p : Nat} (h : p < 4096) : wrap64 (p : Int) = (p : Int) := by unfold wrap64; omega
theorem wrap_small2 {p : Nat} (h : p < 4096) : IntKind.i64.wrap (p : Int) = (p : Int) := IntWalk.i64_in _ (by omega)
theorem implReach_lw (w : World) (lo hi : Nat) (m : M.Mz) (a b : Option Addr) (c d : Nat) (h : MzIn lo hi w m a c b d) (hz : hi ≤ w.heap.size) (_h1 : m.doors.length ≤ 1048576) (_h2 : m.keys.length ≤ 1048576) (x : Int) (_x1 : -9223372036854775808 ≤ x) (_x2 : x ≤ 9223372036854775807) (set : Int) (_s1 : -9223372036854775808 ≤ set) (_s2 : set ≤ 9223372036854775807) :
    Calls Try.prog 18 #[.agg #[.int .i64 m.size, .slice a m.doors.length c, .slice b m.keys.length d], .int .i64 x, .int .i64 set] w (IntsOkPost w (M.reachV m x set) (M.reachB m x set)) := by
  have H := Lib.hid h
  clear h
  go_enter Try.func18, Try.ntmps18
  go_wp2_with fail
  refine named ?_
  intro W hW
  have hb : Below w.heap.size w W := by rw [hW]; exact below_alloc _ _
  have x1 : Box3 W w.heap.size 29 (.int .i64 m.size) (.slice a m.doors.length c) (.slice b m.keys.length d) := by rw [hW]; exact Box3.new _ _ _ _ rfl
  clear hW
  have hzw := hb.size
  refine (isMaze_any W lo hi m a b c d (H.out.below hb hz) (by omega)).mono ?_
  rintro e w1 ⟨rfl, hb1⟩
  have X1 := Lib.hid (x1.below hb1)
  have hbl := X1.out.lt
  have HB1 := Lib.hid (hb.trans (hb1.mono hzw))
  have hz1w := hb1.size
  clear hb hb1 x1
  obtain ⟨c0, c1, c2⟩ := X1.out.cells
  cases q0 : M.mazeB m with
  | false =>
    have HF : Hid (M.reachB m x set = false) := Lib.hid (by unfold M.reachB M.mzNodeB; rw [q0]; rfl)
    have HV := Lib.hid (M.reachV_no HF.out)
    clear q0
    go_wp2_with fail
    go_ret2
    rw [HF.out, HV.out]
    exact intsOk_end (l := []) (ownsRow_empty _ _ _ _ (by omega)) (HB1.out.alloc (by omega) _)
  | true =>
    have HM := Lib.hid q0
    have HVA := Lib.hid (M.valid_of q0)
    clear q0
    go_wp2_with fail
    refine (hasNode_b m _ _ _ _ _ _).mono ?_
    rintro e W2 ⟨rfl, hb2⟩
    have X2 := Lib.hid (X1.out.below hb2)
    have HB2 := Lib.hid (HB1.out.trans (hb2.mono (by omega)))
    have hz2w := hb2.size
    have hbl2 := X2.out.lt
    clear hb2 c0 c1 c2
    obtain ⟨c0, c1, c2⟩ := X2.out.cells
    cases q1 : M.nodeB m.size x with
    | false =>
      have HF : Hid (M.reachB m x set = false) := Lib.hid (by unfold M.reachB M.mzNodeB; rw [q1, HM.out]; rfl)
      have HV := Lib.hid (M.reachV_no HF.out)
      clear q1
      go_wp2_with fail
      go_ret2
      rw [HF.out, HV.out]
      exact intsOk_end (l := []) (ownsRow_empty _ _ _ _ (by omega)) (HB2.out.alloc (by omega) _)
    | true =>
      have Q1 : Hid (M.mzNodeB m x = true) := Lib.hid (M.mzNode_yes HM.out q1)
      have hx : 0 ≤ x ∧ x < m.size := by unfold M.nodeB at q1; exact decide_eq_true_iff.1 q1
      clear q1
      go_wp2_with fail
      refine (isSet_any _ _).mono ?_
      rintro e w3 ⟨rfl, rfl⟩
      cases q3 : M.setB set with
      | false =>
        have HF : Hid (M.reachB m x set = false) := Lib.hid (by unfold M.reachB; rw [q3, Bool.and_false])
        have HV := Lib.hid (M.reachV_no HF.out)
        clear q3
        go_wp2_with fail
        go_ret2
        rw [HF.out, HV.out]
        exact intsOk_end (l := []) (ownsRow_empty _ _ _ _ (by omega)) (HB2.out.alloc (by omega) _)
      | true =>
        have HF : Hid (M.reachB m x set = true) := Lib.hid (by unfold M.reachB; rw [q3, Q1.out]; rfl)
        have HV := Lib.hid (M.reachV_yes HF.out)
        have hs : 0 ≤ set ∧ set < 64 := by unfold M.setB at q3; exact decide_eq_true_iff.1 q3
        have v12 := HVA.out.size12
        clear q3
        obtain ⟨hx0, hx1⟩ := hx
        obtain ⟨k, hk⟩ : ∃ k : Nat, k = x.toNat := ⟨_, rfl⟩
        have hxk : (k : Int) = x := by omega
        have hk12 : k < 12 := by omega
        obtain ⟨p, hp⟩ : ∃ p : Nat, p = 2 ^ k := ⟨_, rfl⟩
        have hp4 : p < 4096 := by rw [hp]; exact M.pow12 hk12
        have e2k : ((2 : Int) ^ x.toNat) = (p : Int) := by rw [hp, ← hk]; simp
        have hst : M.MaskOk m.doors (M.openTo set) k p := by rw [hp]; exact M.MaskOk.start hk12
        clear hp
        have hsh : wrap64 (2 ^ x.toNat) = (p : Int) := by rw [e2k]; exact wrap_small hp4
        have hsh2 : IntKind.i64.wrap (2 ^ x.toNat) = (p : Int) := by rw [e2k]; exact wrap_small2 hp4
        clear e2k
        have hkn : ¬ x < 0 := by omega
        have HXK := Lib.hid hxk
        clear hk hxk
        have HSP := Lib.hid (fun W' (hq : Below W2.heap.size W2 W') => spread_any W' lo hi m a b c d (H.out.below (HB2.out.trans (hq.mono (by omega))) hz) (by have := hq.size; omega) HVA.out p set (M.MaskOk m.doors (M.openTo set) k) hst (fun n e he hn => by
          obtain ⟨j, hj, rfl⟩ := List.mem_iff_getElem.1 he
          obtain ⟨p1, p2, p3, p4, _⟩ := HVA.out.door j hj
          exact hn.step (List.getElem_mem hj) p1 (by omega) p3 (by omega)) (fun n hn => hn.2.1))
        have HRM : Hid (∀ n, M.MaskOk m.doors (M.openTo set) k n → M.passN (M.openTo set) n m.doors = n → M.digsTo n 12 = M.reachOf m x set) := Lib.hid (fun n h1 h2 => by have := M.reach_mask (n := n) (set := set) HVA.out (by rw [HXK.out]; exact hx1) h1 h2; rwa [HXK.out] at this)
        go_wp2_with fail
        go_region_held3 (fun wq => wq.cell? ⟨w.heap.size, 0, none⟩ = some (.int .i64 m.size) ∧ wq.cell? ⟨w.heap.size, 1, none⟩ = some (.slice a m.doors.length c) ∧ wq.cell? ⟨w.heap.size, 2, none⟩ = some (.slice b m.keys.length d)) (first | exact ⟨d0, d1, d2⟩ | go_keep) (first
          | (go_at_call 68; refine (HSP.out _ (Below.refl W2.heap.size W2).drew).mono ?_; rintro e w5 ⟨n, rfl, hmk, hps, hb5⟩; have hb5' : Below W2.heap.size W2 w5 := (Below.refl W2.heap.size W2).drew.trans hb5; obtain ⟨d0, d1, d2⟩ := (X2.out.below hb5').cells)
          | (go_at_call 67; refine (digits_any n hmk.2.1 _).mono ?_; rintro e w6 ⟨ra, rc, rfl, ho, ho1, ho2, hb6⟩; obtain ⟨d0, d1, d2⟩ := ((X2.out.below hb5').below hb6).cells))
        all_goals
          have HR := Lib.hid (HRM.out n hmk hps)
          have hz5 := hb5'.size
          have HO := Lib.hid ho
          have HB6 := Lib.hid (HB2.out.trans ((hb5'.trans (hb6.mono hz5)).mono (by omega)))
          clear ho hb5' hb6 hmk hps
          go_wp2_with fail
          go_ret2
          rw [HF.out, HV.out, ← HR.out]
          exact ⟨_, _, rfl, HO.out.mono (by omega) (Nat.le_refl _), ho1, ho2, HB6.out⟩
end C
end Go.Proofs.Ytoiapfdlbkncaaa
