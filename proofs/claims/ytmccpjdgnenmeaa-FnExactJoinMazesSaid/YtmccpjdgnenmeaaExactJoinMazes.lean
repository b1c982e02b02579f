/-
  PROVED: for every two mazes aA and aB the law laws.FnExactJoinMazes returns true, that is, impl.JoinMazes answers as the model does, in memory of its own at each call; its arguments read afterwards as before. Conditions: none.
-/
import Derived.Test.YtmccpjdgnenmeaaRows
import Derived.Test.YtmccpjdgnenmeaaOpen
import Derived.Test.YtmccpjdgnenmeaaMaz2
import Derived.Test.YtmccpjdgnenmeaaJoinS
import Derived.WalkKit
import Derived.ProofKit
import Derived.OpenShut
import Derived.ShutString
import Derived.Deep.RegionWith
import Derived.Deep.DeepCutAuto
namespace Go.Proofs.Ytmccpjdgnenmeaa.fnExactJoinMazes
open Go.ChangeShapes Go.WideShapes Go.ChangeAt Go.RowKit
open Go.ChangeMaps (open_string shut_string)
set_option linter.unusedVariables false

set_option maxHeartbeats 4000000 in
set_option maxRecDepth 100000 in
theorem walk (w : World) (m0 : M.Mz) (a0 : Option Addr) (c0 : Nat) (b0 : Option Addr) (d0 : Nat) (w0 : C.MzIn 0 w.heap.size w m0 a0 c0 b0 d0) (m1 : M.Mz) (a1 : Option Addr) (c1 : Nat) (b1 : Option Addr) (d1 : Nat) (w1 : C.MzIn 0 w.heap.size w m1 a1 c1 b1 d1) :
    Calls Try.prog 6 #[(.agg #[.int .i64 m0.size, .slice a0 m0.doors.length c0, .slice b0 m0.keys.length d0]), (.agg #[.int .i64 m1.size, .slice a1 m1.doors.length c1, .slice b1 m1.keys.length d1])] w fun e w' => e = .returned (.bool true) ∧ Below w.heap.size w w' := by
  have y0 := Nat.le_trans w0.c1 w0.c2
  have z0 := Nat.le_trans w0.d1 w0.d2
  have x0 := Lib.hid w0
  clear w0
  have y1 := Nat.le_trans w1.c1 w1.c2
  have z1 := Nat.le_trans w1.d1 w1.d2
  have x1 := Lib.hid w1
  clear w1
  by_cases s0 : 1048576 < m0.doors.length + m0.keys.length
  · go_enter Try.func6, Try.ntmps6
    have bb_1 := Lib.hid (Below.refl w.heap.size w)
    go_wp2_with fail
    refine C.named ?_
    intro W0 hW0
    have kW0 : Below w.heap.size w W0 := by rw [hW0]; exact (by (repeat (first | exact Below.refl _ _ | (refine Below.alloc ?_ (by first | omega | (simp; done) | (simp; omega)) _))))
    have bx_2p : C.Box3 W0 (w.heap.size) 40 (.int .i64 m0.size) (.slice a0 m0.doors.length c0) (.slice b0 m0.keys.length d0) := by rw [hW0]; exact ((C.Box3.new _ _ _ _ (by simp)).alloc _)
    have bx_2q := bx_2p.lt
    have bx_2 := Lib.hid bx_2p
    clear bx_2p
    have bx_3p : C.Box3 W0 (w.heap.size + 1) 40 (.int .i64 m1.size) (.slice a1 m1.doors.length c1) (.slice b1 m1.keys.length d1) := by rw [hW0]; exact C.Box3.new _ _ _ _ (by simp)
    have bx_3q := bx_3p.lt
    have bx_3 := Lib.hid bx_3p
    clear bx_3p
    clear hW0
    have tt_4 := Lib.hid (C.Turned.of_below kW0 0 0)
    have zz_5 := tt_4.out.size
    have ff_6 := Lib.hid (x0.out.turned tt_4.out (by omega) (by omega))
    clear x0
    have ff_7 := Lib.hid (x1.out.turned tt_4.out (by omega) (by omega))
    clear x1
    have bb_8 := Lib.hid (C.Below.far bb_1.out tt_4.out)
    clear tt_4 bb_1
    clear kW0
    refine (C.szMaze_any W0 m0 a0 b0 c0 d0 (1048576) (by omega) (by omega) (by omega) (by omega)).mono ?_
    rintro e W1 ⟨rfl, hb⟩
    have tt_9 := Lib.hid (C.Turned.of_below hb 0 0)
    have zz_10 := tt_9.out.size
    have ff_11 := Lib.hid (ff_6.out.turned tt_9.out (by omega) (by omega))
    clear ff_6
    have ff_12 := Lib.hid (ff_7.out.turned tt_9.out (by omega) (by omega))
    clear ff_7
    have ff_13 := Lib.hid (bx_2.out.turned tt_9.out (by omega))
    clear bx_2
    have ff_14 := Lib.hid (bx_3.out.turned tt_9.out (by omega))
    clear bx_3
    have bb_15 := Lib.hid (C.Below.far bb_8.out tt_9.out)
    clear tt_9 bb_8
    clear hb
    rw [if_pos (by omega)]
    obtain ⟨cl_16, cl_17, cl_18⟩ := ff_13.out.cells
    have cq_19 := ff_13.out.lt
    obtain ⟨cl_20, cl_21, cl_22⟩ := ff_14.out.cells
    have cq_23 := ff_14.out.lt
    go_wp2_with fail
    go_ret
    exact ⟨rfl, bb_15.out⟩
  by_cases s1 : 1048576 < m0.doors.length + m0.keys.length + m1.doors.length + m1.keys.length
  · go_enter Try.func6, Try.ntmps6
    have bb_1 := Lib.hid (Below.refl w.heap.size w)
    go_wp2_with fail
    refine C.named ?_
    intro W0 hW0
    have kW0 : Below w.heap.size w W0 := by rw [hW0]; exact (by (repeat (first | exact Below.refl _ _ | (refine Below.alloc ?_ (by first | omega | (simp; done) | (simp; omega)) _))))
    have bx_2p : C.Box3 W0 (w.heap.size) 40 (.int .i64 m0.size) (.slice a0 m0.doors.length c0) (.slice b0 m0.keys.length d0) := by rw [hW0]; exact ((C.Box3.new _ _ _ _ (by simp)).alloc _)
    have bx_2q := bx_2p.lt
    have bx_2 := Lib.hid bx_2p
    clear bx_2p
    have bx_3p : C.Box3 W0 (w.heap.size + 1) 40 (.int .i64 m1.size) (.slice a1 m1.doors.length c1) (.slice b1 m1.keys.length d1) := by rw [hW0]; exact C.Box3.new _ _ _ _ (by simp)
    have bx_3q := bx_3p.lt
    have bx_3 := Lib.hid bx_3p
    clear bx_3p
    clear hW0
    have tt_4 := Lib.hid (C.Turned.of_below kW0 0 0)
    have zz_5 := tt_4.out.size
    have ff_6 := Lib.hid (x0.out.turned tt_4.out (by omega) (by omega))
    clear x0
    have ff_7 := Lib.hid (x1.out.turned tt_4.out (by omega) (by omega))
    clear x1
    have bb_8 := Lib.hid (C.Below.far bb_1.out tt_4.out)
    clear tt_4 bb_1
    clear kW0
    refine (C.szMaze_any W0 m0 a0 b0 c0 d0 (1048576) (by omega) (by omega) (by omega) (by omega)).mono ?_
    rintro e W1 ⟨rfl, hb⟩
    have tt_9 := Lib.hid (C.Turned.of_below hb 0 0)
    have zz_10 := tt_9.out.size
    have ff_11 := Lib.hid (ff_6.out.turned tt_9.out (by omega) (by omega))
    clear ff_6
    have ff_12 := Lib.hid (ff_7.out.turned tt_9.out (by omega) (by omega))
    clear ff_7
    have ff_13 := Lib.hid (bx_2.out.turned tt_9.out (by omega))
    clear bx_2
    have ff_14 := Lib.hid (bx_3.out.turned tt_9.out (by omega))
    clear bx_3
    have bb_15 := Lib.hid (C.Below.far bb_8.out tt_9.out)
    clear tt_9 bb_8
    clear hb
    rw [if_neg (by omega)]
    obtain ⟨cl_16, cl_17, cl_18⟩ := ff_13.out.cells
    have cq_19 := ff_13.out.lt
    obtain ⟨cl_20, cl_21, cl_22⟩ := ff_14.out.cells
    have cq_23 := ff_14.out.lt
    go_wp2_with fail
    refine (C.szMaze_any W1 m1 a1 b1 c1 d1 (1048576 - m0.doors.length - m0.keys.length) (by omega) (by omega) (by omega) (by omega)).mono ?_
    rintro e W2 ⟨rfl, hb⟩
    clear cl_16 cl_17 cl_18 cq_19 cl_20 cl_21 cl_22 cq_23
    have tt_24 := Lib.hid (C.Turned.of_below hb 0 0)
    have zz_25 := tt_24.out.size
    have ff_26 := Lib.hid (ff_11.out.turned tt_24.out (by omega) (by omega))
    clear ff_11
    have ff_27 := Lib.hid (ff_12.out.turned tt_24.out (by omega) (by omega))
    clear ff_12
    have ff_28 := Lib.hid (ff_13.out.turned tt_24.out (by omega))
    clear ff_13
    have ff_29 := Lib.hid (ff_14.out.turned tt_24.out (by omega))
    clear ff_14
    have bb_30 := Lib.hid (C.Below.far bb_15.out tt_24.out)
    clear tt_24 bb_15
    clear hb
    rw [if_pos (by omega)]
    obtain ⟨cl_31, cl_32, cl_33⟩ := ff_28.out.cells
    have cq_34 := ff_28.out.lt
    obtain ⟨cl_35, cl_36, cl_37⟩ := ff_29.out.cells
    have cq_38 := ff_29.out.lt
    go_wp2_with fail
    go_ret
    exact ⟨rfl, bb_30.out⟩
  go_enter Try.func6, Try.ntmps6
  have bb_1 := Lib.hid (Below.refl w.heap.size w)
  go_wp2_with fail
  refine C.named ?_
  intro W0 hW0
  have kW0 : Below w.heap.size w W0 := by rw [hW0]; exact (by (repeat (first | exact Below.refl _ _ | (refine Below.alloc ?_ (by first | omega | (simp; done) | (simp; omega)) _))))
  have bx_2p : C.Box3 W0 (w.heap.size) 40 (.int .i64 m0.size) (.slice a0 m0.doors.length c0) (.slice b0 m0.keys.length d0) := by rw [hW0]; exact ((C.Box3.new _ _ _ _ (by simp)).alloc _)
  have bx_2q := bx_2p.lt
  have bx_2 := Lib.hid bx_2p
  clear bx_2p
  have bx_3p : C.Box3 W0 (w.heap.size + 1) 40 (.int .i64 m1.size) (.slice a1 m1.doors.length c1) (.slice b1 m1.keys.length d1) := by rw [hW0]; exact C.Box3.new _ _ _ _ (by simp)
  have bx_3q := bx_3p.lt
  have bx_3 := Lib.hid bx_3p
  clear bx_3p
  clear hW0
  have tt_4 := Lib.hid (C.Turned.of_below kW0 0 0)
  have zz_5 := tt_4.out.size
  have ff_6 := Lib.hid (x0.out.turned tt_4.out (by omega) (by omega))
  clear x0
  have ff_7 := Lib.hid (x1.out.turned tt_4.out (by omega) (by omega))
  clear x1
  have bb_8 := Lib.hid (C.Below.far bb_1.out tt_4.out)
  clear tt_4 bb_1
  clear kW0
  refine (C.szMaze_any W0 m0 a0 b0 c0 d0 (1048576) (by omega) (by omega) (by omega) (by omega)).mono ?_
  rintro e W1 ⟨rfl, hb⟩
  have tt_9 := Lib.hid (C.Turned.of_below hb 0 0)
  have zz_10 := tt_9.out.size
  have ff_11 := Lib.hid (ff_6.out.turned tt_9.out (by omega) (by omega))
  clear ff_6
  have ff_12 := Lib.hid (ff_7.out.turned tt_9.out (by omega) (by omega))
  clear ff_7
  have ff_13 := Lib.hid (bx_2.out.turned tt_9.out (by omega))
  clear bx_2
  have ff_14 := Lib.hid (bx_3.out.turned tt_9.out (by omega))
  clear bx_3
  have bb_15 := Lib.hid (C.Below.far bb_8.out tt_9.out)
  clear tt_9 bb_8
  clear hb
  rw [if_neg (by omega)]
  obtain ⟨cl_16, cl_17, cl_18⟩ := ff_13.out.cells
  have cq_19 := ff_13.out.lt
  obtain ⟨cl_20, cl_21, cl_22⟩ := ff_14.out.cells
  have cq_23 := ff_14.out.lt
  go_wp2_with fail
  refine (C.szMaze_any W1 m1 a1 b1 c1 d1 (1048576 - m0.doors.length - m0.keys.length) (by omega) (by omega) (by omega) (by omega)).mono ?_
  rintro e W2 ⟨rfl, hb⟩
  clear cl_16 cl_17 cl_18 cq_19 cl_20 cl_21 cl_22 cq_23
  have tt_24 := Lib.hid (C.Turned.of_below hb 0 0)
  have zz_25 := tt_24.out.size
  have ff_26 := Lib.hid (ff_11.out.turned tt_24.out (by omega) (by omega))
  clear ff_11
  have ff_27 := Lib.hid (ff_12.out.turned tt_24.out (by omega) (by omega))
  clear ff_12
  have ff_28 := Lib.hid (ff_13.out.turned tt_24.out (by omega))
  clear ff_13
  have ff_29 := Lib.hid (ff_14.out.turned tt_24.out (by omega))
  clear ff_14
  have bb_30 := Lib.hid (C.Below.far bb_15.out tt_24.out)
  clear tt_24 bb_15
  clear hb
  rw [if_neg (by omega)]
  obtain ⟨cl_31, cl_32, cl_33⟩ := ff_28.out.cells
  have cq_34 := ff_28.out.lt
  obtain ⟨cl_35, cl_36, cl_37⟩ := ff_29.out.cells
  have cq_38 := ff_29.out.lt
  have hbd : (M.joinV m0 m1).doors.length ≤ 1048576 ∧ (M.joinV m0 m1).keys.length ≤ 1048576 := M.joinV_len _ _
  obtain ⟨hbd1, hbd2⟩ := hbd
  go_upto_region 8 with fail
  clear cl_31 cl_32 cl_33 cq_34 cl_35 cl_36 cl_37 cq_38
  have hcz : W2.drew.heap.size = W2.heap.size := rfl
  go_cut [6, 7] (fun s6 s7 wx => ∃ (g lo hi : Nat) (r0 : Option Addr) (r1 : Nat) (r2 : Option Addr) (r3 : Nat), s6 = .pointer (some ⟨g, 0, none⟩) ∧ s7 = .bool (M.joinB m0 m1) ∧ C.Box3 wx g 27 (.int .i64 (M.joinV m0 m1).size) (.slice r0 (M.joinV m0 m1).doors.length r1) (.slice r2 (M.joinV m0 m1).keys.length r3) ∧ W2.heap.size ≤ g ∧ (g < lo ∨ hi ≤ g) ∧ W2.heap.size ≤ lo ∧ hi ≤ wx.heap.size ∧ C.MzOwn lo hi wx (M.joinV m0 m1) r0 r1 r2 r3 ∧ Below W2.heap.size W2 wx)
  case first =>
    have TA := Lib.hid (fun W' (hq : Below W2.heap.size W2 W') => C.toMaze_any W' 0 w.heap.size m0 a0 b0 c0 d0 (ff_26.out.turned (C.Turned.of_below hq 0 0) (by omega) (by omega)) (by have := hq.size; omega) (by omega) (by omega))
    have TB := Lib.hid (fun W' (hq : Below W2.heap.size W2 W') => C.toMaze_any W' 0 w.heap.size m1 a1 b1 c1 d1 (ff_27.out.turned (C.Turned.of_below hq 0 0) (by omega) (by omega)) (by have := hq.size; omega) (by omega) (by omega))
    have SX : ∀ wq, Below W2.heap.size W2 wq → ((wq.cell? ⟨w.heap.size, 0, none⟩ = some (.int .i64 m0.size) ∧ wq.cell? ⟨w.heap.size, 1, none⟩ = some (.slice a0 m0.doors.length c0) ∧ wq.cell? ⟨w.heap.size, 2, none⟩ = some (.slice b0 m0.keys.length d0)) ∧ (wq.cell? ⟨w.heap.size + 1, 0, none⟩ = some (.int .i64 m1.size) ∧ wq.cell? ⟨w.heap.size + 1, 1, none⟩ = some (.slice a1 m1.doors.length c1) ∧ wq.cell? ⟨w.heap.size + 1, 2, none⟩ = some (.slice b1 m1.keys.length d1))) := fun wq hq => ⟨(ff_28.out.turned (C.Turned.of_below hq 0 0) (by omega)).cells, (ff_29.out.turned (C.Turned.of_below hq 0 0) (by omega)).cells⟩
    go_region_held3 (fun wq => (wq.cell? ⟨w.heap.size, 0, none⟩ = some (.int .i64 m0.size) ∧ wq.cell? ⟨w.heap.size, 1, none⟩ = some (.slice a0 m0.doors.length c0) ∧ wq.cell? ⟨w.heap.size, 2, none⟩ = some (.slice b0 m0.keys.length d0)) ∧ (wq.cell? ⟨w.heap.size + 1, 0, none⟩ = some (.int .i64 m1.size) ∧ wq.cell? ⟨w.heap.size + 1, 1, none⟩ = some (.slice a1 m1.doors.length c1) ∧ wq.cell? ⟨w.heap.size + 1, 2, none⟩ = some (.slice b1 m1.keys.length d1))) (first | (refine SX _ ?_; (repeat (first | exact Below.refl _ _ | refine Below.drew ?_ | refine C.Below.more ?_ hbA | refine C.Below.more ?_ hbB | refine C.Below.more ?_ hbJ | refine C.Below.allocMore ?_ _)); done) | (refine SX _ (C.Below.thenTurned hcJ (C.Turned.set3 _ _ _ _) ?_ hcX); first | exact Nat.le_refl _ | (refine C.Below.szOf ?_; (repeat (first | exact Below.refl _ _ | refine Below.drew ?_ | refine C.Below.more ?_ hbA | refine C.Below.more ?_ hbB | refine C.Below.more ?_ hbJ | refine C.Below.allocMore ?_ _)); done)) | go_keep) (first
      | (go_at_call 25
         first
         | ((with_reducible refine (TA.out _ (by (repeat (first | exact Below.refl _ _ | refine Below.drew ?_ | refine C.Below.more ?_ hbA | refine C.Below.more ?_ hbB | refine C.Below.more ?_ hbJ | refine C.Below.allocMore ?_ _)); done)).mono ?_); rintro e wA ⟨ta1, ta2, ta3, ta4, rfl, hoA, hbA⟩; have HA := Lib.hid (fun W' (hq : Below wA.heap.size wA W') => (hoA.mz.mono (Nat.zero_le _) (Nat.le_refl _)).below hq (Nat.le_refl _)); have hsA := hbA.size; try (first | (have tA := C.Box3.below (w := (W2.alloc (.cells #[.int .i64 0, .slice none 0 0, .slice none 0 0] 27)).drew) (C.Box3.new (w := W2) (g := W2.heap.size) 27 (.int .i64 0) (.slice none 0 0) (.slice none 0 0) rfl) hbA) | (have tA := (C.Box3.new (w := wB) (g := wB.heap.size) 27 (.int .i64 0) (.slice none 0 0) (.slice none 0 0) rfl).below hbA) | (have tA := tB.below hbA)))
         | ((with_reducible refine (TB.out _ (by (repeat (first | exact Below.refl _ _ | refine Below.drew ?_ | refine C.Below.more ?_ hbA | refine C.Below.more ?_ hbB | refine C.Below.more ?_ hbJ | refine C.Below.allocMore ?_ _)); done)).mono ?_); rintro e wB ⟨tb1, tb2, tb3, tb4, rfl, hoB, hbB⟩; have HB := Lib.hid (fun W' (hq : Below wB.heap.size wB W') => (hoB.mz.mono (Nat.zero_le _) (Nat.le_refl _)).below hq (Nat.le_refl _)); have hsB := hbB.size; try (first | (have tB := C.Box3.below (w := (W2.alloc (.cells #[.int .i64 0, .slice none 0 0, .slice none 0 0] 27)).drew) (C.Box3.new (w := W2) (g := W2.heap.size) 27 (.int .i64 0) (.slice none 0 0) (.slice none 0 0) rfl) hbB) | (have tB := (C.Box3.new (w := wA) (g := wA.heap.size) 27 (.int .i64 0) (.slice none 0 0) (.slice none 0 0) rfl).below hbB) | (have tB := tA.below hbB))))
      | (go_at_call 35; refine (C.specJoin_lw _ 0 wA.heap.size m0 ta1 ta3 ta2 ta4 (HA.out _ (by (repeat (first | exact Below.refl _ _ | refine Below.drew ?_ | refine C.Below.more ?_ hbA | refine C.Below.more ?_ hbB | refine C.Below.more ?_ hbJ | refine C.Below.allocMore ?_ _)); done)) (C.Below.szOf (by (repeat (first | exact Below.refl _ _ | refine Below.drew ?_ | refine C.Below.more ?_ hbA | refine C.Below.more ?_ hbB | refine C.Below.more ?_ hbJ | refine C.Below.allocMore ?_ _)); done)) (by omega) (by omega) 0 wB.heap.size m1 tb1 tb3 tb2 tb4 (HB.out _ (by (repeat (first | exact Below.refl _ _ | refine Below.drew ?_ | refine C.Below.more ?_ hbA | refine C.Below.more ?_ hbB | refine C.Below.more ?_ hbJ | refine C.Below.allocMore ?_ _)); done)) (C.Below.szOf (by (repeat (first | exact Below.refl _ _ | refine Below.drew ?_ | refine C.Below.more ?_ hbA | refine C.Below.more ?_ hbB | refine C.Below.more ?_ hbJ | refine C.Below.allocMore ?_ _)); done)) (by omega) (by omega)).mono ?_; rintro e wJ ⟨r0, r1, r2, r3, rfl, hoJ, hbJ⟩; have hsJ := hbJ.size; have hcJ : Below W2.heap.size W2 wJ := (by (repeat (first | exact Below.refl _ _ | refine Below.drew ?_ | refine C.Below.more ?_ hbA | refine C.Below.more ?_ hbB | refine C.Below.more ?_ hbJ | refine C.Below.allocMore ?_ _)); done); have hcX := hcJ.size; try (first | (have tJ0 := C.Box3.new (w := wA) (g := wA.heap.size) 27 (.int .i64 0) (.slice none 0 0) (.slice none 0 0) rfl; have tJ := tJ0.below hbJ; have hgJ := tJ0.lt) | (have tJ := tA.below hbJ; have hgJ := tA.lt) | (have tJ0 := C.Box3.new (w := wB) (g := wB.heap.size) 27 (.int .i64 0) (.slice none 0 0) (.slice none 0 0) rfl; have tJ := tJ0.below hbJ; have hgJ := tJ0.lt) | (have tJ := tB.below hbJ; have hgJ := tB.lt)); try (obtain ⟨g0, g1, g2⟩ := tJ.free; obtain ⟨e0, e1, e2⟩ := tJ.cells; have hgl := tJ.lt)))
    all_goals
      go_wp2_with fail
      go_meet
      first
      | exact ⟨_, _, _, r0, r1, r2, r3, rfl, rfl, tJ.setAll _ _ _, by first | exact C.Below.szOf (w := W2) (by (repeat (first | exact Below.refl _ _ | refine Below.drew ?_ | refine C.Below.more ?_ hbA | refine C.Below.more ?_ hbB | refine C.Below.more ?_ hbJ | refine C.Below.allocMore ?_ _)); done) | omega, .inl hgJ, C.Below.szOf (w := W2) (by (repeat (first | exact Below.refl _ _ | refine Below.drew ?_ | refine C.Below.more ?_ hbA | refine C.Below.more ?_ hbB | refine C.Below.more ?_ hbJ | refine C.Below.allocMore ?_ _)); done), by simp [World.setCell], hoJ.turned (C.Turned.set3 _ _ _ _) (Nat.le_refl _) (.inr (by omega)), C.Below.thenTurned hcJ (C.Turned.set3 _ _ _ _) (C.Below.szOf (w := W2) (by (repeat (first | exact Below.refl _ _ | refine Below.drew ?_ | refine C.Below.more ?_ hbA | refine C.Below.more ?_ hbB | refine C.Below.more ?_ hbJ | refine C.Below.allocMore ?_ _)); done)) hcX⟩
      | exact ⟨_, _, _, r0, r1, r2, r3, rfl, rfl, C.Box3.new _ _ _ _ rfl, hcX, .inr (Nat.le_refl _), C.Below.szOf (w := W2) (by (repeat (first | exact Below.refl _ _ | refine Below.drew ?_ | refine C.Below.more ?_ hbA | refine C.Below.more ?_ hbB | refine C.Below.more ?_ hbJ | refine C.Below.allocMore ?_ _)); done), by simp, hoJ.below (C.below_alloc _ _) (Nat.le_refl _), C.Below.allocMore hcJ _⟩
  case rest =>
    obtain ⟨gb_43, lo_44, hi_45, r_39, r_40, r_41, r_42, rfl, rfl, bx_46_, hg1, hg2, hg3, hg4, fo_47_, hb⟩ := hcut
    have hq_48 := hg1; have hq_49 := hg2; have hq_50 := hg3; have hq_51 := hg4
    clear hg1 hg2 hg3 hg4
    have bx_46 := Lib.hid bx_46_; have fo_47 := Lib.hid fo_47_; have hglgb_43 := bx_46_.lt
    clear bx_46_ fo_47_
    obtain ⟨W3, rfl⟩ : ∃ W, W = wc := ⟨_, rfl⟩
    have tt_52 := Lib.hid (C.Turned.of_below hb 0 0)
    have zz_53 := tt_52.out.size
    have ff_54 := Lib.hid (ff_26.out.turned tt_52.out (by omega) (by omega))
    clear ff_26
    have ff_55 := Lib.hid (ff_27.out.turned tt_52.out (by omega) (by omega))
    clear ff_27
    have ff_56 := Lib.hid (ff_28.out.turned tt_52.out (by omega))
    clear ff_28
    have ff_57 := Lib.hid (ff_29.out.turned tt_52.out (by omega))
    clear ff_29
    have bb_58 := Lib.hid (C.Below.far bb_30.out tt_52.out)
    clear tt_52 bb_30
    clear hb
    obtain ⟨cl_59, cl_60, cl_61⟩ := ff_56.out.cells
    have cq_62 := ff_56.out.lt
    obtain ⟨cl_63, cl_64, cl_65⟩ := ff_57.out.cells
    have cq_66 := ff_57.out.lt
    obtain ⟨cl_67, cl_68, cl_69⟩ := bx_46.out.cells
    have cq_70 := bx_46.out.lt
    go_wp2_with fail
    refine (C.toMaze_any W3 0 w.heap.size m0 a0 b0 c0 d0 ff_54.out (by omega) (by omega) (by omega)).mono ?_
    rintro e W4 ⟨t_71, t_72, t_73, t_74, rfl, ho, hb⟩
    clear cl_59 cl_60 cl_61 cq_62 cl_63 cl_64 cl_65 cq_66 cl_67 cl_68 cl_69 cq_70
    have tt_75 := Lib.hid (C.Turned.of_below hb 0 0)
    have zz_76 := tt_75.out.size
    have ff_77 := Lib.hid (ff_54.out.turned tt_75.out (by omega) (by omega))
    clear ff_54
    have ff_78 := Lib.hid (ff_55.out.turned tt_75.out (by omega) (by omega))
    clear ff_55
    have ff_79 := Lib.hid (fo_47.out.turned tt_75.out (by omega) (by omega))
    clear fo_47
    have ff_80 := Lib.hid (ff_56.out.turned tt_75.out (by omega))
    clear ff_56
    have ff_81 := Lib.hid (ff_57.out.turned tt_75.out (by omega))
    clear ff_57
    have ff_82 := Lib.hid (bx_46.out.turned tt_75.out (by omega))
    clear bx_46
    have bb_83 := Lib.hid (C.Below.far bb_58.out tt_75.out)
    clear tt_75 bb_58
    clear hb
    have fo_84 := Lib.hid ho
    clear ho
    obtain ⟨cl_85, cl_86, cl_87⟩ := ff_80.out.cells
    have cq_88 := ff_80.out.lt
    obtain ⟨cl_89, cl_90, cl_91⟩ := ff_81.out.cells
    have cq_92 := ff_81.out.lt
    obtain ⟨cl_93, cl_94, cl_95⟩ := ff_82.out.cells
    have cq_96 := ff_82.out.lt
    go_wp2_with fail
    refine C.named ?_
    intro W5 hW5
    have kW5 : Below W4.heap.size W4 W5 := by rw [hW5]; exact (by (repeat (first | exact Below.refl _ _ | (refine Below.alloc ?_ (by first | omega | (simp; done) | (simp; omega)) _))))
    have bx_97p : C.Box3 W5 (W4.heap.size) 27 (.int .i64 m0.size) (.slice t_71 m0.doors.length t_72) (.slice t_73 m0.keys.length t_74) := by rw [hW5]; exact C.Box3.new _ _ _ _ (by simp)
    have bx_97q := bx_97p.lt
    have bx_97 := Lib.hid bx_97p
    clear bx_97p
    clear hW5
    clear cl_85 cl_86 cl_87 cq_88 cl_89 cl_90 cl_91 cq_92 cl_93 cl_94 cl_95 cq_96
    have tt_98 := Lib.hid (C.Turned.of_below kW5 0 0)
    have zz_99 := tt_98.out.size
    have ff_100 := Lib.hid (ff_77.out.turned tt_98.out (by omega) (by omega))
    clear ff_77
    have ff_101 := Lib.hid (ff_78.out.turned tt_98.out (by omega) (by omega))
    clear ff_78
    have ff_102 := Lib.hid (ff_79.out.turned tt_98.out (by omega) (by omega))
    clear ff_79
    have ff_103 := Lib.hid (fo_84.out.turned tt_98.out (by omega) (by omega))
    clear fo_84
    have ff_104 := Lib.hid (ff_80.out.turned tt_98.out (by omega))
    clear ff_80
    have ff_105 := Lib.hid (ff_81.out.turned tt_98.out (by omega))
    clear ff_81
    have ff_106 := Lib.hid (ff_82.out.turned tt_98.out (by omega))
    clear ff_82
    have bb_107 := Lib.hid (C.Below.far bb_83.out tt_98.out)
    clear tt_98 bb_83
    clear kW5
    refine (C.toMaze_any W5 0 w.heap.size m1 a1 b1 c1 d1 ff_101.out (by omega) (by omega) (by omega)).mono ?_
    rintro e W6 ⟨t_108, t_109, t_110, t_111, rfl, ho, hb⟩
    have tt_112 := Lib.hid (C.Turned.of_below hb 0 0)
    have zz_113 := tt_112.out.size
    have ff_114 := Lib.hid (ff_100.out.turned tt_112.out (by omega) (by omega))
    clear ff_100
    have ff_115 := Lib.hid (ff_101.out.turned tt_112.out (by omega) (by omega))
    clear ff_101
    have ff_116 := Lib.hid (ff_102.out.turned tt_112.out (by omega) (by omega))
    clear ff_102
    have ff_117 := Lib.hid (ff_103.out.turned tt_112.out (by omega) (by omega))
    clear ff_103
    have ff_118 := Lib.hid (ff_104.out.turned tt_112.out (by omega))
    clear ff_104
    have ff_119 := Lib.hid (ff_105.out.turned tt_112.out (by omega))
    clear ff_105
    have ff_120 := Lib.hid (ff_106.out.turned tt_112.out (by omega))
    clear ff_106
    have ff_121 := Lib.hid (bx_97.out.turned tt_112.out (by omega))
    clear bx_97
    have bb_122 := Lib.hid (C.Below.far bb_107.out tt_112.out)
    clear tt_112 bb_107
    clear hb
    have fo_123 := Lib.hid ho
    clear ho
    obtain ⟨cl_124, cl_125, cl_126⟩ := ff_118.out.cells
    have cq_127 := ff_118.out.lt
    obtain ⟨cl_128, cl_129, cl_130⟩ := ff_119.out.cells
    have cq_131 := ff_119.out.lt
    obtain ⟨cl_132, cl_133, cl_134⟩ := ff_120.out.cells
    have cq_135 := ff_120.out.lt
    obtain ⟨cl_136, cl_137, cl_138⟩ := ff_121.out.cells
    have cq_139 := ff_121.out.lt
    go_wp2_with fail
    refine C.named ?_
    intro W7 hW7
    have kW7 : Below W6.heap.size W6 W7 := by rw [hW7]; exact (by (repeat (first | exact Below.refl _ _ | (refine Below.alloc ?_ (by first | omega | (simp; done) | (simp; omega)) _))))
    have bx_140p : C.Box3 W7 (W6.heap.size) 27 (.int .i64 m1.size) (.slice t_108 m1.doors.length t_109) (.slice t_110 m1.keys.length t_111) := by rw [hW7]; exact C.Box3.new _ _ _ _ (by simp)
    have bx_140q := bx_140p.lt
    have bx_140 := Lib.hid bx_140p
    clear bx_140p
    clear hW7
    clear cl_124 cl_125 cl_126 cq_127 cl_128 cl_129 cl_130 cq_131 cl_132 cl_133 cl_134 cq_135 cl_136 cl_137 cl_138 cq_139
    have tt_141 := Lib.hid (C.Turned.of_below kW7 0 0)
    have zz_142 := tt_141.out.size
    have ff_143 := Lib.hid (ff_114.out.turned tt_141.out (by omega) (by omega))
    clear ff_114
    have ff_144 := Lib.hid (ff_115.out.turned tt_141.out (by omega) (by omega))
    clear ff_115
    have ff_145 := Lib.hid (ff_116.out.turned tt_141.out (by omega) (by omega))
    clear ff_116
    have ff_146 := Lib.hid (ff_117.out.turned tt_141.out (by omega) (by omega))
    clear ff_117
    have ff_147 := Lib.hid (fo_123.out.turned tt_141.out (by omega) (by omega))
    clear fo_123
    have ff_148 := Lib.hid (ff_118.out.turned tt_141.out (by omega))
    clear ff_118
    have ff_149 := Lib.hid (ff_119.out.turned tt_141.out (by omega))
    clear ff_119
    have ff_150 := Lib.hid (ff_120.out.turned tt_141.out (by omega))
    clear ff_120
    have ff_151 := Lib.hid (ff_121.out.turned tt_141.out (by omega))
    clear ff_121
    have bb_152 := Lib.hid (C.Below.far bb_122.out tt_141.out)
    clear tt_141 bb_122
    clear kW7
    refine (C.implJoin_lw W7 (W3.heap.size) (W4.heap.size) m0 t_71 t_73 t_72 t_74 ff_146.out.mz (by omega) (by omega) (by omega) (W5.heap.size) (W6.heap.size) m1 t_108 t_110 t_109 t_111 ff_147.out.mz (by omega) (by omega) (by omega)).mono ?_
    rintro e W8 ⟨r_153, r_154, r_155, r_156, rfl, ho, hb⟩
    have tt_157 := Lib.hid (C.Turned.of_below hb 0 0)
    have zz_158 := tt_157.out.size
    have ff_159 := Lib.hid (ff_143.out.turned tt_157.out (by omega) (by omega))
    clear ff_143
    have ff_160 := Lib.hid (ff_144.out.turned tt_157.out (by omega) (by omega))
    clear ff_144
    have ff_161 := Lib.hid (ff_145.out.turned tt_157.out (by omega) (by omega))
    clear ff_145
    have ff_162 := Lib.hid (ff_146.out.turned tt_157.out (by omega) (by omega))
    clear ff_146
    have ff_163 := Lib.hid (ff_147.out.turned tt_157.out (by omega) (by omega))
    clear ff_147
    have ff_164 := Lib.hid (ff_148.out.turned tt_157.out (by omega))
    clear ff_148
    have ff_165 := Lib.hid (ff_149.out.turned tt_157.out (by omega))
    clear ff_149
    have ff_166 := Lib.hid (ff_150.out.turned tt_157.out (by omega))
    clear ff_150
    have ff_167 := Lib.hid (ff_151.out.turned tt_157.out (by omega))
    clear ff_151
    have ff_168 := Lib.hid (bx_140.out.turned tt_157.out (by omega))
    clear bx_140
    have bb_169 := Lib.hid (C.Below.far bb_152.out tt_157.out)
    clear tt_157 bb_152
    clear hb
    have fo_170 := Lib.hid ho
    clear ho
    obtain ⟨cl_171, cl_172, cl_173⟩ := ff_164.out.cells
    have cq_174 := ff_164.out.lt
    obtain ⟨cl_175, cl_176, cl_177⟩ := ff_165.out.cells
    have cq_178 := ff_165.out.lt
    obtain ⟨cl_179, cl_180, cl_181⟩ := ff_166.out.cells
    have cq_182 := ff_166.out.lt
    obtain ⟨cl_183, cl_184, cl_185⟩ := ff_167.out.cells
    have cq_186 := ff_167.out.lt
    obtain ⟨cl_187, cl_188, cl_189⟩ := ff_168.out.cells
    have cq_190 := ff_168.out.lt
    go_wp2_with fail
    refine C.named ?_
    intro W9 hW9
    have kW9 : Below W8.heap.size W8 W9 := by rw [hW9]; exact (by (repeat (first | exact Below.refl _ _ | (refine Below.alloc ?_ (by first | omega | (simp; done) | (simp; omega)) _))))
    have bx_191p : C.Box3 W9 (W8.heap.size) 27 (.int .i64 (M.joinV m0 m1).size) (.slice r_153 (M.joinV m0 m1).doors.length r_154) (.slice r_155 (M.joinV m0 m1).keys.length r_156) := by rw [hW9]; exact C.Box3.new _ _ _ _ (by simp)
    have bx_191q := bx_191p.lt
    have bx_191 := Lib.hid bx_191p
    clear bx_191p
    clear hW9
    clear cl_171 cl_172 cl_173 cq_174 cl_175 cl_176 cl_177 cq_178 cl_179 cl_180 cl_181 cq_182 cl_183 cl_184 cl_185 cq_186 cl_187 cl_188 cl_189 cq_190
    have tt_192 := Lib.hid (C.Turned.of_below kW9 0 0)
    have zz_193 := tt_192.out.size
    have ff_194 := Lib.hid (ff_159.out.turned tt_192.out (by omega) (by omega))
    clear ff_159
    have ff_195 := Lib.hid (ff_160.out.turned tt_192.out (by omega) (by omega))
    clear ff_160
    have ff_196 := Lib.hid (ff_161.out.turned tt_192.out (by omega) (by omega))
    clear ff_161
    have ff_197 := Lib.hid (ff_162.out.turned tt_192.out (by omega) (by omega))
    clear ff_162
    have ff_198 := Lib.hid (ff_163.out.turned tt_192.out (by omega) (by omega))
    clear ff_163
    have ff_199 := Lib.hid (fo_170.out.turned tt_192.out (by omega) (by omega))
    clear fo_170
    have ff_200 := Lib.hid (ff_164.out.turned tt_192.out (by omega))
    clear ff_164
    have ff_201 := Lib.hid (ff_165.out.turned tt_192.out (by omega))
    clear ff_165
    have ff_202 := Lib.hid (ff_166.out.turned tt_192.out (by omega))
    clear ff_166
    have ff_203 := Lib.hid (ff_167.out.turned tt_192.out (by omega))
    clear ff_167
    have ff_204 := Lib.hid (ff_168.out.turned tt_192.out (by omega))
    clear ff_168
    have bb_205 := Lib.hid (C.Below.far bb_169.out tt_192.out)
    clear tt_192 bb_169
    clear kW9
    refine (C.eqMaze_any W9 (W7.heap.size) (W8.heap.size) (lo_44) (hi_45) (M.joinV m0 m1) r_153 r_155 r_39 r_41 r_154 r_156 r_40 r_42 ff_199.out.mz ff_196.out.mz (by omega) (by omega) (by omega) (by omega)).mono ?_
    rintro e W10 ⟨rfl, hb⟩
    have tt_206 := Lib.hid (C.Turned.of_below hb 0 0)
    have zz_207 := tt_206.out.size
    have ff_208 := Lib.hid (ff_194.out.turned tt_206.out (by omega) (by omega))
    clear ff_194
    have ff_209 := Lib.hid (ff_195.out.turned tt_206.out (by omega) (by omega))
    clear ff_195
    have ff_210 := Lib.hid (ff_196.out.turned tt_206.out (by omega) (by omega))
    clear ff_196
    have ff_211 := Lib.hid (ff_197.out.turned tt_206.out (by omega) (by omega))
    clear ff_197
    have ff_212 := Lib.hid (ff_198.out.turned tt_206.out (by omega) (by omega))
    clear ff_198
    have ff_213 := Lib.hid (ff_199.out.turned tt_206.out (by omega) (by omega))
    clear ff_199
    have ff_214 := Lib.hid (ff_200.out.turned tt_206.out (by omega))
    clear ff_200
    have ff_215 := Lib.hid (ff_201.out.turned tt_206.out (by omega))
    clear ff_201
    have ff_216 := Lib.hid (ff_202.out.turned tt_206.out (by omega))
    clear ff_202
    have ff_217 := Lib.hid (ff_203.out.turned tt_206.out (by omega))
    clear ff_203
    have ff_218 := Lib.hid (ff_204.out.turned tt_206.out (by omega))
    clear ff_204
    have ff_219 := Lib.hid (bx_191.out.turned tt_206.out (by omega))
    clear bx_191
    have bb_220 := Lib.hid (C.Below.far bb_205.out tt_206.out)
    clear tt_206 bb_205
    clear hb
    obtain ⟨cl_221, cl_222, cl_223⟩ := ff_214.out.cells
    have cq_224 := ff_214.out.lt
    obtain ⟨cl_225, cl_226, cl_227⟩ := ff_215.out.cells
    have cq_228 := ff_215.out.lt
    obtain ⟨cl_229, cl_230, cl_231⟩ := ff_216.out.cells
    have cq_232 := ff_216.out.lt
    obtain ⟨cl_233, cl_234, cl_235⟩ := ff_217.out.cells
    have cq_236 := ff_217.out.lt
    obtain ⟨cl_237, cl_238, cl_239⟩ := ff_218.out.cells
    have cq_240 := ff_218.out.lt
    obtain ⟨cl_241, cl_242, cl_243⟩ := ff_219.out.cells
    have cq_244 := ff_219.out.lt
    go_upto_region 14 with fail
    go_cut [58] (fun sl wx => sl = .bool false ∧ Below W10.heap.size W10 wx)
    case first =>
      go_region_with (first | (go_at_call 25; refine (C.toMaze_any W10.drew 0 w.heap.size m0 a0 b0 c0 d0 (ff_208.out.turned (C.Turned.of_below (Below.refl W10.heap.size W10).drew 0 0) (by omega) (by omega)) (show w.heap.size ≤ W10.heap.size by omega) (by omega) (by omega)).mono ?_; rintro e w2 ⟨t_245, t_246, t_247, t_248, rfl, ho, hb⟩; have hbq : Below W10.heap.size W10 w2 := (Below.refl W10.heap.size W10).drew.trans hb; have hzq := hbq.size; obtain ⟨cm_249, cm_250, cm_251⟩ := (ff_214.out.turned (C.Turned.of_below hbq 0 0) (by omega)).cells; obtain ⟨cm_252, cm_253, cm_254⟩ := (ff_215.out.turned (C.Turned.of_below hbq 0 0) (by omega)).cells; obtain ⟨cm_255, cm_256, cm_257⟩ := (ff_216.out.turned (C.Turned.of_below hbq 0 0) (by omega)).cells; obtain ⟨cm_258, cm_259, cm_260⟩ := (ff_217.out.turned (C.Turned.of_below hbq 0 0) (by omega)).cells; obtain ⟨cm_261, cm_262, cm_263⟩ := (ff_218.out.turned (C.Turned.of_below hbq 0 0) (by omega)).cells; obtain ⟨cm_264, cm_265, cm_266⟩ := (ff_219.out.turned (C.Turned.of_below hbq 0 0) (by omega)).cells) | (go_at_call 27; refine (C.eqMaze_any w2 (W3.heap.size) (W4.heap.size) _ _ m0 _ _ _ _ _ _ _ _ (C.MzOwn.mz (C.MzOwn.turned ff_211.out (C.Turned.of_below hbq 0 0) (by omega) (by omega))) ho.mz (by omega) (Nat.le_refl _) (by omega) (by omega)).mono ?_; rintro e w3 ⟨rfl, hb3⟩))
      all_goals (go_wp2_with fail; go_meet; exact ⟨rfl, C.Below.more hbq hb3⟩)
    case rest =>
      obtain ⟨rfl, hb⟩ := hcut
      obtain ⟨W11, rfl⟩ : ∃ W, W = wc := ⟨_, rfl⟩
      clear cl_221 cl_222 cl_223 cq_224 cl_225 cl_226 cl_227 cq_228 cl_229 cl_230 cl_231 cq_232 cl_233 cl_234 cl_235 cq_236 cl_237 cl_238 cl_239 cq_240 cl_241 cl_242 cl_243 cq_244
      have tt_267 := Lib.hid (C.Turned.of_below hb 0 0)
      have zz_268 := tt_267.out.size
      have ff_269 := Lib.hid (ff_208.out.turned tt_267.out (by omega) (by omega))
      clear ff_208
      have ff_270 := Lib.hid (ff_209.out.turned tt_267.out (by omega) (by omega))
      clear ff_209
      have ff_271 := Lib.hid (ff_210.out.turned tt_267.out (by omega) (by omega))
      clear ff_210
      have ff_272 := Lib.hid (ff_211.out.turned tt_267.out (by omega) (by omega))
      clear ff_211
      have ff_273 := Lib.hid (ff_212.out.turned tt_267.out (by omega) (by omega))
      clear ff_212
      have ff_274 := Lib.hid (ff_213.out.turned tt_267.out (by omega) (by omega))
      clear ff_213
      have ff_275 := Lib.hid (ff_214.out.turned tt_267.out (by omega))
      clear ff_214
      have ff_276 := Lib.hid (ff_215.out.turned tt_267.out (by omega))
      clear ff_215
      have ff_277 := Lib.hid (ff_216.out.turned tt_267.out (by omega))
      clear ff_216
      have ff_278 := Lib.hid (ff_217.out.turned tt_267.out (by omega))
      clear ff_217
      have ff_279 := Lib.hid (ff_218.out.turned tt_267.out (by omega))
      clear ff_218
      have ff_280 := Lib.hid (ff_219.out.turned tt_267.out (by omega))
      clear ff_219
      have bb_281 := Lib.hid (C.Below.far bb_220.out tt_267.out)
      clear tt_267 bb_220
      clear hb
      obtain ⟨cl_282, cl_283, cl_284⟩ := ff_275.out.cells
      have cq_285 := ff_275.out.lt
      obtain ⟨cl_286, cl_287, cl_288⟩ := ff_276.out.cells
      have cq_289 := ff_276.out.lt
      obtain ⟨cl_290, cl_291, cl_292⟩ := ff_277.out.cells
      have cq_293 := ff_277.out.lt
      obtain ⟨cl_294, cl_295, cl_296⟩ := ff_278.out.cells
      have cq_297 := ff_278.out.lt
      obtain ⟨cl_298, cl_299, cl_300⟩ := ff_279.out.cells
      have cq_301 := ff_279.out.lt
      obtain ⟨cl_302, cl_303, cl_304⟩ := ff_280.out.cells
      have cq_305 := ff_280.out.lt
      go_upto_region 16 with fail
      go_cut [63] (fun sl wx => sl = .bool false ∧ Below W11.heap.size W11 wx)
      case first =>
        go_region_with (first | (go_at_call 25; refine (C.toMaze_any W11.drew 0 w.heap.size m1 a1 b1 c1 d1 (ff_270.out.turned (C.Turned.of_below (Below.refl W11.heap.size W11).drew 0 0) (by omega) (by omega)) (show w.heap.size ≤ W11.heap.size by omega) (by omega) (by omega)).mono ?_; rintro e w2 ⟨t_306, t_307, t_308, t_309, rfl, ho, hb⟩; have hbq : Below W11.heap.size W11 w2 := (Below.refl W11.heap.size W11).drew.trans hb; have hzq := hbq.size; obtain ⟨cm_310, cm_311, cm_312⟩ := (ff_275.out.turned (C.Turned.of_below hbq 0 0) (by omega)).cells; obtain ⟨cm_313, cm_314, cm_315⟩ := (ff_276.out.turned (C.Turned.of_below hbq 0 0) (by omega)).cells; obtain ⟨cm_316, cm_317, cm_318⟩ := (ff_277.out.turned (C.Turned.of_below hbq 0 0) (by omega)).cells; obtain ⟨cm_319, cm_320, cm_321⟩ := (ff_278.out.turned (C.Turned.of_below hbq 0 0) (by omega)).cells; obtain ⟨cm_322, cm_323, cm_324⟩ := (ff_279.out.turned (C.Turned.of_below hbq 0 0) (by omega)).cells; obtain ⟨cm_325, cm_326, cm_327⟩ := (ff_280.out.turned (C.Turned.of_below hbq 0 0) (by omega)).cells) | (go_at_call 27; refine (C.eqMaze_any w2 (W5.heap.size) (W6.heap.size) _ _ m1 _ _ _ _ _ _ _ _ (C.MzOwn.mz (C.MzOwn.turned ff_273.out (C.Turned.of_below hbq 0 0) (by omega) (by omega))) ho.mz (by omega) (Nat.le_refl _) (by omega) (by omega)).mono ?_; rintro e w3 ⟨rfl, hb3⟩))
        all_goals (go_wp2_with fail; go_meet; exact ⟨rfl, C.Below.more hbq hb3⟩)
      case rest =>
        obtain ⟨rfl, hb⟩ := hcut
        obtain ⟨W12, rfl⟩ : ∃ W, W = wc := ⟨_, rfl⟩
        clear cl_282 cl_283 cl_284 cq_285 cl_286 cl_287 cl_288 cq_289 cl_290 cl_291 cl_292 cq_293 cl_294 cl_295 cl_296 cq_297 cl_298 cl_299 cl_300 cq_301 cl_302 cl_303 cl_304 cq_305
        have tt_328 := Lib.hid (C.Turned.of_below hb 0 0)
        have zz_329 := tt_328.out.size
        have ff_330 := Lib.hid (ff_269.out.turned tt_328.out (by omega) (by omega))
        clear ff_269
        have ff_331 := Lib.hid (ff_270.out.turned tt_328.out (by omega) (by omega))
        clear ff_270
        have ff_332 := Lib.hid (ff_271.out.turned tt_328.out (by omega) (by omega))
        clear ff_271
        have ff_333 := Lib.hid (ff_272.out.turned tt_328.out (by omega) (by omega))
        clear ff_272
        have ff_334 := Lib.hid (ff_273.out.turned tt_328.out (by omega) (by omega))
        clear ff_273
        have ff_335 := Lib.hid (ff_274.out.turned tt_328.out (by omega) (by omega))
        clear ff_274
        have ff_336 := Lib.hid (ff_275.out.turned tt_328.out (by omega))
        clear ff_275
        have ff_337 := Lib.hid (ff_276.out.turned tt_328.out (by omega))
        clear ff_276
        have ff_338 := Lib.hid (ff_277.out.turned tt_328.out (by omega))
        clear ff_277
        have ff_339 := Lib.hid (ff_278.out.turned tt_328.out (by omega))
        clear ff_278
        have ff_340 := Lib.hid (ff_279.out.turned tt_328.out (by omega))
        clear ff_279
        have ff_341 := Lib.hid (ff_280.out.turned tt_328.out (by omega))
        clear ff_280
        have bb_342 := Lib.hid (C.Below.far bb_281.out tt_328.out)
        clear tt_328 bb_281
        clear hb
        obtain ⟨cl_343, cl_344, cl_345⟩ := ff_336.out.cells
        have cq_346 := ff_336.out.lt
        obtain ⟨cl_347, cl_348, cl_349⟩ := ff_337.out.cells
        have cq_350 := ff_337.out.lt
        obtain ⟨cl_351, cl_352, cl_353⟩ := ff_338.out.cells
        have cq_354 := ff_338.out.lt
        obtain ⟨cl_355, cl_356, cl_357⟩ := ff_339.out.cells
        have cq_358 := ff_339.out.lt
        obtain ⟨cl_359, cl_360, cl_361⟩ := ff_340.out.cells
        have cq_362 := ff_340.out.lt
        obtain ⟨cl_363, cl_364, cl_365⟩ := ff_341.out.cells
        have cq_366 := ff_341.out.lt
        go_wp2_with fail
        refine (C.markMaze_any W12 (W3.heap.size) (W4.heap.size) m0 t_71 t_73 t_72 t_74 (1) ff_333.out (by omega) (by omega) (by omega) (by omega)).mono ?_
        rintro e W13 ⟨rfl, hm, ht⟩
        have fm_367 := Lib.hid hm
        clear hm
        clear ff_333
        clear cl_343 cl_344 cl_345 cq_346 cl_347 cl_348 cl_349 cq_350 cl_351 cl_352 cl_353 cq_354 cl_355 cl_356 cl_357 cq_358 cl_359 cl_360 cl_361 cq_362 cl_363 cl_364 cl_365 cq_366
        have tt_368 := Lib.hid (ht)
        have zz_369 := tt_368.out.size
        have ff_370 := Lib.hid (ff_330.out.turned tt_368.out (by omega) (by omega))
        clear ff_330
        have ff_371 := Lib.hid (ff_331.out.turned tt_368.out (by omega) (by omega))
        clear ff_331
        have ff_372 := Lib.hid (ff_332.out.turned tt_368.out (by omega) (by omega))
        clear ff_332
        have ff_373 := Lib.hid (ff_334.out.turned tt_368.out (by omega) (by omega))
        clear ff_334
        have ff_374 := Lib.hid (ff_335.out.turned tt_368.out (by omega) (by omega))
        clear ff_335
        have ff_375 := Lib.hid (ff_336.out.turned tt_368.out (by omega))
        clear ff_336
        have ff_376 := Lib.hid (ff_337.out.turned tt_368.out (by omega))
        clear ff_337
        have ff_377 := Lib.hid (ff_338.out.turned tt_368.out (by omega))
        clear ff_338
        have ff_378 := Lib.hid (ff_339.out.turned tt_368.out (by omega))
        clear ff_339
        have ff_379 := Lib.hid (ff_340.out.turned tt_368.out (by omega))
        clear ff_340
        have ff_380 := Lib.hid (ff_341.out.turned tt_368.out (by omega))
        clear ff_341
        have bb_381 := Lib.hid (C.Below.thenTurned bb_342.out tt_368.out (by omega) (by omega))
        clear tt_368 bb_342
        clear ht
        obtain ⟨cl_382, cl_383, cl_384⟩ := ff_375.out.cells
        have cq_385 := ff_375.out.lt
        obtain ⟨cl_386, cl_387, cl_388⟩ := ff_376.out.cells
        have cq_389 := ff_376.out.lt
        obtain ⟨cl_390, cl_391, cl_392⟩ := ff_377.out.cells
        have cq_393 := ff_377.out.lt
        obtain ⟨cl_394, cl_395, cl_396⟩ := ff_378.out.cells
        have cq_397 := ff_378.out.lt
        obtain ⟨cl_398, cl_399, cl_400⟩ := ff_379.out.cells
        have cq_401 := ff_379.out.lt
        obtain ⟨cl_402, cl_403, cl_404⟩ := ff_380.out.cells
        have cq_405 := ff_380.out.lt
        clear fm_367
        go_wp2_with fail
        refine (C.markMaze_any W13 (W5.heap.size) (W6.heap.size) m1 t_108 t_110 t_109 t_111 (1 + m0.doors.length * 3 + m0.keys.length) ff_373.out (by omega) (by omega) (by omega) (by omega)).mono ?_
        rintro e W14 ⟨rfl, hm, ht⟩
        have fm_406 := Lib.hid hm
        clear hm
        clear ff_373
        clear cl_382 cl_383 cl_384 cq_385 cl_386 cl_387 cl_388 cq_389 cl_390 cl_391 cl_392 cq_393 cl_394 cl_395 cl_396 cq_397 cl_398 cl_399 cl_400 cq_401 cl_402 cl_403 cl_404 cq_405
        have tt_407 := Lib.hid (ht)
        have zz_408 := tt_407.out.size
        have ff_409 := Lib.hid (ff_370.out.turned tt_407.out (by omega) (by omega))
        clear ff_370
        have ff_410 := Lib.hid (ff_371.out.turned tt_407.out (by omega) (by omega))
        clear ff_371
        have ff_411 := Lib.hid (ff_372.out.turned tt_407.out (by omega) (by omega))
        clear ff_372
        have ff_412 := Lib.hid (ff_374.out.turned tt_407.out (by omega) (by omega))
        clear ff_374
        have ff_413 := Lib.hid (ff_375.out.turned tt_407.out (by omega))
        clear ff_375
        have ff_414 := Lib.hid (ff_376.out.turned tt_407.out (by omega))
        clear ff_376
        have ff_415 := Lib.hid (ff_377.out.turned tt_407.out (by omega))
        clear ff_377
        have ff_416 := Lib.hid (ff_378.out.turned tt_407.out (by omega))
        clear ff_378
        have ff_417 := Lib.hid (ff_379.out.turned tt_407.out (by omega))
        clear ff_379
        have ff_418 := Lib.hid (ff_380.out.turned tt_407.out (by omega))
        clear ff_380
        have bb_419 := Lib.hid (C.Below.thenTurned bb_381.out tt_407.out (by omega) (by omega))
        clear tt_407 bb_381
        clear ht
        obtain ⟨cl_420, cl_421, cl_422⟩ := ff_413.out.cells
        have cq_423 := ff_413.out.lt
        obtain ⟨cl_424, cl_425, cl_426⟩ := ff_414.out.cells
        have cq_427 := ff_414.out.lt
        obtain ⟨cl_428, cl_429, cl_430⟩ := ff_415.out.cells
        have cq_431 := ff_415.out.lt
        obtain ⟨cl_432, cl_433, cl_434⟩ := ff_416.out.cells
        have cq_435 := ff_416.out.lt
        obtain ⟨cl_436, cl_437, cl_438⟩ := ff_417.out.cells
        have cq_439 := ff_417.out.lt
        obtain ⟨cl_440, cl_441, cl_442⟩ := ff_418.out.cells
        have cq_443 := ff_418.out.lt
        clear fm_406
        go_wp2_with fail
        refine (C.eqMaze_any W14 (W7.heap.size) (W8.heap.size) (lo_44) (hi_45) (M.joinV m0 m1) r_153 r_155 r_39 r_41 r_154 r_156 r_40 r_42 ff_412.out.mz ff_411.out.mz (by omega) (by omega) (by omega) (by omega)).mono ?_
        rintro e W15 ⟨rfl, hb⟩
        clear cl_420 cl_421 cl_422 cq_423 cl_424 cl_425 cl_426 cq_427 cl_428 cl_429 cl_430 cq_431 cl_432 cl_433 cl_434 cq_435 cl_436 cl_437 cl_438 cq_439 cl_440 cl_441 cl_442 cq_443
        have tt_444 := Lib.hid (C.Turned.of_below hb 0 0)
        have zz_445 := tt_444.out.size
        have ff_446 := Lib.hid (ff_409.out.turned tt_444.out (by omega) (by omega))
        clear ff_409
        have ff_447 := Lib.hid (ff_410.out.turned tt_444.out (by omega) (by omega))
        clear ff_410
        have ff_448 := Lib.hid (ff_411.out.turned tt_444.out (by omega) (by omega))
        clear ff_411
        have ff_449 := Lib.hid (ff_412.out.turned tt_444.out (by omega) (by omega))
        clear ff_412
        have ff_450 := Lib.hid (ff_413.out.turned tt_444.out (by omega))
        clear ff_413
        have ff_451 := Lib.hid (ff_414.out.turned tt_444.out (by omega))
        clear ff_414
        have ff_452 := Lib.hid (ff_415.out.turned tt_444.out (by omega))
        clear ff_415
        have ff_453 := Lib.hid (ff_416.out.turned tt_444.out (by omega))
        clear ff_416
        have ff_454 := Lib.hid (ff_417.out.turned tt_444.out (by omega))
        clear ff_417
        have ff_455 := Lib.hid (ff_418.out.turned tt_444.out (by omega))
        clear ff_418
        have bb_456 := Lib.hid (C.Below.far bb_419.out tt_444.out)
        clear tt_444 bb_419
        clear hb
        obtain ⟨cl_457, cl_458, cl_459⟩ := ff_450.out.cells
        have cq_460 := ff_450.out.lt
        obtain ⟨cl_461, cl_462, cl_463⟩ := ff_451.out.cells
        have cq_464 := ff_451.out.lt
        obtain ⟨cl_465, cl_466, cl_467⟩ := ff_452.out.cells
        have cq_468 := ff_452.out.lt
        obtain ⟨cl_469, cl_470, cl_471⟩ := ff_453.out.cells
        have cq_472 := ff_453.out.lt
        obtain ⟨cl_473, cl_474, cl_475⟩ := ff_454.out.cells
        have cq_476 := ff_454.out.lt
        obtain ⟨cl_477, cl_478, cl_479⟩ := ff_455.out.cells
        have cq_480 := ff_455.out.lt
        go_wp2_with fail
        refine (C.markMaze_any W15 (W7.heap.size) (W8.heap.size) (M.joinV m0 m1) r_153 r_155 r_154 r_156 (1) ff_449.out (by omega) (by omega) (by omega) (by omega)).mono ?_
        rintro e W16 ⟨rfl, hm, ht⟩
        have fm_481 := Lib.hid hm
        clear hm
        clear ff_449
        clear cl_457 cl_458 cl_459 cq_460 cl_461 cl_462 cl_463 cq_464 cl_465 cl_466 cl_467 cq_468 cl_469 cl_470 cl_471 cq_472 cl_473 cl_474 cl_475 cq_476 cl_477 cl_478 cl_479 cq_480
        have tt_482 := Lib.hid (ht)
        have zz_483 := tt_482.out.size
        have ff_484 := Lib.hid (ff_446.out.turned tt_482.out (by omega) (by omega))
        clear ff_446
        have ff_485 := Lib.hid (ff_447.out.turned tt_482.out (by omega) (by omega))
        clear ff_447
        have ff_486 := Lib.hid (ff_448.out.turned tt_482.out (by omega) (by omega))
        clear ff_448
        have ff_487 := Lib.hid (ff_450.out.turned tt_482.out (by omega))
        clear ff_450
        have ff_488 := Lib.hid (ff_451.out.turned tt_482.out (by omega))
        clear ff_451
        have ff_489 := Lib.hid (ff_452.out.turned tt_482.out (by omega))
        clear ff_452
        have ff_490 := Lib.hid (ff_453.out.turned tt_482.out (by omega))
        clear ff_453
        have ff_491 := Lib.hid (ff_454.out.turned tt_482.out (by omega))
        clear ff_454
        have ff_492 := Lib.hid (ff_455.out.turned tt_482.out (by omega))
        clear ff_455
        have bb_493 := Lib.hid (C.Below.thenTurned bb_456.out tt_482.out (by omega) (by omega))
        clear tt_482 bb_456
        clear ht
        obtain ⟨cl_494, cl_495, cl_496⟩ := ff_487.out.cells
        have cq_497 := ff_487.out.lt
        obtain ⟨cl_498, cl_499, cl_500⟩ := ff_488.out.cells
        have cq_501 := ff_488.out.lt
        obtain ⟨cl_502, cl_503, cl_504⟩ := ff_489.out.cells
        have cq_505 := ff_489.out.lt
        obtain ⟨cl_506, cl_507, cl_508⟩ := ff_490.out.cells
        have cq_509 := ff_490.out.lt
        obtain ⟨cl_510, cl_511, cl_512⟩ := ff_491.out.cells
        have cq_513 := ff_491.out.lt
        obtain ⟨cl_514, cl_515, cl_516⟩ := ff_492.out.cells
        have cq_517 := ff_492.out.lt
        go_wp2_with fail
        refine (C.heldMaze_any W16 (W7.heap.size) (W8.heap.size) (M.joinV m0 m1).size (M.joinV m0 m1).doors.length (M.joinV m0 m1).keys.length r_153 r_155 r_154 r_156 1 fm_481.out (by omega) (by omega) (by omega) (by omega)).mono ?_
        rintro e W17 ⟨rfl, hb⟩
        clear cl_494 cl_495 cl_496 cq_497 cl_498 cl_499 cl_500 cq_501 cl_502 cl_503 cl_504 cq_505 cl_506 cl_507 cl_508 cq_509 cl_510 cl_511 cl_512 cq_513 cl_514 cl_515 cl_516 cq_517
        have tt_518 := Lib.hid (C.Turned.of_below hb 0 0)
        have zz_519 := tt_518.out.size
        have ff_520 := Lib.hid (ff_484.out.turned tt_518.out (by omega) (by omega))
        clear ff_484
        have ff_521 := Lib.hid (ff_485.out.turned tt_518.out (by omega) (by omega))
        clear ff_485
        have ff_522 := Lib.hid (ff_486.out.turned tt_518.out (by omega) (by omega))
        clear ff_486
        have ff_523 := Lib.hid (fm_481.out.turned tt_518.out (by omega) (by omega))
        clear fm_481
        have ff_524 := Lib.hid (ff_487.out.turned tt_518.out (by omega))
        clear ff_487
        have ff_525 := Lib.hid (ff_488.out.turned tt_518.out (by omega))
        clear ff_488
        have ff_526 := Lib.hid (ff_489.out.turned tt_518.out (by omega))
        clear ff_489
        have ff_527 := Lib.hid (ff_490.out.turned tt_518.out (by omega))
        clear ff_490
        have ff_528 := Lib.hid (ff_491.out.turned tt_518.out (by omega))
        clear ff_491
        have ff_529 := Lib.hid (ff_492.out.turned tt_518.out (by omega))
        clear ff_492
        have bb_530 := Lib.hid (C.Below.far bb_493.out tt_518.out)
        clear tt_518 bb_493
        clear hb
        obtain ⟨cl_531, cl_532, cl_533⟩ := ff_524.out.cells
        have cq_534 := ff_524.out.lt
        obtain ⟨cl_535, cl_536, cl_537⟩ := ff_525.out.cells
        have cq_538 := ff_525.out.lt
        obtain ⟨cl_539, cl_540, cl_541⟩ := ff_526.out.cells
        have cq_542 := ff_526.out.lt
        obtain ⟨cl_543, cl_544, cl_545⟩ := ff_527.out.cells
        have cq_546 := ff_527.out.lt
        obtain ⟨cl_547, cl_548, cl_549⟩ := ff_528.out.cells
        have cq_550 := ff_528.out.lt
        obtain ⟨cl_551, cl_552, cl_553⟩ := ff_529.out.cells
        have cq_554 := ff_529.out.lt
        go_upto_region 31 with fail
        clear cl_531 cl_532 cl_533 cq_534 cl_535 cl_536 cl_537 cq_538 cl_539 cl_540 cl_541 cq_542 cl_543 cl_544 cl_545 cq_546 cl_547 cl_548 cl_549 cq_550 cl_551 cl_552 cl_553 cq_554
        have hcz : W17.drew.heap.size = W17.heap.size := rfl
        go_cut [15, 16] (fun s6 s7 wx => ∃ (g lo hi : Nat) (r0 : Option Addr) (r1 : Nat) (r2 : Option Addr) (r3 : Nat), s6 = .pointer (some ⟨g, 0, none⟩) ∧ s7 = .bool (M.joinB m0 m1) ∧ C.Box3 wx g 27 (.int .i64 (M.joinV m0 m1).size) (.slice r0 (M.joinV m0 m1).doors.length r1) (.slice r2 (M.joinV m0 m1).keys.length r3) ∧ W17.heap.size ≤ g ∧ (g < lo ∨ hi ≤ g) ∧ W17.heap.size ≤ lo ∧ hi ≤ wx.heap.size ∧ C.MzOwn lo hi wx (M.joinV m0 m1) r0 r1 r2 r3 ∧ Below W17.heap.size W17 wx)
        case first =>
          have TA := Lib.hid (fun W' (hq : Below W17.heap.size W17 W') => C.toMaze_any W' 0 w.heap.size m0 a0 b0 c0 d0 (ff_520.out.turned (C.Turned.of_below hq 0 0) (by omega) (by omega)) (by have := hq.size; omega) (by omega) (by omega))
          have TB := Lib.hid (fun W' (hq : Below W17.heap.size W17 W') => C.toMaze_any W' 0 w.heap.size m1 a1 b1 c1 d1 (ff_521.out.turned (C.Turned.of_below hq 0 0) (by omega) (by omega)) (by have := hq.size; omega) (by omega) (by omega))
          have SX : ∀ wq, Below W17.heap.size W17 wq → ((wq.cell? ⟨w.heap.size, 0, none⟩ = some (.int .i64 m0.size) ∧ wq.cell? ⟨w.heap.size, 1, none⟩ = some (.slice a0 m0.doors.length c0) ∧ wq.cell? ⟨w.heap.size, 2, none⟩ = some (.slice b0 m0.keys.length d0)) ∧ (wq.cell? ⟨w.heap.size + 1, 0, none⟩ = some (.int .i64 m1.size) ∧ wq.cell? ⟨w.heap.size + 1, 1, none⟩ = some (.slice a1 m1.doors.length c1) ∧ wq.cell? ⟨w.heap.size + 1, 2, none⟩ = some (.slice b1 m1.keys.length d1))) := fun wq hq => ⟨(ff_524.out.turned (C.Turned.of_below hq 0 0) (by omega)).cells, (ff_525.out.turned (C.Turned.of_below hq 0 0) (by omega)).cells⟩
          go_region_held3 (fun wq => (wq.cell? ⟨w.heap.size, 0, none⟩ = some (.int .i64 m0.size) ∧ wq.cell? ⟨w.heap.size, 1, none⟩ = some (.slice a0 m0.doors.length c0) ∧ wq.cell? ⟨w.heap.size, 2, none⟩ = some (.slice b0 m0.keys.length d0)) ∧ (wq.cell? ⟨w.heap.size + 1, 0, none⟩ = some (.int .i64 m1.size) ∧ wq.cell? ⟨w.heap.size + 1, 1, none⟩ = some (.slice a1 m1.doors.length c1) ∧ wq.cell? ⟨w.heap.size + 1, 2, none⟩ = some (.slice b1 m1.keys.length d1))) (first | (refine SX _ ?_; (repeat (first | exact Below.refl _ _ | refine Below.drew ?_ | refine C.Below.more ?_ hbA | refine C.Below.more ?_ hbB | refine C.Below.more ?_ hbJ | refine C.Below.allocMore ?_ _)); done) | (refine SX _ (C.Below.thenTurned hcJ (C.Turned.set3 _ _ _ _) ?_ hcX); first | exact Nat.le_refl _ | (refine C.Below.szOf ?_; (repeat (first | exact Below.refl _ _ | refine Below.drew ?_ | refine C.Below.more ?_ hbA | refine C.Below.more ?_ hbB | refine C.Below.more ?_ hbJ | refine C.Below.allocMore ?_ _)); done)) | go_keep) (first
            | (go_at_call 25
               first
               | ((with_reducible refine (TA.out _ (by (repeat (first | exact Below.refl _ _ | refine Below.drew ?_ | refine C.Below.more ?_ hbA | refine C.Below.more ?_ hbB | refine C.Below.more ?_ hbJ | refine C.Below.allocMore ?_ _)); done)).mono ?_); rintro e wA ⟨ta1, ta2, ta3, ta4, rfl, hoA, hbA⟩; have HA := Lib.hid (fun W' (hq : Below wA.heap.size wA W') => (hoA.mz.mono (Nat.zero_le _) (Nat.le_refl _)).below hq (Nat.le_refl _)); have hsA := hbA.size; try (first | (have tA := C.Box3.below (w := (W17.alloc (.cells #[.int .i64 0, .slice none 0 0, .slice none 0 0] 27)).drew) (C.Box3.new (w := W17) (g := W17.heap.size) 27 (.int .i64 0) (.slice none 0 0) (.slice none 0 0) rfl) hbA) | (have tA := (C.Box3.new (w := wB) (g := wB.heap.size) 27 (.int .i64 0) (.slice none 0 0) (.slice none 0 0) rfl).below hbA) | (have tA := tB.below hbA)))
               | ((with_reducible refine (TB.out _ (by (repeat (first | exact Below.refl _ _ | refine Below.drew ?_ | refine C.Below.more ?_ hbA | refine C.Below.more ?_ hbB | refine C.Below.more ?_ hbJ | refine C.Below.allocMore ?_ _)); done)).mono ?_); rintro e wB ⟨tb1, tb2, tb3, tb4, rfl, hoB, hbB⟩; have HB := Lib.hid (fun W' (hq : Below wB.heap.size wB W') => (hoB.mz.mono (Nat.zero_le _) (Nat.le_refl _)).below hq (Nat.le_refl _)); have hsB := hbB.size; try (first | (have tB := C.Box3.below (w := (W17.alloc (.cells #[.int .i64 0, .slice none 0 0, .slice none 0 0] 27)).drew) (C.Box3.new (w := W17) (g := W17.heap.size) 27 (.int .i64 0) (.slice none 0 0) (.slice none 0 0) rfl) hbB) | (have tB := (C.Box3.new (w := wA) (g := wA.heap.size) 27 (.int .i64 0) (.slice none 0 0) (.slice none 0 0) rfl).below hbB) | (have tB := tA.below hbB))))
            | (go_at_call 36; refine (C.implJoin_lw _ 0 wA.heap.size m0 ta1 ta3 ta2 ta4 (HA.out _ (by (repeat (first | exact Below.refl _ _ | refine Below.drew ?_ | refine C.Below.more ?_ hbA | refine C.Below.more ?_ hbB | refine C.Below.more ?_ hbJ | refine C.Below.allocMore ?_ _)); done)) (C.Below.szOf (by (repeat (first | exact Below.refl _ _ | refine Below.drew ?_ | refine C.Below.more ?_ hbA | refine C.Below.more ?_ hbB | refine C.Below.more ?_ hbJ | refine C.Below.allocMore ?_ _)); done)) (by omega) (by omega) 0 wB.heap.size m1 tb1 tb3 tb2 tb4 (HB.out _ (by (repeat (first | exact Below.refl _ _ | refine Below.drew ?_ | refine C.Below.more ?_ hbA | refine C.Below.more ?_ hbB | refine C.Below.more ?_ hbJ | refine C.Below.allocMore ?_ _)); done)) (C.Below.szOf (by (repeat (first | exact Below.refl _ _ | refine Below.drew ?_ | refine C.Below.more ?_ hbA | refine C.Below.more ?_ hbB | refine C.Below.more ?_ hbJ | refine C.Below.allocMore ?_ _)); done)) (by omega) (by omega)).mono ?_; rintro e wJ ⟨r0, r1, r2, r3, rfl, hoJ, hbJ⟩; have hsJ := hbJ.size; have hcJ : Below W17.heap.size W17 wJ := (by (repeat (first | exact Below.refl _ _ | refine Below.drew ?_ | refine C.Below.more ?_ hbA | refine C.Below.more ?_ hbB | refine C.Below.more ?_ hbJ | refine C.Below.allocMore ?_ _)); done); have hcX := hcJ.size; try (first | (have tJ0 := C.Box3.new (w := wA) (g := wA.heap.size) 27 (.int .i64 0) (.slice none 0 0) (.slice none 0 0) rfl; have tJ := tJ0.below hbJ; have hgJ := tJ0.lt) | (have tJ := tA.below hbJ; have hgJ := tA.lt) | (have tJ0 := C.Box3.new (w := wB) (g := wB.heap.size) 27 (.int .i64 0) (.slice none 0 0) (.slice none 0 0) rfl; have tJ := tJ0.below hbJ; have hgJ := tJ0.lt) | (have tJ := tB.below hbJ; have hgJ := tB.lt)); try (obtain ⟨g0, g1, g2⟩ := tJ.free; obtain ⟨e0, e1, e2⟩ := tJ.cells; have hgl := tJ.lt)))
          all_goals
            go_wp2_with fail
            go_meet
            first
            | exact ⟨_, _, _, r0, r1, r2, r3, rfl, rfl, tJ.setAll _ _ _, by first | exact C.Below.szOf (w := W17) (by (repeat (first | exact Below.refl _ _ | refine Below.drew ?_ | refine C.Below.more ?_ hbA | refine C.Below.more ?_ hbB | refine C.Below.more ?_ hbJ | refine C.Below.allocMore ?_ _)); done) | omega, .inl hgJ, C.Below.szOf (w := W17) (by (repeat (first | exact Below.refl _ _ | refine Below.drew ?_ | refine C.Below.more ?_ hbA | refine C.Below.more ?_ hbB | refine C.Below.more ?_ hbJ | refine C.Below.allocMore ?_ _)); done), by simp [World.setCell], hoJ.turned (C.Turned.set3 _ _ _ _) (Nat.le_refl _) (.inr (by omega)), C.Below.thenTurned hcJ (C.Turned.set3 _ _ _ _) (C.Below.szOf (w := W17) (by (repeat (first | exact Below.refl _ _ | refine Below.drew ?_ | refine C.Below.more ?_ hbA | refine C.Below.more ?_ hbB | refine C.Below.more ?_ hbJ | refine C.Below.allocMore ?_ _)); done)) hcX⟩
            | exact ⟨_, _, _, r0, r1, r2, r3, rfl, rfl, C.Box3.new _ _ _ _ rfl, hcX, .inr (Nat.le_refl _), C.Below.szOf (w := W17) (by (repeat (first | exact Below.refl _ _ | refine Below.drew ?_ | refine C.Below.more ?_ hbA | refine C.Below.more ?_ hbB | refine C.Below.more ?_ hbJ | refine C.Below.allocMore ?_ _)); done), by simp, hoJ.below (C.below_alloc _ _) (Nat.le_refl _), C.Below.allocMore hcJ _⟩
        case rest =>
          obtain ⟨gb_559, lo_560, hi_561, r_555, r_556, r_557, r_558, rfl, rfl, bx_562_, hg1, hg2, hg3, hg4, fo_563_, hb⟩ := hcut
          have hq_564 := hg1; have hq_565 := hg2; have hq_566 := hg3; have hq_567 := hg4
          clear hg1 hg2 hg3 hg4
          have bx_562 := Lib.hid bx_562_; have fo_563 := Lib.hid fo_563_; have hglgb_559 := bx_562_.lt
          clear bx_562_ fo_563_
          obtain ⟨W18, rfl⟩ : ∃ W, W = wc := ⟨_, rfl⟩
          have tt_568 := Lib.hid (C.Turned.of_below hb 0 0)
          have zz_569 := tt_568.out.size
          have ff_570 := Lib.hid (ff_520.out.turned tt_568.out (by omega) (by omega))
          clear ff_520
          have ff_571 := Lib.hid (ff_521.out.turned tt_568.out (by omega) (by omega))
          clear ff_521
          have ff_572 := Lib.hid (ff_522.out.turned tt_568.out (by omega) (by omega))
          clear ff_522
          have ff_573 := Lib.hid (ff_523.out.turned tt_568.out (by omega) (by omega))
          clear ff_523
          have ff_574 := Lib.hid (ff_524.out.turned tt_568.out (by omega))
          clear ff_524
          have ff_575 := Lib.hid (ff_525.out.turned tt_568.out (by omega))
          clear ff_525
          have ff_576 := Lib.hid (ff_526.out.turned tt_568.out (by omega))
          clear ff_526
          have ff_577 := Lib.hid (ff_527.out.turned tt_568.out (by omega))
          clear ff_527
          have ff_578 := Lib.hid (ff_528.out.turned tt_568.out (by omega))
          clear ff_528
          have ff_579 := Lib.hid (ff_529.out.turned tt_568.out (by omega))
          clear ff_529
          have bb_580 := Lib.hid (C.Below.far bb_530.out tt_568.out)
          clear tt_568 bb_530
          clear hb
          obtain ⟨cl_581, cl_582, cl_583⟩ := ff_574.out.cells
          have cq_584 := ff_574.out.lt
          obtain ⟨cl_585, cl_586, cl_587⟩ := ff_575.out.cells
          have cq_588 := ff_575.out.lt
          obtain ⟨cl_589, cl_590, cl_591⟩ := ff_576.out.cells
          have cq_592 := ff_576.out.lt
          obtain ⟨cl_593, cl_594, cl_595⟩ := ff_577.out.cells
          have cq_596 := ff_577.out.lt
          obtain ⟨cl_597, cl_598, cl_599⟩ := ff_578.out.cells
          have cq_600 := ff_578.out.lt
          obtain ⟨cl_601, cl_602, cl_603⟩ := ff_579.out.cells
          have cq_604 := ff_579.out.lt
          obtain ⟨cl_605, cl_606, cl_607⟩ := bx_562.out.cells
          have cq_608 := bx_562.out.lt
          go_wp2_with fail
          refine (C.eqMaze_any W18 (lo_560) (hi_561) (lo_44) (hi_45) (M.joinV m0 m1) r_555 r_557 r_39 r_41 r_556 r_558 r_40 r_42 fo_563.out.mz ff_572.out.mz (by omega) (by omega) (by omega) (by omega)).mono ?_
          rintro e W19 ⟨rfl, hb⟩
          clear cl_581 cl_582 cl_583 cq_584 cl_585 cl_586 cl_587 cq_588 cl_589 cl_590 cl_591 cq_592 cl_593 cl_594 cl_595 cq_596 cl_597 cl_598 cl_599 cq_600 cl_601 cl_602 cl_603 cq_604 cl_605 cl_606 cl_607 cq_608
          have tt_609 := Lib.hid (C.Turned.of_below hb 0 0)
          have zz_610 := tt_609.out.size
          have ff_611 := Lib.hid (ff_570.out.turned tt_609.out (by omega) (by omega))
          clear ff_570
          have ff_612 := Lib.hid (ff_571.out.turned tt_609.out (by omega) (by omega))
          clear ff_571
          have ff_613 := Lib.hid (ff_572.out.turned tt_609.out (by omega) (by omega))
          clear ff_572
          have ff_614 := Lib.hid (ff_573.out.turned tt_609.out (by omega) (by omega))
          clear ff_573
          have ff_615 := Lib.hid (fo_563.out.turned tt_609.out (by omega) (by omega))
          clear fo_563
          have ff_616 := Lib.hid (ff_574.out.turned tt_609.out (by omega))
          clear ff_574
          have ff_617 := Lib.hid (ff_575.out.turned tt_609.out (by omega))
          clear ff_575
          have ff_618 := Lib.hid (ff_576.out.turned tt_609.out (by omega))
          clear ff_576
          have ff_619 := Lib.hid (ff_577.out.turned tt_609.out (by omega))
          clear ff_577
          have ff_620 := Lib.hid (ff_578.out.turned tt_609.out (by omega))
          clear ff_578
          have ff_621 := Lib.hid (ff_579.out.turned tt_609.out (by omega))
          clear ff_579
          have ff_622 := Lib.hid (bx_562.out.turned tt_609.out (by omega))
          clear bx_562
          have bb_623 := Lib.hid (C.Below.far bb_580.out tt_609.out)
          clear tt_609 bb_580
          clear hb
          obtain ⟨cl_624, cl_625, cl_626⟩ := ff_616.out.cells
          have cq_627 := ff_616.out.lt
          obtain ⟨cl_628, cl_629, cl_630⟩ := ff_617.out.cells
          have cq_631 := ff_617.out.lt
          obtain ⟨cl_632, cl_633, cl_634⟩ := ff_618.out.cells
          have cq_635 := ff_618.out.lt
          obtain ⟨cl_636, cl_637, cl_638⟩ := ff_619.out.cells
          have cq_639 := ff_619.out.lt
          obtain ⟨cl_640, cl_641, cl_642⟩ := ff_620.out.cells
          have cq_643 := ff_620.out.lt
          obtain ⟨cl_644, cl_645, cl_646⟩ := ff_621.out.cells
          have cq_647 := ff_621.out.lt
          obtain ⟨cl_648, cl_649, cl_650⟩ := ff_622.out.cells
          have cq_651 := ff_622.out.lt
          go_wp2_with fail
          refine (C.heldMaze_any W19 (W7.heap.size) (W8.heap.size) (M.joinV m0 m1).size (M.joinV m0 m1).doors.length (M.joinV m0 m1).keys.length r_153 r_155 r_154 r_156 1 ff_614.out (by omega) (by omega) (by omega) (by omega)).mono ?_
          rintro e W20 ⟨rfl, hb⟩
          clear cl_624 cl_625 cl_626 cq_627 cl_628 cl_629 cl_630 cq_631 cl_632 cl_633 cl_634 cq_635 cl_636 cl_637 cl_638 cq_639 cl_640 cl_641 cl_642 cq_643 cl_644 cl_645 cl_646 cq_647 cl_648 cl_649 cl_650 cq_651
          have tt_652 := Lib.hid (C.Turned.of_below hb 0 0)
          have zz_653 := tt_652.out.size
          have ff_654 := Lib.hid (ff_611.out.turned tt_652.out (by omega) (by omega))
          clear ff_611
          have ff_655 := Lib.hid (ff_612.out.turned tt_652.out (by omega) (by omega))
          clear ff_612
          have ff_656 := Lib.hid (ff_613.out.turned tt_652.out (by omega) (by omega))
          clear ff_613
          have ff_657 := Lib.hid (ff_614.out.turned tt_652.out (by omega) (by omega))
          clear ff_614
          have ff_658 := Lib.hid (ff_615.out.turned tt_652.out (by omega) (by omega))
          clear ff_615
          have ff_659 := Lib.hid (ff_616.out.turned tt_652.out (by omega))
          clear ff_616
          have ff_660 := Lib.hid (ff_617.out.turned tt_652.out (by omega))
          clear ff_617
          have ff_661 := Lib.hid (ff_618.out.turned tt_652.out (by omega))
          clear ff_618
          have ff_662 := Lib.hid (ff_619.out.turned tt_652.out (by omega))
          clear ff_619
          have ff_663 := Lib.hid (ff_620.out.turned tt_652.out (by omega))
          clear ff_620
          have ff_664 := Lib.hid (ff_621.out.turned tt_652.out (by omega))
          clear ff_621
          have ff_665 := Lib.hid (ff_622.out.turned tt_652.out (by omega))
          clear ff_622
          have bb_666 := Lib.hid (C.Below.far bb_623.out tt_652.out)
          clear tt_652 bb_623
          clear hb
          obtain ⟨cl_667, cl_668, cl_669⟩ := ff_659.out.cells
          have cq_670 := ff_659.out.lt
          obtain ⟨cl_671, cl_672, cl_673⟩ := ff_660.out.cells
          have cq_674 := ff_660.out.lt
          obtain ⟨cl_675, cl_676, cl_677⟩ := ff_661.out.cells
          have cq_678 := ff_661.out.lt
          obtain ⟨cl_679, cl_680, cl_681⟩ := ff_662.out.cells
          have cq_682 := ff_662.out.lt
          obtain ⟨cl_683, cl_684, cl_685⟩ := ff_663.out.cells
          have cq_686 := ff_663.out.lt
          obtain ⟨cl_687, cl_688, cl_689⟩ := ff_664.out.cells
          have cq_690 := ff_664.out.lt
          obtain ⟨cl_691, cl_692, cl_693⟩ := ff_665.out.cells
          have cq_694 := ff_665.out.lt
          go_wp2_with fail
          go_ret
          exact ⟨rfl, bb_666.out⟩


set_option maxRecDepth 100000 in
theorem lifted (os : Os) (started : os.Started) (H : Type) (enc : TypeId × Value → H) :
    ReturnsInHanded {} Try.checked os 6 .any (Rows.fnExactJoinMazesSpec.pre6 enc Try.prog Try.f6 Rows.fnExactJoinMazesRow.domain false) (Rows.fnExactJoinMazesSpec.post enc Try.prog Try.f6 false true false false) := by
  refine returnsInHanded_of_change (C := Try.checked) P.own started (by kernel_rfl) Try.func6
    (ChangeSpec.witness6 (enc := enc) (C := Try.checked) false ⟨#[], #[.agg #[.int .i64 0, .slice none 0 0, .slice none 0 0], .agg #[.int .i64 0, .slice none 0 0, .slice none 0 0]], []⟩ 8 (by kernel_rfl) (by kernel_rfl) (by kernel_rfl) (by kernel_rfl)) ?_
  intro W base args ds gs before hval0 hW hcnd _
  have hval : ∀ (j : Nat) t v, Try.f6.params[j]? = some t → args[j]? = some v → Value.okWide Try.prog W .any base t v := hval0
  have hW' := hW
  obtain ⟨p, q, hA0, hV, rfl, hfz, hnd⟩ := hW
  have hA : DataW.TrodAll enc Try.prog W 0 (fun _ => true) true Try.f6.params.toList args.toList ds p := hA0
  rw [Try.params6] at hA hval
  obtain ⟨v0, vs0, d0, ds0, p0, q0, hargs, rfl, rfl, h0, r0⟩ := trodAll_cons hA
  obtain ⟨v1, vs1, d1, ds1, p1, q1, rfl, rfl, rfl, h1, r1⟩ := trodAll_cons r0
  obtain ⟨rfl, rfl, rfl⟩ := trodAll_nil r1
  obtain rfl : args = #[v0, v1] := by cases args; simp_all
  obtain ⟨rfl, rfl⟩ := trodVars_none hV
  have k0 := h0
  have lt0 : ∀ x ∈ p0, x.block < W.heap.size := by obtain ⟨m, hm⟩ := k0; exact DataW.trod_lt m _ _ _ hm
  obtain ⟨m0, a0, c0, b0, e0, rfl, w0⟩ := C.open_maze (hval 0 40 v0 rfl rfl) h0
  have k1 := h1
  have lt1 : ∀ x ∈ p1, x.block < W.heap.size := by obtain ⟨m, hm⟩ := k1; exact DataW.trod_lt m _ _ _ hm
  obtain ⟨m1, a1, c1, b1, e1, rfl, w1⟩ := C.open_maze (hval 1 40 v1 rfl rfl) h1
  clear hA0 hval0
  refine (walk W m0 a0 c0 b0 e0 w0 m1 a1 c1 b1 e1 w1).mono fun e W' ⟨he, hb⟩ => ?_
  subst he
  exact ⟨_, rfl, _, _, _, [], _, [], hW', trodAll_mk1 (shut_bool Try.underlying4 _), (trodAll_cons_mk (Below.trod P.laidOut (by kernel_rfl) (of_decide_eq_true (by kernel_rfl)) k0 hb lt0) (trodAll_cons_mk (Below.trod P.laidOut (by kernel_rfl) (of_decide_eq_true (by kernel_rfl)) k1 hb lt1) trodAll_mk0)), rfl, hb.frame _, fun h => by cases h⟩

theorem proved : Rows.FnExactJoinMazesSaid :=
  OpenClaim.holds_of_wide 6 Try.f6 rfl rfl rfl rfl rfl rfl rfl ⟨rfl, rfl, rfl, rfl, rfl⟩ rfl rfl rfl rfl rfl (by kernel_rfl) Try.func6 (by kernel_rfl)
    (of_decide_eq_true (by kernel_rfl)) (by unfold Func.isWrapper; first | (rw [if_pos (by decide +kernel)]; kernel_rfl) | (rw [if_neg (by decide +kernel)]; exact ⟨rfl, rfl⟩))
    (fun os started H enc _ => lifted os started H enc)
#print axioms proved
end Go.Proofs.Ytmccpjdgnenmeaa.fnExactJoinMazes
