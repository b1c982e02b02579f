/-
  CONTRACT of spec.l2Maze and spec.IsMaze: they tell whether a maze is valid; what lay in memory stays. No condition but that the maze reads so.
-/
import Derived.Test.YtbcobheiofajeaaWBReachMath
namespace Go.Proofs.Ytbcobheiofajeaa
open Go.RowKit
namespace C
set_option maxHeartbeats 1600000
set_option maxRecDepth 20000
theorem same_grown {P : Program} {f : FuncId} {args : Array Value} {W : World} {v : Value} (h : Calls P f args W fun e w' => e = .returned v ∧ W = w') : Calls P f args W fun e w' => e = .returned v ∧ ∃ q os, w' = Sort.grow (W.drewN q) os :=
  h.mono fun _ _ ⟨he, hw⟩ => ⟨he, 0, #[], by rw [← hw, Sort.grow_empty]; rfl⟩
theorem shape_no {m : M.Mz} (h : M.shapeB m = false) : M.mazeB m = false := by unfold M.mazeB; rw [h]; rfl
theorem doors_no {m : M.Mz} (h : M.doorsB m.size m.doors = false) : M.mazeB m = false := by unfold M.mazeB; rw [h]; cases M.shapeB m <;> rfl
theorem keys_no {m : M.Mz} (h : M.keysB m.keys = false) : M.mazeB m = false := by unfold M.mazeB; rw [h]; cases M.shapeB m <;> cases M.doorsB m.size m.doors <;> rfl
theorem specMaze_any (w : World) (lo hi : Nat) (m : M.Mz) (a b : Option Addr) (c d : Nat) (h : MzIn lo hi w m a c b d) (hz : hi ≤ w.heap.size) :
    Calls Try.prog 84 #[.agg #[.int .i64 m.size, .slice a m.doors.length c, .slice b m.keys.length d]] w (BoolPost w (M.mazeB m)) := by
  have H := Lib.hid h
  have hc1 := h.c1
  have hc2 := h.c2
  have hd1 := h.d1
  have hd2 := h.d2
  clear h
  by_cases s1 : 1 ≤ m.size ∧ m.size ≤ 12
  · obtain ⟨s1, s12⟩ := s1
    by_cases s2 : m.doors.length ≤ 30
    · by_cases s3 : (m.keys.length : Int) = m.size
      · have HSH : Hid (M.shapeB m = true) := Lib.hid (decide_eq_true ⟨s1, s12, s2, s3⟩)
        have hne : (((m.keys.length : Nat) : Int) != m.size) = false := by simpa using s3
        have HS3 := Lib.hid s3
        have hkl : m.keys.length ≤ 12 := by omega
        clear s3
        go_enter Try.func84, Try.ntmps84
        go_wp2_with fail
        refine (l1In_yes _ _ _ _ (by omega) (by omega)).mono ?_
        rintro e w' ⟨rfl, rfl⟩
        go_wp2_with fail
        go_loopw [3, 4] (fun i _ wr => ∃ (k : Nat), k ≤ m.doors.length ∧ i = .int .i64 k ∧ (∀ j, j < k → M.stepB m.size m.doors j = true) ∧ Box3 wr w.heap.size 55 (.int .i64 m.size) (.slice a m.doors.length c) (.slice b m.keys.length d) ∧ Below w.heap.size w wr) (fun i _ _ => m.doors.length - (intOf i).toNat)
        case atStart => exact ⟨0, Nat.zero_le _, rfl, fun j h => by omega, Box3.new _ _ _ _ rfl, below_alloc _ _⟩
        case round =>
          obtain ⟨k, hk, rfl, hall, hbox, hnx⟩ := hrel
          have HA := Lib.hid hall
          have HN := Lib.hid hnx
          have HBX := Lib.hid hbox
          have hzr := hnx.size
          have hbl := hbox.lt
          obtain ⟨x0, x1, x2⟩ := hbox.cells
          clear hall hnx hbox
          by_cases hlt : k < m.doors.length
          · obtain ⟨db, off, rfl, _, hb, hc0⟩ := (H.out.doors.below HN.out hz).at_ (k := k * 3) (by rw [M.encDs_len]; omega)
            have a0 := hc0 _ _ (M.encDs_at0 hlt)
            have a1 : wr.cell? ⟨db, off + k * 3 + 1, none⟩ = some (.int .i64 m.doors[k].2.1) := hc0 _ _ (M.encDs_at1 hlt)
            have a2 : wr.cell? ⟨db, off + k * 3 + 2, none⟩ = some (.int .i64 m.doors[k].2.2) := hc0 _ _ (M.encDs_at2 hlt)
            have HC := Lib.hid hc0
            clear hc0
            go_wp2_with fail
            refine wp_named ?_
            intro W hW
            have hbW : Below wr.heap.size wr W := by rw [hW]; exact (Below.refl _ _).alloc (by omega) _
            have hdb : Box3 W wr.heap.size 103 (.int .i64 m.doors[k].1) (.int .i64 m.doors[k].2.1) (.int .i64 m.doors[k].2.2) := by rw [hW]; exact Box3.new _ _ _ _ rfl
            clear hW
            have hmb := HBX.out.below hbW
            obtain ⟨m0, m1, m2⟩ := hmb.cells
            obtain ⟨e0, e1, e2⟩ := hdb.cells
            have hdw : db < wr.heap.size := by omega
            have hdl := hdb.lt
            have hml := hmb.lt
            have M0 := cell_grown hml m0
            have M1 := cell_grown hml m1
            have E0 := cell_grown hdl e0
            have E1 := cell_grown hdl e1
            have E2 := cell_grown hdl e2
            have hdW : db < W.heap.size := by have := hbW.size; omega
            have mixed : Try.prog.follows .mixedOrders = true := by kernel_rfl
            have HMB := Lib.hid hmb
            have hzW := hbW.size
            have HW := Lib.hid hbW
            have HBW := Lib.hid (HN.out.trans (hbW.mono hzr))
            have hD : M.doorB m.size m.doors[k] = (M.inB m.doors[k].1 0 (m.size - 1) && M.inB m.doors[k].2.1 (m.doors[k].1 + 1) (m.size - 1) && M.setB m.doors[k].2.2) := by
              unfold M.doorB M.inB M.setB
              rw [Bool.eq_iff_iff]
              simp only [Bool.and_eq_true, decide_eq_true_eq]
              omega
            have HD := Lib.hid hD
            have hw1 : IntKind.i64.wrap (m.size - 1) = m.size - 1 := IntWalk.i64_in _ (by omega)
            clear hmb hdb x0 x1 x2 a0 a1 a2 hbW m0 m1 m2 e0 e1 e2 hD
            cases i0 : M.inB m.doors[k].1 0 (m.size - 1) with
            | false =>
              have HF : Hid (M.mazeB m = false) := Lib.hid (doors_no (stepB_no1 hlt (by rw [HD.out, i0]; rfl)))
              refine wp_region_quiet_grown (by assumption) (by kernel_rfl) ?_
              repeat (first | go_big_quiet_step (first | (go_at_call 94; refine Calls.grown_of (same_grown (l1In_any _ _ _ _)))) | quiet_step (first | (go_at_call 94; refine Calls.grown_of (same_grown (l1In_any _ _ _ _)))))
              refine wpQuiet_nil ?_
              intro _ hw'
              obtain ⟨⟨nq, osq⟩, hw''⟩ := hw'
              subst hw''
              go_wp2_with fail
              go_ret
              exact ⟨by rw [HF.out]; rfl, HBW.out.trans ((below_grown W _ _).mono (by omega))⟩
            | true =>
              have hx : 0 ≤ m.doors[k].1 ∧ m.doors[k].1 ≤ m.size - 1 := by unfold M.inB at i0; exact decide_eq_true_iff.1 i0
              obtain ⟨hx0, hx1⟩ := hx
              have hw2 : IntKind.i64.wrap (m.doors[k].1 + 1) = m.doors[k].1 + 1 := IntWalk.i64_in _ (by omega)
              cases i1 : M.inB m.doors[k].2.1 (m.doors[k].1 + 1) (m.size - 1) with
              | false =>
                have HF : Hid (M.mazeB m = false) := Lib.hid (doors_no (stepB_no1 hlt (by rw [HD.out, i0, i1]; rfl)))
                refine wp_region_quiet_grown (by assumption) (by kernel_rfl) ?_
                repeat (first | go_big_quiet_step (first | (go_at_call 94; refine Calls.grown_of (same_grown (l1In_any _ _ _ _)))) | quiet_step (first | (go_at_call 94; refine Calls.grown_of (same_grown (l1In_any _ _ _ _)))))
                refine wpQuiet_nil ?_
                intro _ hw'
                obtain ⟨⟨nq, osq⟩, hw''⟩ := hw'
                subst hw''
                go_wp2_with fail
                go_ret
                exact ⟨by rw [HF.out]; rfl, HBW.out.trans ((below_grown W _ _).mono (by omega))⟩
              | true =>
                cases i2 : M.setB m.doors[k].2.2 with
                | false =>
                  have HF : Hid (M.mazeB m = false) := Lib.hid (doors_no (stepB_no1 hlt (by rw [HD.out, i0, i1, i2]; rfl)))
                  refine wp_region_quiet_grown (by assumption) (by kernel_rfl) ?_
                  repeat (first | go_big_quiet_step (first | (go_at_call 94; refine Calls.grown_of (same_grown (l1In_any _ _ _ _))) | (go_at_call 115; refine Calls.grown_of (same_grown (l2Set_any _ _)))) | quiet_step (first | (go_at_call 94; refine Calls.grown_of (same_grown (l1In_any _ _ _ _))) | (go_at_call 115; refine Calls.grown_of (same_grown (l2Set_any _ _)))))
                  refine wpQuiet_nil ?_
                  intro _ hw'
                  obtain ⟨⟨nq, osq⟩, hw''⟩ := hw'
                  subst hw''
                  go_wp2_with fail
                  go_ret
                  exact ⟨by rw [HF.out]; rfl, HBW.out.trans ((below_grown W _ _).mono (by omega))⟩
                | true =>
                  have HY : Hid (M.doorB m.size m.doors[k] = true) := Lib.hid (by rw [HD.out, i0, i1, i2]; rfl)
                  rcases Nat.eq_zero_or_pos k with hk0 | hk0
                  · have hk1 : ¬ 0 < k := by omega
                    have hg : decide ((0 : Int) < (k : Int)) = false := decide_eq_false (by omega)
                    have HS : Hid (M.stepB m.size m.doors k = true) := Lib.hid ((M.stepB_iff hlt).2 ⟨HY.out, fun h => absurd h hk1⟩)
                    have HK0 := Lib.hid hk0
                    clear hk0
                    refine wp_region_quiet_grown (by assumption) (by kernel_rfl) ?_
                    repeat (first | go_big_quiet_step (first | (go_at_call 94; refine Calls.grown_of (same_grown (l1In_any _ _ _ _))) | (go_at_call 115; refine Calls.grown_of (same_grown (l2Set_any _ _)))) | quiet_step (first | (go_at_call 94; refine Calls.grown_of (same_grown (l1In_any _ _ _ _))) | (go_at_call 115; refine Calls.grown_of (same_grown (l2Set_any _ _)))))
                    refine wpQuiet_nil ?_
                    intro _ hw'
                    obtain ⟨⟨nq, osq⟩, hw''⟩ := hw'
                    subst hw''
                    go_wp2_with fail
                    go_roundw
                    case rel => exact ⟨k + 1, by omega, by go_num, fun j hj => by
                      rcases Nat.lt_or_ge j k with h | h
                      · exact HA.out j h
                      · obtain rfl : j = k := by omega
                        exact HS.out, HMB.out.below (below_grown W _ _), HBW.out.trans ((below_grown W _ _).mono (by omega))⟩
                    case measure => simp [intOf]; omega
                  · obtain ⟨j, rfl⟩ : ∃ j, k = j + 1 := ⟨k - 1, by omega⟩
                    have hg : decide ((0 : Int) < (j : Int) + 1) = true := decide_eq_true (by omega)
                    have hw3 : IntKind.i64.wrap ((j : Int) + 1 - 1) = (j : Int) := by rw [IntWalk.i64_in _ (by omega)]; omega
                    have hw4 : IntKind.i64.wrap (j : Int) = (j : Int) := IntWalk.i64_in _ (by omega)
                    have hjl : j < m.doors.length := by omega
                    have hjl2 : (j : Int) < (m.doors.length : Int) := by omega
                    have p0 : wr.cell? ⟨db, off + j * 3, none⟩ = some (.int .i64 m.doors[j].1) := HC.out _ _ (M.encDs_at0 hjl)
                    have p1 : wr.cell? ⟨db, off + j * 3 + 1, none⟩ = some (.int .i64 m.doors[j].2.1) := HC.out _ _ (M.encDs_at1 hjl)
                    have p2 : wr.cell? ⟨db, off + j * 3 + 2, none⟩ = some (.int .i64 m.doors[j].2.2) := HC.out _ _ (M.encDs_at2 hjl)
                    have R0 := cell_grown (a := ⟨db, off + j * 3, none⟩) hdW ((HW.out.cell (p := ⟨db, off + j * 3, none⟩) hdw).trans p0)
                    have R1 := cell_grown (a := ⟨db, off + j * 3 + 1, none⟩) hdW ((HW.out.cell (p := ⟨db, off + j * 3 + 1, none⟩) hdw).trans p1)
                    have R2 := cell_grown (a := ⟨db, off + j * 3 + 2, none⟩) hdW ((HW.out.cell (p := ⟨db, off + j * 3 + 2, none⟩) hdw).trans p2)
                    clear p0 p1 p2
                    have BF := Lib.hid (fun W => before_any m.doors[j] m.doors[j + 1] W)
                    have hgd : m.doors.getD (j + 1 - 1) default = m.doors[j] := by rw [Nat.add_sub_cancel, List.getD_eq_getElem?_getD, List.getElem?_eq_getElem hjl]; rfl
                    have HG := Lib.hid hgd
                    clear hgd
                    cases i3 : M.ltD m.doors[j] m.doors[j + 1] with
                    | false =>
                      have HF : Hid (M.mazeB m = false) := Lib.hid (doors_no (stepB_no2 hlt (by omega) (by rw [HG.out]; exact i3)))
                      rw [i3] at BF
                      clear i3
                      refine wp_region_quiet_grown (by assumption) (by kernel_rfl) ?_
                      repeat (first | go_big_quiet_step (first | (go_at_call 94; refine Calls.grown_of (same_grown (l1In_any _ _ _ _))) | (go_at_call 115; refine Calls.grown_of (same_grown (l2Set_any _ _))) | (go_at_call 116; refine Calls.grown_of (BF.out _))) | quiet_step (first | (go_at_call 94; refine Calls.grown_of (same_grown (l1In_any _ _ _ _))) | (go_at_call 115; refine Calls.grown_of (same_grown (l2Set_any _ _))) | (go_at_call 116; refine Calls.grown_of (BF.out _))))
                      refine wpQuiet_nil ?_
                      intro _ hw'
                      obtain ⟨⟨nq, osq⟩, hw''⟩ := hw'
                      subst hw''
                      go_wp2_with fail
                      go_ret
                      exact ⟨by rw [HF.out]; rfl, HBW.out.trans ((below_grown W _ _).mono (by omega))⟩
                    | true =>
                      have HS : Hid (M.stepB m.size m.doors (j + 1) = true) := Lib.hid ((M.stepB_iff hlt).2 ⟨HY.out, fun _ => by rw [HG.out]; exact i3⟩)
                      rw [i3] at BF
                      clear i3
                      refine wp_region_quiet_grown (by assumption) (by kernel_rfl) ?_
                      repeat (first | go_big_quiet_step (first | (go_at_call 94; refine Calls.grown_of (same_grown (l1In_any _ _ _ _))) | (go_at_call 115; refine Calls.grown_of (same_grown (l2Set_any _ _))) | (go_at_call 116; refine Calls.grown_of (BF.out _))) | quiet_step (first | (go_at_call 94; refine Calls.grown_of (same_grown (l1In_any _ _ _ _))) | (go_at_call 115; refine Calls.grown_of (same_grown (l2Set_any _ _))) | (go_at_call 116; refine Calls.grown_of (BF.out _))))
                      refine wpQuiet_nil ?_
                      intro _ hw'
                      obtain ⟨⟨nq, osq⟩, hw''⟩ := hw'
                      subst hw''
                      go_wp2_with fail
                      go_roundw
                      case rel => exact ⟨j + 1 + 1, by omega, by go_num, fun i hi => by
                        rcases Nat.lt_or_ge i (j + 1) with h | h
                        · exact HA.out i h
                        · obtain rfl : i = j + 1 := by omega
                          exact HS.out, HMB.out.below (below_grown W _ _), HBW.out.trans ((below_grown W _ _).mono (by omega))⟩
                      case measure => simp [intOf]; omega
          · obtain rfl : k = m.doors.length := by omega
            have HF : Hid (M.doorsB m.size m.doors = true) := Lib.hid (M.all_range_take.2 HA.out)
            have HKR := Lib.hid (H.out.keys.below HN.out hz)
            have hmk := HS3.out
            have hsz : m.size ≤ m.keys.length := by omega
            have hsz' : (m.keys.length : Int) ≤ m.size := by omega
            clear hmk
            go_wp2_with fail
            go_loop [5] (fun i => ∃ (k : Nat), k ≤ m.keys.length ∧ i = .int .i64 k ∧ (∀ j (hj : j < m.keys.length), j < k → M.setB m.keys[j] = true)) (fun i => m.keys.length - (intOf i).toNat)
            case atStart => exact ⟨0, Nat.zero_le _, rfl, fun j _ h => by omega⟩
            case round =>
              obtain ⟨k, hk, rfl, hall⟩ := hrel
              have HA2 := Lib.hid hall
              clear hall
              by_cases hlt : k < m.keys.length
              · obtain ⟨kb, off, rfl, _, _, hc0⟩ := HKR.out.at_ (k := k) (by rw [M.encIs_len]; exact hlt)
                have hc := hc0 k _ (M.encIs_at hlt)
                clear hc0
                cases q : M.setB m.keys[k] with
                | false =>
                  have HFF : Hid (M.mazeB m = false) := Lib.hid (keys_no (M.keysB_no hlt q))
                  have Q := Lib.hid q
                  clear q
                  go_wp2_with fail
                  refine (l2Set_any _ _).mono ?_
                  rintro e w' ⟨rfl, rfl⟩
                  rw [Q.out]
                  go_wp2_with fail
                  go_ret
                  exact ⟨by rw [HFF.out]; rfl, HN.out⟩
                | true =>
                  have Q := Lib.hid q
                  clear q
                  go_wp2_with fail
                  refine (l2Set_any _ _).mono ?_
                  rintro e w' ⟨rfl, rfl⟩
                  rw [Q.out]
                  go_wp2_with fail
                  go_round
                  case rel => exact ⟨k + 1, by omega, by go_num, fun j hj hjk => by
                    rcases Nat.lt_or_ge j k with h | h
                    · exact HA2.out j hj h
                    · obtain rfl : j = k := by omega
                      exact Q.out⟩
                  case measure => simp [intOf]; omega
              · obtain rfl : k = m.keys.length := by omega
                have HFF : Hid (M.mazeB m = true) := Lib.hid (by
                  unfold M.mazeB
                  rw [HSH.out, HF.out, M.keysB_iff.2 fun j hj => HA2.out j hj hj]
                  rfl)
                have hge : ¬ (m.keys.length : Int) < m.size := by omega
                go_wp2_with fail
                go_ret
                exact ⟨by rw [HFF.out]; rfl, HN.out⟩
      · have HF : Hid (M.mazeB m = false) := Lib.hid (shape_no (decide_eq_false fun h => s3 h.2.2.2))
        have hne : (((m.keys.length : Nat) : Int) != m.size) = true := by simpa using s3
        clear s3
        go_enter Try.func84, Try.ntmps84
        go_wp2_with fail
        refine (l1In_yes _ _ _ _ (by omega) (by omega)).mono ?_
        rintro e w' ⟨rfl, rfl⟩
        go_wp2_with fail
        go_ret
        exact ⟨by rw [HF.out]; rfl, below_alloc _ _⟩
    · have HF : Hid (M.mazeB m = false) := Lib.hid (shape_no (decide_eq_false fun h => s2 h.2.2.1))
      have s2' : 30 < m.doors.length := by omega
      go_enter Try.func84, Try.ntmps84
      go_wp2_with fail
      refine (l1In_yes _ _ _ _ (by omega) (by omega)).mono ?_
      rintro e w' ⟨rfl, rfl⟩
      go_wp2_with fail
      go_ret
      exact ⟨by rw [HF.out]; rfl, below_alloc _ _⟩
  · have HF : Hid (M.mazeB m = false) := Lib.hid (shape_no (decide_eq_false fun h => s1 ⟨h.1, h.2.1⟩))
    have HS := Lib.hid s1
    clear s1
    go_enter Try.func84, Try.ntmps84
    go_wp2_with fail
    refine (l1In_no _ _ _ _ HS.out).mono ?_
    rintro e w' ⟨rfl, rfl⟩
    go_wp2_with fail
    go_ret
    exact ⟨by rw [HF.out]; rfl, below_alloc _ _⟩
end C
end Go.Proofs.Ytbcobheiofajeaa
