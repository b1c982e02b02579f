/-
  CONTRACT of spec.l8Works and spec.IsWorks: they tell whether works are valid; what lay in memory stays. No condition but that the works read so.
-/
import Derived.Test.YtdgfceiobpnchaaBefG
namespace Go.Proofs.Ytdgfceiobpnchaa
open Go.RowKit
namespace C
set_option maxHeartbeats 3200000
set_option maxRecDepth 20000
theorem shapeW_no {m : M.Wk} (h : M.shapeW m = false) : M.worksB m = false := by unfold M.worksB; rw [h]; rfl
theorem gates_no {m : M.Wk} (h : M.gatesB m.size m.gates = false) : M.worksB m = false := by unfold M.worksB; rw [h]; cases M.shapeW m <;> rfl
theorem pulls_no {m : M.Wk} (h : M.keysB m.pulls = false) : M.worksB m = false := by unfold M.worksB; rw [h]; cases M.shapeW m <;> cases M.gatesB m.size m.gates <;> rfl
theorem specWorks_any (w : World) (lo hi : Nat) (m : M.Wk) (a b : Option Addr) (c d : Nat) (h : WkIn lo hi w m a c b d) (hz : hi ≤ w.heap.size) :
    Calls Try.prog 59 #[.agg #[.int .i64 m.size, .slice a m.gates.length c, .slice b m.pulls.length d]] w (BoolPost w (M.worksB m)) := by
  have H := Lib.hid h
  have hc1 := h.c1
  have hc2 := h.c2
  have hd1 := h.d1
  have hd2 := h.d2
  clear h
  by_cases s1 : 1 ≤ m.size ∧ m.size ≤ 12
  · obtain ⟨s1, s12⟩ := s1
    by_cases s2 : m.gates.length ≤ 30
    · by_cases s3 : (m.pulls.length : Int) = m.size
      · have HSH : Hid (M.shapeW m = true) := Lib.hid (decide_eq_true ⟨s1, s12, s2, s3⟩)
        have hne : (((m.pulls.length : Nat) : Int) != m.size) = false := by simpa using s3
        have HS3 := Lib.hid s3
        have hkl : m.pulls.length ≤ 12 := by omega
        clear s3
        go_enter Try.func59, Try.ntmps59
        go_wp2_with fail
        refine (l1In_yes _ _ _ _ (by omega) (by omega)).mono ?_
        rintro e w' ⟨rfl, rfl⟩
        go_wp2_with fail
        go_loopw [3, 4] (fun i _ wr => ∃ (k : Nat), k ≤ m.gates.length ∧ i = .int .i64 k ∧ (∀ j, j < k → M.stepG m.size m.gates j = true) ∧ Box3 wr w.heap.size 28 (.int .i64 m.size) (.slice a m.gates.length c) (.slice b m.pulls.length d) ∧ Below w.heap.size w wr) (fun i _ _ => m.gates.length - (intOf i).toNat)
        case atStart => exact ⟨0, Nat.zero_le _, rfl, fun j h => by omega, Box3.new _ _ _ _ rfl, below_alloc _ _⟩
        case round =>
          obtain ⟨k, hk, rfl, hall, hbox, hnx⟩ := hrel
          have HA := Lib.hid hall
          have HN := Lib.hid hnx
          have HBX := Lib.hid hbox
          have hzr := hnx.size
          have hbl := hbox.lt
          obtain ⟨x0, x1, x2⟩ := hbox.cells
          clear hall hnx hbox
          by_cases hlt : k < m.gates.length
          · obtain ⟨db, off, rfl, _, hb, hc0⟩ := (H.out.gates.below HN.out hz).at_ (k := k * 4) (by rw [M.encGs_len]; omega)
            have a0 := hc0 _ _ (M.encGs_at0 hlt)
            have a1 : wr.cell? ⟨db, off + k * 4 + 1, none⟩ = some (.int .i64 m.gates[k].2.1) := hc0 _ _ (M.encGs_at1 hlt)
            have a2 : wr.cell? ⟨db, off + k * 4 + 2, none⟩ = some (.int .i64 m.gates[k].2.2.1) := hc0 _ _ (M.encGs_at2 hlt)
            have a3 : wr.cell? ⟨db, off + k * 4 + 3, none⟩ = some (.int .i64 m.gates[k].2.2.2) := hc0 _ _ (M.encGs_at3 hlt)
            have HC := Lib.hid hc0
            clear hc0
            go_wp2_with fail
            refine wp_named ?_
            intro W hW
            have hbW : Below wr.heap.size wr W := by rw [hW]; exact (Below.refl _ _).alloc (by omega) _
            have hdb : Box4 W wr.heap.size 67 (.int .i64 m.gates[k].1) (.int .i64 m.gates[k].2.1) (.int .i64 m.gates[k].2.2.1) (.int .i64 m.gates[k].2.2.2) := by rw [hW]; exact Box4.new _ _ _ _ _ rfl
            clear hW
            have hmb := HBX.out.below hbW
            obtain ⟨m0, m1, m2⟩ := hmb.cells
            obtain ⟨e0, e1, e2, e3⟩ := hdb.cells
            have hdw : db < wr.heap.size := by omega
            have hdl := hdb.lt
            have hml := hmb.lt
            have M0 := cell_grown hml m0
            have M1 := cell_grown hml m1
            have E0 := cell_grown hdl e0
            have E1 := cell_grown hdl e1
            have E2 := cell_grown hdl e2
            have E3 := cell_grown hdl e3
            have hdW : db < W.heap.size := by have := hbW.size; omega
            have mixed : Try.prog.follows .mixedOrders = true := by kernel_rfl
            have HMB := Lib.hid hmb
            have hzW := hbW.size
            have HW := Lib.hid hbW
            have HBW := Lib.hid (HN.out.trans (hbW.mono hzr))
            have hD : M.gateB m.size m.gates[k] = (M.inB m.gates[k].1 0 (m.size - 1) && M.inB m.gates[k].2.1 (m.gates[k].1 + 1) (m.size - 1) && M.setB m.gates[k].2.2.1 && M.inB m.gates[k].2.2.2 0 1) := by
              unfold M.gateB M.inB M.setB
              rw [Bool.eq_iff_iff]
              simp only [Bool.and_eq_true, decide_eq_true_eq]
              omega
            have HD := Lib.hid hD
            have hw1 : IntKind.i64.wrap (m.size - 1) = m.size - 1 := IntWalk.i64_in _ (by omega)
            clear hmb hdb x0 x1 x2 a0 a1 a2 a3 hbW m0 m1 m2 e0 e1 e2 e3 hD
            cases i0 : M.inB m.gates[k].1 0 (m.size - 1) with
            | false =>
              have HF : Hid (M.worksB m = false) := Lib.hid (gates_no (M.stepG_no1 hlt (by rw [HD.out, i0]; simp)))
              refine wp_region_quiet_grown (by assumption) (by kernel_rfl) ?_
              repeat (first | go_big_quiet_step (first | (go_at_call 65; refine Calls.grown_of (same_grown (l1In_any _ _ _ _)))) | quiet_step (first | (go_at_call 65; refine Calls.grown_of (same_grown (l1In_any _ _ _ _)))))
              refine wpQuiet_nil ?_
              intro _ hw'
              obtain ⟨⟨nq, osq⟩, hw''⟩ := hw'
              subst hw''
              go_wp2_with fail
              go_ret
              exact ⟨by rw [HF.out]; rfl, HBW.out.trans ((below_grown W _ _).mono (by omega))⟩
            | true =>
              have hx : 0 ≤ m.gates[k].1 ∧ m.gates[k].1 ≤ m.size - 1 := by unfold M.inB at i0; exact decide_eq_true_iff.1 i0
              obtain ⟨hx0, hx1⟩ := hx
              have hw2 : IntKind.i64.wrap (m.gates[k].1 + 1) = m.gates[k].1 + 1 := IntWalk.i64_in _ (by omega)
              cases i1 : M.inB m.gates[k].2.1 (m.gates[k].1 + 1) (m.size - 1) with
              | false =>
                have HF : Hid (M.worksB m = false) := Lib.hid (gates_no (M.stepG_no1 hlt (by rw [HD.out, i0, i1]; simp)))
                refine wp_region_quiet_grown (by assumption) (by kernel_rfl) ?_
                repeat (first | go_big_quiet_step (first | (go_at_call 65; refine Calls.grown_of (same_grown (l1In_any _ _ _ _)))) | quiet_step (first | (go_at_call 65; refine Calls.grown_of (same_grown (l1In_any _ _ _ _)))))
                refine wpQuiet_nil ?_
                intro _ hw'
                obtain ⟨⟨nq, osq⟩, hw''⟩ := hw'
                subst hw''
                go_wp2_with fail
                go_ret
                exact ⟨by rw [HF.out]; rfl, HBW.out.trans ((below_grown W _ _).mono (by omega))⟩
              | true =>
                cases i2 : M.setB m.gates[k].2.2.1 with
                | false =>
                  have HF : Hid (M.worksB m = false) := Lib.hid (gates_no (M.stepG_no1 hlt (by rw [HD.out, i0, i1, i2]; simp)))
                  refine wp_region_quiet_grown (by assumption) (by kernel_rfl) ?_
                  repeat (first | go_big_quiet_step (first | (go_at_call 65; refine Calls.grown_of (same_grown (l1In_any _ _ _ _))) | (go_at_call 66; refine Calls.grown_of (same_grown (l2Set_any _ _)))) | quiet_step (first | (go_at_call 65; refine Calls.grown_of (same_grown (l1In_any _ _ _ _))) | (go_at_call 66; refine Calls.grown_of (same_grown (l2Set_any _ _)))))
                  refine wpQuiet_nil ?_
                  intro _ hw'
                  obtain ⟨⟨nq, osq⟩, hw''⟩ := hw'
                  subst hw''
                  go_wp2_with fail
                  go_ret
                  exact ⟨by rw [HF.out]; rfl, HBW.out.trans ((below_grown W _ _).mono (by omega))⟩
                | true =>
                  cases i3 : M.inB m.gates[k].2.2.2 0 1 with
                  | false =>
                    have HF : Hid (M.worksB m = false) := Lib.hid (gates_no (M.stepG_no1 hlt (by rw [HD.out, i0, i1, i2, i3]; simp)))
                    refine wp_region_quiet_grown (by assumption) (by kernel_rfl) ?_
                    repeat (first | go_big_quiet_step (first | (go_at_call 65; refine Calls.grown_of (same_grown (l1In_any _ _ _ _))) | (go_at_call 66; refine Calls.grown_of (same_grown (l2Set_any _ _)))) | quiet_step (first | (go_at_call 65; refine Calls.grown_of (same_grown (l1In_any _ _ _ _))) | (go_at_call 66; refine Calls.grown_of (same_grown (l2Set_any _ _)))))
                    refine wpQuiet_nil ?_
                    intro _ hw'
                    obtain ⟨⟨nq, osq⟩, hw''⟩ := hw'
                    subst hw''
                    go_wp2_with fail
                    go_ret
                    exact ⟨by rw [HF.out]; rfl, HBW.out.trans ((below_grown W _ _).mono (by omega))⟩
                  | true =>
                    have HY : Hid (M.gateB m.size m.gates[k] = true) := Lib.hid (by rw [HD.out, i0, i1, i2, i3]; rfl)
                    rcases Nat.eq_zero_or_pos k with hk0 | hk0
                    · have hk1 : ¬ 0 < k := by omega
                      have hg : decide ((0 : Int) < (k : Int)) = false := decide_eq_false (by omega)
                      have HS : Hid (M.stepG m.size m.gates k = true) := Lib.hid ((M.stepG_iff hlt).2 ⟨HY.out, fun h => absurd h hk1⟩)
                      have HK0 := Lib.hid hk0
                      clear hk0
                      refine wp_region_quiet_grown (by assumption) (by kernel_rfl) ?_
                      repeat (first | go_big_quiet_step (first | (go_at_call 65; refine Calls.grown_of (same_grown (l1In_any _ _ _ _))) | (go_at_call 66; refine Calls.grown_of (same_grown (l2Set_any _ _)))) | quiet_step (first | (go_at_call 65; refine Calls.grown_of (same_grown (l1In_any _ _ _ _))) | (go_at_call 66; refine Calls.grown_of (same_grown (l2Set_any _ _)))))
                      refine wpQuiet_nil ?_
                      intro _ hw'
                      obtain ⟨⟨nq, osq⟩, hw''⟩ := hw'
                      subst hw''
                      go_wp2_with fail
                      go_roundw
                      case rel => exact ⟨k + 1, by omega, by go_num, fun j hj => by
                        rcases Nat.lt_or_ge j k with h | h
                        · exact HA.out j h
                        · obtain rfl : j = k := by omega
                          exact HS.out, HMB.out.below (below_grown W _ _), HBW.out.trans ((below_grown W _ _).mono (by omega))⟩
                      case measure => simp [intOf]; omega
                    · obtain ⟨j, rfl⟩ : ∃ j, k = j + 1 := ⟨k - 1, by omega⟩
                      have hg : decide ((0 : Int) < (j : Int) + 1) = true := decide_eq_true (by omega)
                      have hw3 : IntKind.i64.wrap ((j : Int) + 1 - 1) = (j : Int) := by rw [IntWalk.i64_in _ (by omega)]; omega
                      have hw4 : IntKind.i64.wrap (j : Int) = (j : Int) := IntWalk.i64_in _ (by omega)
                      have hjl : j < m.gates.length := by omega
                      have hjl2 : (j : Int) < (m.gates.length : Int) := by omega
                      have p0 : wr.cell? ⟨db, off + j * 4, none⟩ = some (.int .i64 m.gates[j].1) := HC.out _ _ (M.encGs_at0 hjl)
                      have p1 : wr.cell? ⟨db, off + j * 4 + 1, none⟩ = some (.int .i64 m.gates[j].2.1) := HC.out _ _ (M.encGs_at1 hjl)
                      have p2 : wr.cell? ⟨db, off + j * 4 + 2, none⟩ = some (.int .i64 m.gates[j].2.2.1) := HC.out _ _ (M.encGs_at2 hjl)
                      have p3 : wr.cell? ⟨db, off + j * 4 + 3, none⟩ = some (.int .i64 m.gates[j].2.2.2) := HC.out _ _ (M.encGs_at3 hjl)
                      have R0 := cell_grown (a := ⟨db, off + j * 4, none⟩) hdW ((HW.out.cell (p := ⟨db, off + j * 4, none⟩) hdw).trans p0)
                      have R1 := cell_grown (a := ⟨db, off + j * 4 + 1, none⟩) hdW ((HW.out.cell (p := ⟨db, off + j * 4 + 1, none⟩) hdw).trans p1)
                      have R2 := cell_grown (a := ⟨db, off + j * 4 + 2, none⟩) hdW ((HW.out.cell (p := ⟨db, off + j * 4 + 2, none⟩) hdw).trans p2)
                      have R3 := cell_grown (a := ⟨db, off + j * 4 + 3, none⟩) hdW ((HW.out.cell (p := ⟨db, off + j * 4 + 3, none⟩) hdw).trans p3)
                      clear p0 p1 p2 p3
                      have BF := Lib.hid (fun W => befG_any m.gates[j] m.gates[j + 1] W)
                      have hgd : m.gates.getD (j + 1 - 1) default = m.gates[j] := by rw [Nat.add_sub_cancel, List.getD_eq_getElem?_getD, List.getElem?_eq_getElem hjl]; rfl
                      have HG := Lib.hid hgd
                      clear hgd
                      cases i4 : M.ltG m.gates[j] m.gates[j + 1] with
                      | false =>
                        have HF : Hid (M.worksB m = false) := Lib.hid (gates_no (M.stepG_no2 hlt (by omega) (by rw [HG.out]; exact i4)))
                        rw [i4] at BF
                        clear i4
                        refine wp_region_quiet_grown (by assumption) (by kernel_rfl) ?_
                        repeat (first | go_big_quiet_step (first | (go_at_call 65; refine Calls.grown_of (same_grown (l1In_any _ _ _ _))) | (go_at_call 66; refine Calls.grown_of (same_grown (l2Set_any _ _))) | (go_at_call 106; refine Calls.grown_of (BF.out _))) | quiet_step (first | (go_at_call 65; refine Calls.grown_of (same_grown (l1In_any _ _ _ _))) | (go_at_call 66; refine Calls.grown_of (same_grown (l2Set_any _ _))) | (go_at_call 106; refine Calls.grown_of (BF.out _))))
                        refine wpQuiet_nil ?_
                        intro _ hw'
                        obtain ⟨⟨nq, osq⟩, hw''⟩ := hw'
                        subst hw''
                        go_wp2_with fail
                        go_ret
                        exact ⟨by rw [HF.out]; rfl, HBW.out.trans ((below_grown W _ _).mono (by omega))⟩
                      | true =>
                        have HS : Hid (M.stepG m.size m.gates (j + 1) = true) := Lib.hid ((M.stepG_iff hlt).2 ⟨HY.out, fun _ => by rw [HG.out]; exact i4⟩)
                        rw [i4] at BF
                        clear i4
                        refine wp_region_quiet_grown (by assumption) (by kernel_rfl) ?_
                        repeat (first | go_big_quiet_step (first | (go_at_call 65; refine Calls.grown_of (same_grown (l1In_any _ _ _ _))) | (go_at_call 66; refine Calls.grown_of (same_grown (l2Set_any _ _))) | (go_at_call 106; refine Calls.grown_of (BF.out _))) | quiet_step (first | (go_at_call 65; refine Calls.grown_of (same_grown (l1In_any _ _ _ _))) | (go_at_call 66; refine Calls.grown_of (same_grown (l2Set_any _ _))) | (go_at_call 106; refine Calls.grown_of (BF.out _))))
                        refine wpQuiet_nil ?_
                        intro _ hw'
                        obtain ⟨⟨nq, osq⟩, hw''⟩ := hw'
                        subst hw''
                        go_wp2_with fail
                        go_roundw
                        case rel => exact ⟨j + 1 + 1, by omega, by go_num, fun i hi => by
                          rcases Nat.lt_or_ge i (j + 1) with h | h
                          · exact HA.out i h
                          · obtain rfl : i = j + 1 := by omega
                            exact HS.out, HMB.out.below (below_grown W _ _), HBW.out.trans ((below_grown W _ _).mono (by omega))⟩
                        case measure => simp [intOf]; omega
          · obtain rfl : k = m.gates.length := by omega
            have HF : Hid (M.gatesB m.size m.gates = true) := Lib.hid (M.all_range_take.2 HA.out)
            have HKR := Lib.hid (H.out.pulls.below HN.out hz)
            have hmk := HS3.out
            have hsz : m.size ≤ m.pulls.length := by omega
            have hsz' : (m.pulls.length : Int) ≤ m.size := by omega
            clear hmk
            go_wp2_with fail
            go_loop [5] (fun i => ∃ (k : Nat), k ≤ m.pulls.length ∧ i = .int .i64 k ∧ (∀ j (hj : j < m.pulls.length), j < k → M.setB m.pulls[j] = true)) (fun i => m.pulls.length - (intOf i).toNat)
            case atStart => exact ⟨0, Nat.zero_le _, rfl, fun j _ h => by omega⟩
            case round =>
              obtain ⟨k, hk, rfl, hall⟩ := hrel
              have HA2 := Lib.hid hall
              clear hall
              by_cases hlt : k < m.pulls.length
              · obtain ⟨kb, off, rfl, _, _, hc0⟩ := HKR.out.at_ (k := k) (by rw [M.encIs_len]; exact hlt)
                have hc := hc0 k _ (M.encIs_at hlt)
                clear hc0
                cases q : M.setB m.pulls[k] with
                | false =>
                  have HFF : Hid (M.worksB m = false) := Lib.hid (pulls_no (M.keysB_no hlt q))
                  have Q := Lib.hid q
                  clear q
                  go_wp2_with fail
                  refine (l2Set_any _ _).mono ?_
                  rintro e w' ⟨rfl, rfl⟩
                  rw [Q.out]
                  go_wp2_with fail
                  go_ret
                  exact ⟨by rw [HFF.out]; rfl, HN.out⟩
                | true =>
                  have Q := Lib.hid q
                  clear q
                  go_wp2_with fail
                  refine (l2Set_any _ _).mono ?_
                  rintro e w' ⟨rfl, rfl⟩
                  rw [Q.out]
                  go_wp2_with fail
                  go_round
                  case rel => exact ⟨k + 1, by omega, by go_num, fun j hj hjk => by
                    rcases Nat.lt_or_ge j k with h | h
                    · exact HA2.out j hj h
                    · obtain rfl : j = k := by omega
                      exact Q.out⟩
                  case measure => simp [intOf]; omega
              · obtain rfl : k = m.pulls.length := by omega
                have HFF : Hid (M.worksB m = true) := Lib.hid (by
                  unfold M.worksB
                  rw [HSH.out, HF.out, M.keysB_iff.2 fun j hj => HA2.out j hj hj]
                  rfl)
                have hge : ¬ (m.pulls.length : Int) < m.size := by omega
                go_wp2_with fail
                go_ret
                exact ⟨by rw [HFF.out]; rfl, HN.out⟩
      · have HF : Hid (M.worksB m = false) := Lib.hid (shapeW_no (decide_eq_false fun h => s3 h.2.2.2))
        have hne : (((m.pulls.length : Nat) : Int) != m.size) = true := by simpa using s3
        clear s3
        go_enter Try.func59, Try.ntmps59
        go_wp2_with fail
        refine (l1In_yes _ _ _ _ (by omega) (by omega)).mono ?_
        rintro e w' ⟨rfl, rfl⟩
        go_wp2_with fail
        go_ret
        exact ⟨by rw [HF.out]; rfl, below_alloc _ _⟩
    · have HF : Hid (M.worksB m = false) := Lib.hid (shapeW_no (decide_eq_false fun h => s2 h.2.2.1))
      have s2' : 30 < m.gates.length := by omega
      go_enter Try.func59, Try.ntmps59
      go_wp2_with fail
      refine (l1In_yes _ _ _ _ (by omega) (by omega)).mono ?_
      rintro e w' ⟨rfl, rfl⟩
      go_wp2_with fail
      go_ret
      exact ⟨by rw [HF.out]; rfl, below_alloc _ _⟩
  · have HF : Hid (M.worksB m = false) := Lib.hid (shapeW_no (decide_eq_false fun h => s1 ⟨h.1, h.2.1⟩))
    have HS := Lib.hid s1
    clear s1
    go_enter Try.func59, Try.ntmps59
    go_wp2_with fail
    refine (l1In_no _ _ _ _ HS.out).mono ?_
    rintro e w' ⟨rfl, rfl⟩
    go_wp2_with fail
    go_ret
    exact ⟨by rw [HF.out]; rfl, below_alloc _ _⟩
theorem specIsWorks_any (w : World) (lo hi : Nat) (m : M.Wk) (a b : Option Addr) (c d : Nat) (h : WkIn lo hi w m a c b d) (hz : hi ≤ w.heap.size) :
    Calls Try.prog 18 #[.agg #[.int .i64 m.size, .slice a m.gates.length c, .slice b m.pulls.length d]] w (BoolPost w (M.worksB m)) := by
  have H := Lib.hid h
  clear h
  go_enter Try.func18, Try.ntmps18
  go_wp2_with fail
  refine named ?_
  intro W hW
  have hb : Below w.heap.size w W := by rw [hW]; exact (Below.refl _ _).alloc (Nat.le_refl _) _
  clear hW
  have hzw := hb.size
  have HB := Lib.hid hb
  refine (specWorks_any W lo hi m a b c d (H.out.below hb hz) (by omega)).mono ?_
  rintro e w1 ⟨rfl, hb1⟩
  have HB1 := Lib.hid (HB.out.trans (hb1.mono hzw))
  clear hb hb1
  go_wp2_with fail
  go_ret
  exact ⟨rfl, HB1.out⟩
end C
end Go.Proofs.Ytdgfceiobpnchaa
