/-
  CONTRACTS of the program's endOfPlan, IsPlan, RunPlan; what lay in memory stays. No condition but that the works and the list read so.
-/
import Derived.Test.YtdgfceiobpnchaaTry
namespace Go.Proofs.Ytdgfceiobpnchaa
open Go.RowKit
namespace C
set_option maxHeartbeats 3200000
set_option maxRecDepth 20000
theorem endOfPlan_any (w : World) (lo hi : Nat) (m : M.Wk) (a b : Option Addr) (c d : Nat) (h : WkIn lo hi w m a c b d) (hz : hi ≤ w.heap.size) (lo' hi' : Nat) (wa : Option Addr) (wc : Nat) (plan : List Int) (hw : RowIn lo' hi' w wa (M.encIs plan)) (hz' : hi' ≤ w.heap.size) (hl : plan.length ≤ 1048576) :
    Calls Try.prog 79 #[.agg #[.int .i64 m.size, .slice a m.gates.length c, .slice b m.pulls.length d], .slice wa plan.length wc] w (VsOkPost w (M.endV m plan) (M.endB m plan)) := by
  have H := Lib.hid h
  have HW := Lib.hid hw
  clear h hw
  go_enter Try.func79, Try.ntmps79
  go_upto_region 1 with fail
  refine wp_named ?_
  intro W hW
  have hb : Below w.heap.size w W := by rw [hW]; exact (below_alloc _ _).alloc (by simp) _
  have x1 : Box3 W w.heap.size 28 (.int .i64 m.size) (.slice a m.gates.length c) (.slice b m.pulls.length d) := by rw [hW]; exact (Box3.new _ _ _ _ rfl).alloc _
  have r1 : Box2 W (w.heap.size + 1) 71 (.int .i64 0) (.int .i64 0) := by rw [hW]; exact Box2.new _ _ _ (by simp)
  clear hW
  have hzw := hb.size
  obtain ⟨c0, c1, c2⟩ := x1.cells
  go_wp2_with fail
  refine (isWorks_any W lo hi m a b c d (H.out.below hb hz) (by omega)).mono ?_
  rintro e w1 ⟨rfl, hb1⟩
  have X1 := Lib.hid (x1.below hb1)
  have R1 := Lib.hid (r1.below hb1)
  have HB1 := Lib.hid (hb.trans (hb1.mono hzw))
  have hz1 := hb1.size
  have hrl := r1.lt
  clear hb hb1 x1 r1 c0 c1 c2
  obtain ⟨c0, c1, c2⟩ := X1.out.cells
  cases q0 : M.worksB m with
  | false =>
    have HE := Lib.hid (M.end_none (M.endO_off q0 plan))
    clear q0
    obtain ⟨j0, j1⟩ := R1.out.cells
    obtain ⟨f0, f1⟩ := R1.out.free
    obtain ⟨q0', q1'⟩ := (R1.out.setAll (.int .i64 0) (.int .i64 0)).cells
    go_wp2_with fail
    refine bodyPost_ret (v := .tuple #[.agg #[.int .i64 0, .int .i64 0], .bool false]) (by simp [results, Try.results79, go_sem, q0', q1']) rfl ?_
    rw [HE.out.1, HE.out.2]
    exact ⟨rfl, Below.thenTurned HB1.out (Turned.set2 _ _ _) (by omega) (by omega)⟩
  | true =>
    have HV := Lib.hid (M.wv_of q0)
    have HM := Lib.hid q0
    clear q0
    by_cases hlen : 60 < plan.length
    · have HE := Lib.hid (M.end_none (M.endO_long (m := m) hlen))
      have hlen2 : (60 : Int) < (plan.length : Int) := by omega
      obtain ⟨j0, j1⟩ := R1.out.cells
      obtain ⟨f0, f1⟩ := R1.out.free
      obtain ⟨q0', q1'⟩ := (R1.out.setAll (.int .i64 0) (.int .i64 0)).cells
      go_wp2_with fail
      refine bodyPost_ret (v := .tuple #[.agg #[.int .i64 0, .int .i64 0], .bool false]) (by simp [results, Try.results79, go_sem, q0', q1']) rfl ?_
      rw [HE.out.1, HE.out.2]
      exact ⟨rfl, Below.thenTurned HB1.out (Turned.set2 _ _ _) (by omega) (by omega)⟩
    · have hl60 : plan.length ≤ 60 := by omega
      have HEN := Lib.hid (M.endO_on HM.out hl60)
      have hlen2 : ¬ (60 : Int) < (plan.length : Int) := by omega
      clear hlen
      have n1 := Box2.new (w := w1) (g := w1.heap.size) 71 (.int .i64 0) (.int .i64 0) rfl
      have hnl := n1.lt
      have N1 := Lib.hid n1
      clear n1
      go_wp2_with fail
      go_loopw [8, 9, 10, 23] (fun _ _ _ v23 wr => ∃ (k : Nat) (s : M.Vs), k ≤ plan.length ∧ v23 = .int .i64 (k : Int) ∧ M.VsOk m s ∧ M.runO m (0, 0) (plan.take k) = some s ∧ Box3 wr w.heap.size 28 (.int .i64 m.size) (.slice a m.gates.length c) (.slice b m.pulls.length d) ∧ Box2 wr (w.heap.size + 1) 71 (.int .i64 0) (.int .i64 0) ∧ Box2 wr w1.heap.size 71 (.int .i64 s.1) (.int .i64 s.2) ∧ Below w.heap.size w wr) (fun _ _ _ v23 _ => plan.length - (intOf v23).toNat)
      case atStart => exact ⟨0, (0, 0), Nat.zero_le _, rfl, M.vs0_ok HV.out, rfl, X1.out.alloc _, R1.out.alloc _, N1.out, HB1.out.alloc (by omega) _⟩
      case round =>
        obtain ⟨k, s, hk, rfl, hso, hrun, hx, hr, hn, hlow⟩ := hrel
        have SO := Lib.hid hso
        have RN := Lib.hid hrun
        have X2 := Lib.hid hx
        have R2 := Lib.hid hr
        have N2 := Lib.hid hn
        have LO := Lib.hid hlow
        have hzr := hlow.size
        have hnl2 := hn.lt
        clear hso hrun hx hr hn hlow c0 c1 c2
        by_cases hkl : k < plan.length
        · obtain ⟨pb, po, rfl, _, hpb, hpc⟩ := (HW.out.below LO.out hz').at_ (k := k) (by rw [M.encIs_len]; exact hkl)
          have g0 := hpc _ _ (M.encIs_at hkl)
          have HT := Lib.hid (M.runO_take hkl RN.out)
          have HNO := Lib.hid (fun h => M.runO_take_none (m := m) (s := (0, 0)) (l := plan) (k := k + 1) h)
          have HVB : Hid (M.visitB m s.1 s.2 = true) := Lib.hid (by
            obtain ⟨e1, e2, e3, e4⟩ := SO.out
            unfold M.visitB M.nodeB M.setB
            rw [HM.out, decide_eq_true ⟨e1, e2⟩, decide_eq_true ⟨e3, e4⟩]
            rfl)
          clear hpc
          generalize plan[k] = act at *
          have HA := Lib.hid (M.actB_on HVB.out act)
          have HTA := Lib.hid (tryAct_any wr lo hi m a b c d (H.out.below LO.out hz) (by omega) s act)
          obtain ⟨c0, c1, c2⟩ := X2.out.cells
          obtain ⟨k0, k1⟩ := N2.out.cells
          go_wp2_with fail
          refine (HTA.out).mono ?_
          rintro e w2 ⟨rfl, hb2⟩
          have X3 := Lib.hid ((X2.out.below hb2).alloc (.cells #[.int .i64 (M.doV m s.1 s.2 act).1, .int .i64 (M.doV m s.1 s.2 act).2] 71))
          have R3 := Lib.hid ((R2.out.below hb2).alloc (.cells #[.int .i64 (M.doV m s.1 s.2 act).1, .int .i64 (M.doV m s.1 s.2 act).2] 71))
          have N3 := Lib.hid ((N2.out.below hb2).alloc (.cells #[.int .i64 (M.doV m s.1 s.2 act).1, .int .i64 (M.doV m s.1 s.2 act).2] 71))
          have T3 := Lib.hid (Box2.new (w := w2) (g := w2.heap.size) 71 (.int .i64 (M.doV m s.1 s.2 act).1) (.int .i64 (M.doV m s.1 s.2 act).2) rfl)
          have hz2 := hb2.size
          have LO3 := Lib.hid ((LO.out.trans (hb2.mono hzr)).alloc (by omega) (.cells #[.int .i64 (M.doV m s.1 s.2 act).1, .int .i64 (M.doV m s.1 s.2 act).2] 71))
          have hsz3 : (w2.alloc (.cells #[.int .i64 (M.doV m s.1 s.2 act).1, .int .i64 (M.doV m s.1 s.2 act).2] 71)).heap.size = w2.heap.size + 1 := World.size_alloc _ _
          clear hb2 c0 c1 c2 k0 k1 g0
          cases qm : M.memB (M.actsL m s) act with
          | false =>
            have HAN := Lib.hid (HA.out.trans qm)
            have HE := Lib.hid (M.end_none (m := m) (plan := plan) (by rw [HEN.out]; exact HNO.out (by rw [HT.out, qm]; rfl)))
            have HDV := Lib.hid (M.actB_no HAN.out)
            have han := HAN.out
            clear qm
            obtain ⟨j0, j1⟩ := R3.out.cells
            obtain ⟨f0, f1⟩ := R3.out.free
            obtain ⟨q0', q1'⟩ := (R3.out.setAll (.int .i64 0) (.int .i64 0)).cells
            rw [han]
            go_wp2_with fail
            refine bodyPost_ret (v := .tuple #[.agg #[.int .i64 0, .int .i64 0], .bool false]) (by simp [results, Try.results79, go_sem, q0', q1']) rfl ?_
            rw [HE.out.1, HE.out.2]
            exact ⟨rfl, Below.thenTurned LO3.out (Turned.set2 _ _ _) (by omega) (by rw [hsz3]; omega)⟩
          | true =>
            have HAN := Lib.hid (HA.out.trans qm)
            have HDV := Lib.hid (M.actB_yes HAN.out)
            have HT2 : Hid (M.runO m (0, 0) (plan.take (k + 1)) = some (M.doA m s act)) := Lib.hid (by rw [HT.out, qm]; rfl)
            have HOK := Lib.hid (M.doA_ok HV.out SO.out (M.memB_true qm))
            have han := HAN.out
            clear qm
            obtain ⟨j0, j1⟩ := N3.out.cells
            obtain ⟨f0, f1⟩ := N3.out.free
            obtain ⟨t0, t1⟩ := T3.out.cells
            have hT := Lib.hid (fun u0 u1 => Turned.set2 (w := w2.alloc (.cells #[.int .i64 (M.doV m s.1 s.2 act).1, .int .i64 (M.doV m s.1 s.2 act).2] 71)) w1.heap.size u0 u1)
            rw [han]
            go_wp2_with fail
            go_roundw
            case rel =>
              refine ⟨k + 1, M.doA m s act, by omega, by go_num, HOK.out, HT2.out, X3.out.turned (hT.out _ _) (by omega), R3.out.turned (hT.out _ _) (by omega), ?_, Below.thenTurned LO3.out (hT.out _ _) (by omega) (by rw [hsz3]; omega)⟩
              rw [← HDV.out]
              exact N3.out.setAll _ _
            case measure => simp [intOf]; omega
        · obtain rfl : k = plan.length := by omega
          have HE := Lib.hid (M.end_some (m := m) (plan := plan) (s := s) (by rw [HEN.out, ← RN.out, List.take_length]))
          obtain ⟨k0, k1⟩ := N2.out.cells
          obtain ⟨j0, j1⟩ := R2.out.cells
          obtain ⟨f0, f1⟩ := R2.out.free
          obtain ⟨q0', q1'⟩ := (R2.out.setAll (.int .i64 s.1) (.int .i64 s.2)).cells
          go_wp2_with fail
          refine bodyPost_ret (v := .tuple #[.agg #[.int .i64 s.1, .int .i64 s.2], .bool true]) (by simp [results, Try.results79, go_sem, q0', q1']) rfl ?_
          rw [HE.out.1, HE.out.2]
          exact ⟨rfl, Below.thenTurned LO.out (Turned.set2 _ _ _) (by omega) (by omega)⟩
theorem implIsPlan_lw (w : World) (lo hi : Nat) (m : M.Wk) (a b : Option Addr) (c d : Nat) (h : WkIn lo hi w m a c b d) (hz : hi ≤ w.heap.size) (_h1 : m.gates.length ≤ 1048576) (_h2 : m.pulls.length ≤ 1048576) (lo' hi' : Nat) (wa : Option Addr) (wc : Nat) (plan : List Int) (hw : RowIn lo' hi' w wa (M.encIs plan)) (hz' : hi' ≤ w.heap.size) (hl : plan.length ≤ 1048576) (_u1 : plan.length ≤ wc) (_u2 : wc ≤ 9223372036854775807) (_u3 : ∀ z ∈ plan, -9223372036854775808 ≤ z ∧ z ≤ 9223372036854775807) :
    Calls Try.prog 34 #[.agg #[.int .i64 m.size, .slice a m.gates.length c, .slice b m.pulls.length d], .slice wa plan.length wc] w (fun e w' => e = .returned (.tuple #[.bool (M.endB m plan), .bool (M.worksB m)]) ∧ Below w.heap.size w w') := by
  have H := Lib.hid h
  have HW := Lib.hid hw
  clear h hw
  go_enter Try.func34, Try.ntmps34
  go_wp2_with fail
  refine named ?_
  intro W hW
  have hb : Below w.heap.size w W := by rw [hW]; exact below_alloc _ _
  have x1 : Box3 W w.heap.size 28 (.int .i64 m.size) (.slice a m.gates.length c) (.slice b m.pulls.length d) := by rw [hW]; exact Box3.new _ _ _ _ rfl
  clear hW
  have hzw := hb.size
  have HE := Lib.hid (endOfPlan_any W lo hi m a b c d (H.out.below hb hz) (by omega) lo' hi' wa wc plan (HW.out.below hb hz') (by omega) hl)
  refine (HE.out).mono ?_
  rintro e w1 ⟨rfl, hb1⟩
  have HB1 := Lib.hid (hb.trans (hb1.mono hzw))
  have hz1 := hb1.size
  have X1 := Lib.hid ((x1.below hb1).alloc (.cells #[.int .i64 (M.endV m plan).1, .int .i64 (M.endV m plan).2] 71))
  clear hb hb1 x1 HE
  obtain ⟨c0, c1, c2⟩ := X1.out.cells
  have HB2 := Lib.hid (HB1.out.alloc (by omega) (.cells #[.int .i64 (M.endV m plan).1, .int .i64 (M.endV m plan).2] 71))
  have hsz : (w1.alloc (.cells #[.int .i64 (M.endV m plan).1, .int .i64 (M.endV m plan).2] 71)).heap.size = w1.heap.size + 1 := World.size_alloc _ _
  have HI := Lib.hid (isWorks_any _ lo hi m a b c d (H.out.below HB2.out hz) (by rw [hsz]; omega))
  go_wp2_with fail
  refine (HI.out).mono ?_
  rintro e w2 ⟨rfl, hb2⟩
  have HB3 := Lib.hid (HB2.out.trans (hb2.mono (by rw [hsz]; omega)))
  clear hb2 c0 c1 c2
  go_wp2_with fail
  go_ret2
  exact ⟨rfl, HB3.out⟩
theorem implRunPlan_lw (w : World) (lo hi : Nat) (m : M.Wk) (a b : Option Addr) (c d : Nat) (h : WkIn lo hi w m a c b d) (hz : hi ≤ w.heap.size) (_h1 : m.gates.length ≤ 1048576) (_h2 : m.pulls.length ≤ 1048576) (lo' hi' : Nat) (wa : Option Addr) (wc : Nat) (plan : List Int) (hw : RowIn lo' hi' w wa (M.encIs plan)) (hz' : hi' ≤ w.heap.size) (hl : plan.length ≤ 1048576) (_u1 : plan.length ≤ wc) (_u2 : wc ≤ 9223372036854775807) (_u3 : ∀ z ∈ plan, -9223372036854775808 ≤ z ∧ z ≤ 9223372036854775807) :
    Calls Try.prog 36 #[.agg #[.int .i64 m.size, .slice a m.gates.length c, .slice b m.pulls.length d], .slice wa plan.length wc] w (fun e w' => e = .returned (.tuple #[.int .i64 (M.endV m plan).1, .int .i64 (M.endV m plan).2, .bool (M.endB m plan)]) ∧ Below w.heap.size w w') := by
  have H := Lib.hid h
  have HW := Lib.hid hw
  clear h hw
  go_enter Try.func36, Try.ntmps36
  go_wp2_with fail
  refine named ?_
  intro W hW
  have hb : Below w.heap.size w W := by rw [hW]; exact below_alloc _ _
  have x1 : Box3 W w.heap.size 28 (.int .i64 m.size) (.slice a m.gates.length c) (.slice b m.pulls.length d) := by rw [hW]; exact Box3.new _ _ _ _ rfl
  clear hW
  have hzw := hb.size
  have HE := Lib.hid (endOfPlan_any W lo hi m a b c d (H.out.below hb hz) (by omega) lo' hi' wa wc plan (HW.out.below hb hz') (by omega) hl)
  refine (HE.out).mono ?_
  rintro e w1 ⟨rfl, hb1⟩
  have HB1 := Lib.hid (hb.trans (hb1.mono hzw))
  have hz1 := hb1.size
  clear hb hb1 x1 HE
  have z1 := Box2.new (w := w1) (g := w1.heap.size) 71 (.int .i64 (M.endV m plan).1) (.int .i64 (M.endV m plan).2) rfl
  obtain ⟨k0, k1⟩ := z1.cells
  have hzl := z1.lt
  clear z1
  go_wp2_with fail
  go_quiet (fail)
  go_wp2_with fail
  go_ret3
  exact ⟨rfl, Below.drawnN (HB1.out.alloc (by omega) _) _⟩
end C
end Go.Proofs.Ytdgfceiobpnchaa
