/-
  CONTRACTS of the model's l8Run, IsPlan, RunPlan; what lay in memory stays. No condition but that the works and the list read so.
-/
import Derived.Test.YtdgfceiobpnchaaActI
import Derived.Test.YtdgfceiobpnchaaRunM
import Derived.Test.YtdgfceiobpnchaaLate
namespace Go.Proofs.Ytdgfceiobpnchaa
open Go.RowKit
namespace C
set_option maxHeartbeats 3200000
set_option maxRecDepth 20000
def RunPost (w : World) (r : Option M.Vs) (e : Ending) (w' : World) : Prop := e = .returned (.tuple #[.int .i64 (r.getD (0, 0)).1, .int .i64 (r.getD (0, 0)).2, .bool r.isSome]) ∧ Below w.heap.size w w'
theorem l8Run_any (w : World) (lo hi : Nat) (m : M.Wk) (a b : Option Addr) (c d : Nat) (h : WkIn lo hi w m a c b d) (hz : hi ≤ w.heap.size) (V : M.worksB m = true) (lo' hi' : Nat) (wa : Option Addr) (wc : Nat) (plan : List Int) (hw : RowIn lo' hi' w wa (M.encIs plan)) (hz' : hi' ≤ w.heap.size) (hl : plan.length ≤ 1048576) :
    Calls Try.prog 78 #[.agg #[.int .i64 m.size, .slice a m.gates.length c, .slice b m.pulls.length d], .slice wa plan.length wc] w (RunPost w (M.endO m plan)) := by
  have H := Lib.hid h
  have HW := Lib.hid hw
  have HV := Lib.hid (M.wv_of V)
  have v12 := HV.out.size12
  have HM := Lib.hid V
  clear h hw V
  by_cases hlen : 60 < plan.length
  · have HN := Lib.hid (M.endO_long (m := m) hlen)
    go_enter Try.func78, Try.ntmps78
    go_wp2_with fail
    go_ret3
    rw [HN.out]
    exact ⟨rfl, below_alloc _ _⟩
  · have hl60 : plan.length ≤ 60 := by omega
    have HEN := Lib.hid (M.endO_on HM.out hl60)
    have hlen2 : ¬ (60 : Int) < (plan.length : Int) := by omega
    clear hlen
    go_enter Try.func78, Try.ntmps78
    go_wp2_with fail
    go_loopw [7, 8, 9] (fun v7 v8 v9 wr => ∃ (k : Nat) (s : M.Vs), k ≤ plan.length ∧ v9 = .int .i64 (k : Int) ∧ v7 = .int .i64 s.1 ∧ v8 = .int .i64 s.2 ∧ M.VsOk m s ∧ M.runO m (0, 0) (plan.take k) = some s ∧ Box3 wr w.heap.size 28 (.int .i64 m.size) (.slice a m.gates.length c) (.slice b m.pulls.length d) ∧ Below w.heap.size w wr) (fun _ _ v9 _ => plan.length - (intOf v9).toNat)
    case atStart => exact ⟨0, (0, 0), Nat.zero_le _, rfl, rfl, rfl, M.vs0_ok HV.out, rfl, Box3.new _ _ _ _ rfl, below_alloc _ _⟩
    case round =>
      obtain ⟨k, s, hk, rfl, rfl, rfl, hso, hrun, hx, hlow⟩ := hrel
      have SO := Lib.hid hso
      have RN := Lib.hid hrun
      have X1 := Lib.hid hx
      have LO := Lib.hid hlow
      have hzr := hlow.size
      have hxl := hx.lt
      clear hso hrun hx hlow
      by_cases hkl : k < plan.length
      · obtain ⟨pb, po, rfl, _, hpb, hpc⟩ := (HW.out.below LO.out hz').at_ (k := k) (by rw [M.encIs_len]; exact hkl)
        have g0 := hpc _ _ (M.encIs_at hkl)
        have hal := M.actsL_len m s
        have HT := Lib.hid (M.runO_take hkl RN.out)
        have HNO := Lib.hid (fun h => M.runO_take_none (m := m) (s := (0, 0)) (l := plan) (k := k + 1) h)
        clear hpc
        generalize plan[k] = act at *
        go_upto_region 7 with fail
        obtain ⟨x0, x1, x2⟩ := X1.out.cells
        have hpw : pb < wr.heap.size := by omega
        refine wp_region_late2 (fun (wq : World) => wq.cell? ⟨w.heap.size, 0, none⟩ = some (.int .i64 m.size) ∧ wq.cell? ⟨w.heap.size, 1, none⟩ = some (.slice a m.gates.length c) ∧ wq.cell? ⟨w.heap.size, 2, none⟩ = some (.slice b m.pulls.length d) ∧ wq.cell? ⟨pb, po + k, none⟩ = some (.int .i64 act)) [] 10 #[false, false, false, false, false, false, false, false, false, false] rfl rfl (by kernel_rfl) ?_
        have hS : (fun (wq : World) => wq.cell? ⟨w.heap.size, 0, none⟩ = some (.int .i64 m.size) ∧ wq.cell? ⟨w.heap.size, 1, none⟩ = some (.slice a m.gates.length c) ∧ wq.cell? ⟨w.heap.size, 2, none⟩ = some (.slice b m.pulls.length d) ∧ wq.cell? ⟨pb, po + k, none⟩ = some (.int .i64 act)) wr.drew := ⟨x0, x1, x2, g0⟩
        refine wpAnyL_take (i := 0) (oi := { dst := some 19, op := Go.Op.load 28 (Go.Operand.tmp 2), type := 28, pos := "l8_levers.go:105", after := #[], guard := none }) (v := ?pv0) rfl (by kernel_rfl) (by kernel_rfl) (by kernel_rfl) (by kernel_rfl) (fun _ _ _ h => h) (Or.inl ⟨by rfl, ?ph0⟩) hS ?pr0
        case ph0 => (intro wS hSw; (try dsimp only at hSw); go_split_ands; go_simp; try with_reducible rfl)
        try simp only [Act.put, List.setIfInBounds_toArray, List.set_cons_zero, List.set_cons_succ]
        refine wpAnyL_take (i := 1) (oi := { dst := some 20, op := Go.Op.move (Go.Operand.tmp 7), type := 3, pos := "l8_levers.go:105", after := #[], guard := none }) (v := ?pv1) rfl (by kernel_rfl) (by kernel_rfl) (by kernel_rfl) (by kernel_rfl) (fun _ _ _ h => h) (Or.inl ⟨by rfl, ?ph1⟩) hS ?pr1
        case ph1 => (intro wS hSw; (try dsimp only at hSw); go_split_ands; go_simp; try with_reducible rfl)
        try simp only [Act.put, List.setIfInBounds_toArray, List.set_cons_zero, List.set_cons_succ]
        refine wpAnyL_take (i := 2) (oi := { dst := some 21, op := Go.Op.move (Go.Operand.tmp 8), type := 3, pos := "l8_levers.go:105", after := #[], guard := none }) (v := ?pv2) rfl (by kernel_rfl) (by kernel_rfl) (by kernel_rfl) (by kernel_rfl) (fun _ _ _ h => h) (Or.inl ⟨by rfl, ?ph2⟩) hS ?pr2
        case ph2 => (intro wS hSw; (try dsimp only at hSw); go_split_ands; go_simp; try with_reducible rfl)
        try simp only [Act.put, List.setIfInBounds_toArray, List.set_cons_zero, List.set_cons_succ]
        refine wpAnyL_take (i := 4) (oi := { dst := some 23, op := Go.Op.move (Go.Operand.tmp 1), type := 23, pos := "l8_levers.go:105", after := #[], guard := none }) (v := ?pv4) rfl (by kernel_rfl) (by kernel_rfl) (by kernel_rfl) (by kernel_rfl) (fun _ _ _ h => h) (Or.inl ⟨by rfl, ?ph4⟩) hS ?pr4
        case ph4 => (intro wS hSw; (try dsimp only at hSw); go_split_ands; go_simp; try with_reducible rfl)
        try simp only [Act.put, List.setIfInBounds_toArray, List.set_cons_zero, List.set_cons_succ]
        refine wpAnyL_take (i := 5) (oi := { dst := some 24, op := Go.Op.move (Go.Operand.tmp 9), type := 3, pos := "l8_levers.go:105", after := #[], guard := none }) (v := ?pv5) rfl (by kernel_rfl) (by kernel_rfl) (by kernel_rfl) (by kernel_rfl) (fun _ _ _ h => h) (Or.inl ⟨by rfl, ?ph5⟩) hS ?pr5
        case ph5 => (intro wS hSw; (try dsimp only at hSw); go_split_ands; go_simp; try with_reducible rfl)
        try simp only [Act.put, List.setIfInBounds_toArray, List.set_cons_zero, List.set_cons_succ]
        refine wpAnyL_take (i := 6) (oi := { dst := some 25, op := Go.Op.indexAddr 23 (Go.Operand.tmp 23) (Go.Operand.tmp 24), type := 0, pos := "l8_levers.go:105", after := #[{ on := 4, ground := Go.Ground.data }, { on := 5, ground := Go.Ground.data }], guard := none }) (v := ?pv6) rfl (by kernel_rfl) (by kernel_rfl) (by kernel_rfl) (by kernel_rfl) (fun _ _ _ h => h) (Or.inl ⟨by rfl, ?ph6⟩) hS ?pr6
        case ph6 => (intro wS hSw; (try dsimp only at hSw); go_split_ands; go_simp; try with_reducible rfl)
        try simp only [Act.put, List.setIfInBounds_toArray, List.set_cons_zero, List.set_cons_succ]
        refine wpAnyL_take (i := 7) (oi := { dst := some 26, op := Go.Op.load 3 (Go.Operand.tmp 25), type := 3, pos := "l8_levers.go:105", after := #[{ on := 6, ground := Go.Ground.data }], guard := none }) (v := ?pv7) rfl (by kernel_rfl) (by kernel_rfl) (by kernel_rfl) (by kernel_rfl) (fun _ _ _ h => h) (Or.inl ⟨by rfl, ?ph7⟩) hS ?pr7
        case ph7 => (intro wS hSw; (try dsimp only at hSw); go_split_ands; go_simp; try with_reducible rfl)
        try simp only [Act.put, List.setIfInBounds_toArray, List.set_cons_zero, List.set_cons_succ]
        refine wpAnyL_one (i := 3) (oi := { dst := some 22, op := Go.Op.call { callee := Go.Callee.value (Go.Operand.func 71), args := #[Go.Operand.tmp 19, Go.Operand.tmp 20, Go.Operand.tmp 21], argTypes := #[28, 3, 3] }, type := 23, pos := "l8_levers.go:105", after := #[{ on := 0, ground := Go.Ground.data }, { on := 1, ground := Go.Ground.data }, { on := 2, ground := Go.Ground.data }], guard := none }) (by kernel_rfl) rfl (fun Kp3 hKp3 => ?_)
        refine step_call (by rfl) 71 #[.agg #[.int .i64 m.size, .slice a m.gates.length c, .slice b m.pulls.length d], .int .i64 s.1, .int .i64 s.2] (by go_simp; try rfl) (l8Acts_any wr.drew lo hi m a b c d (H.out.below (Below.drawnN LO.out 1) hz) (by show hi ≤ wr.heap.size; omega) HV.out s SO.out) ?_
        rintro e w2 ⟨ra, rc, rfl, ho, hq1, hq2, hb2⟩
        refine ⟨_, rfl, ?_⟩
        have hbAx : Below wr.heap.size wr w2 := (Below.refl wr.heap.size wr).drew.trans hb2
        have hSA : (fun (wq : World) => wq.cell? ⟨w.heap.size, 0, none⟩ = some (.int .i64 m.size) ∧ wq.cell? ⟨w.heap.size, 1, none⟩ = some (.slice a m.gates.length c) ∧ wq.cell? ⟨w.heap.size, 2, none⟩ = some (.slice b m.pulls.length d) ∧ wq.cell? ⟨pb, po + k, none⟩ = some (.int .i64 act)) w2 := ⟨(X1.out.below hbAx).cells.1, (X1.out.below hbAx).cells.2.1, (X1.out.below hbAx).cells.2.2, (hbAx.cell (p := ⟨pb, po + k, none⟩) hpw).trans g0⟩
        have HCO := Lib.hid (l1Has_any w2 _ _ ra rc _ act ho.row (by omega))
        refine hKp3 _ _ (fun _ => hSA) ?_
        clear hS
        have hS := hSA
        try simp only [Act.put, List.setIfInBounds_toArray, List.set_cons_zero, List.set_cons_succ]
        refine wpAnyL_one (i := 8) (oi := { dst := some 27, op := Go.Op.call { callee := Go.Callee.value (Go.Operand.func 75), args := #[Go.Operand.tmp 22, Go.Operand.tmp 26], argTypes := #[23, 3] }, type := 4, pos := "l8_levers.go:105", after := #[{ on := 3, ground := Go.Ground.data }, { on := 7, ground := Go.Ground.data }, { on := 3, ground := Go.Ground.chain }], guard := none }) (by kernel_rfl) rfl (fun Kp8 hKp8 => ?_)
        refine step_call (by rfl) 75 #[.slice ra (M.actsL m s).length rc, .int .i64 act] (by go_simp; try rfl) (HCO.out) ?_
        rintro e w3 ⟨rfl, rfl⟩
        refine ⟨_, rfl, ?_⟩
        have hSB := hSA
        refine hKp8 _ _ (fun _ => hSB) ?_
        clear hS
        have hS := hSB
        try simp only [Act.put, List.setIfInBounds_toArray, List.set_cons_zero, List.set_cons_succ]
        refine wpAnyL_take (i := 9) (oi := { dst := some 28, op := Go.Op.unOp Go.UnOp.not 4 (Go.Operand.tmp 27), type := 4, pos := "l8_levers.go:105", after := #[{ on := 8, ground := Go.Ground.data }], guard := none }) (v := ?pv9) rfl (by kernel_rfl) (by kernel_rfl) (by kernel_rfl) (by kernel_rfl) (fun _ _ _ h => h) (Or.inl ⟨by rfl, ?ph9⟩) hS ?pr9
        case ph9 => (intro wS hSw; (try dsimp only at hSw); go_split_ands; go_simp; try with_reducible rfl)
        try simp only [Act.put, List.setIfInBounds_toArray, List.set_cons_zero, List.set_cons_succ]
        refine wpAnyL_done (by kernel_rfl) ?_ _
        have X2 := Lib.hid (X1.out.below hbAx)
        have LO2 := Lib.hid (LO.out.trans (hbAx.mono hzr))
        have hz2 := hbAx.size
        have g2 := hSA.2.2.2
        have HCK := Lib.hid g2
        clear hb2 ho hq1 hq2 hS hSA hSB x0 x1 x2 g0
        cases qm : M.memB (M.actsL m s) act with
        | false =>
          have HN2 : Hid (M.endO m plan = none) := Lib.hid (by rw [HEN.out]; exact HNO.out (by rw [HT.out, qm]; rfl))
          clear qm
          go_wp2_with fail
          go_ret3
          rw [HN2.out]
          exact ⟨rfl, LO2.out⟩
        | true =>
          have HT2 : Hid (M.runO m (0, 0) (plan.take (k + 1)) = some (M.doA m s act)) := Lib.hid (by rw [HT.out, qm]; rfl)
          obtain ⟨hact, hact1⟩ := M.actsL_rng HV.out (M.memB_true qm)
          have HOK := Lib.hid (M.doA_ok HV.out SO.out (M.memB_true qm))
          have hact2 : act < 9223372036854775807 := by omega
          clear qm
          go_upto_region 9 with fail
          obtain ⟨x0, x1, x2⟩ := X2.out.cells
          refine wp_region_late2 (fun (wq : World) => wq.cell? ⟨w.heap.size, 0, none⟩ = some (.int .i64 m.size) ∧ wq.cell? ⟨w.heap.size, 1, none⟩ = some (.slice a m.gates.length c) ∧ wq.cell? ⟨w.heap.size, 2, none⟩ = some (.slice b m.pulls.length d) ∧ wq.cell? ⟨pb, po + k, none⟩ = some (.int .i64 act)) [] 13 #[false, false, false, false, false, false, false, false, false, false, false, false, false] rfl rfl (by kernel_rfl) ?_
          have hS : (fun (wq : World) => wq.cell? ⟨w.heap.size, 0, none⟩ = some (.int .i64 m.size) ∧ wq.cell? ⟨w.heap.size, 1, none⟩ = some (.slice a m.gates.length c) ∧ wq.cell? ⟨w.heap.size, 2, none⟩ = some (.slice b m.pulls.length d) ∧ wq.cell? ⟨pb, po + k, none⟩ = some (.int .i64 act)) w2.drew := ⟨x0, x1, x2, g2⟩
          refine wpAnyL_take (i := 0) (oi := { dst := some 30, op := Go.Op.load 28 (Go.Operand.tmp 2), type := 28, pos := "l8_levers.go:108", after := #[], guard := none }) (v := ?qv0) rfl (by kernel_rfl) (by kernel_rfl) (by kernel_rfl) (by kernel_rfl) (fun _ _ _ h => h) (Or.inl ⟨by rfl, ?qh0⟩) hS ?qr0
          case qh0 => (intro wS hSw; (try dsimp only at hSw); go_split_ands; go_simp; try with_reducible rfl)
          try simp only [Act.put, List.setIfInBounds_toArray, List.set_cons_zero, List.set_cons_succ]
          refine wpAnyL_take (i := 1) (oi := { dst := some 31, op := Go.Op.move (Go.Operand.tmp 7), type := 3, pos := "l8_levers.go:108", after := #[], guard := none }) (v := ?qv1) rfl (by kernel_rfl) (by kernel_rfl) (by kernel_rfl) (by kernel_rfl) (fun _ _ _ h => h) (Or.inl ⟨by rfl, ?qh1⟩) hS ?qr1
          case qh1 => (intro wS hSw; (try dsimp only at hSw); go_split_ands; go_simp; try with_reducible rfl)
          try simp only [Act.put, List.setIfInBounds_toArray, List.set_cons_zero, List.set_cons_succ]
          refine wpAnyL_take (i := 2) (oi := { dst := some 32, op := Go.Op.move (Go.Operand.tmp 8), type := 3, pos := "l8_levers.go:108", after := #[], guard := none }) (v := ?qv2) rfl (by kernel_rfl) (by kernel_rfl) (by kernel_rfl) (by kernel_rfl) (fun _ _ _ h => h) (Or.inl ⟨by rfl, ?qh2⟩) hS ?qr2
          case qh2 => (intro wS hSw; (try dsimp only at hSw); go_split_ands; go_simp; try with_reducible rfl)
          try simp only [Act.put, List.setIfInBounds_toArray, List.set_cons_zero, List.set_cons_succ]
          refine wpAnyL_take (i := 3) (oi := { dst := some 33, op := Go.Op.move (Go.Operand.tmp 1), type := 23, pos := "l8_levers.go:108", after := #[], guard := none }) (v := ?qv3) rfl (by kernel_rfl) (by kernel_rfl) (by kernel_rfl) (by kernel_rfl) (fun _ _ _ h => h) (Or.inl ⟨by rfl, ?qh3⟩) hS ?qr3
          case qh3 => (intro wS hSw; (try dsimp only at hSw); go_split_ands; go_simp; try with_reducible rfl)
          try simp only [Act.put, List.setIfInBounds_toArray, List.set_cons_zero, List.set_cons_succ]
          refine wpAnyL_take (i := 4) (oi := { dst := some 34, op := Go.Op.move (Go.Operand.tmp 9), type := 3, pos := "l8_levers.go:108", after := #[], guard := none }) (v := ?qv4) rfl (by kernel_rfl) (by kernel_rfl) (by kernel_rfl) (by kernel_rfl) (fun _ _ _ h => h) (Or.inl ⟨by rfl, ?qh4⟩) hS ?qr4
          case qh4 => (intro wS hSw; (try dsimp only at hSw); go_split_ands; go_simp; try with_reducible rfl)
          try simp only [Act.put, List.setIfInBounds_toArray, List.set_cons_zero, List.set_cons_succ]
          refine wpAnyL_take (i := 5) (oi := { dst := some 35, op := Go.Op.indexAddr 23 (Go.Operand.tmp 33) (Go.Operand.tmp 34), type := 0, pos := "l8_levers.go:108", after := #[{ on := 3, ground := Go.Ground.data }, { on := 4, ground := Go.Ground.data }], guard := none }) (v := ?qv5) rfl (by kernel_rfl) (by kernel_rfl) (by kernel_rfl) (by kernel_rfl) (fun _ _ _ h => h) (Or.inl ⟨by rfl, ?qh5⟩) hS ?qr5
          case qh5 => (intro wS hSw; (try dsimp only at hSw); go_split_ands; go_simp; try with_reducible rfl)
          try simp only [Act.put, List.setIfInBounds_toArray, List.set_cons_zero, List.set_cons_succ]
          refine wpAnyL_take (i := 6) (oi := { dst := some 36, op := Go.Op.load 3 (Go.Operand.tmp 35), type := 3, pos := "l8_levers.go:108", after := #[{ on := 5, ground := Go.Ground.data }], guard := none }) (v := ?qv6) rfl (by kernel_rfl) (by kernel_rfl) (by kernel_rfl) (by kernel_rfl) (fun _ _ _ h => h) (Or.inl ⟨by rfl, ?qh6⟩) hS ?qr6
          case qh6 => (intro wS hSw; (try dsimp only at hSw); go_split_ands; go_simp; try with_reducible rfl)
          try simp only [Act.put, List.setIfInBounds_toArray, List.set_cons_zero, List.set_cons_succ]
          refine wpAnyL_one (i := 7) (oi := { dst := some 37, op := Go.Op.call { callee := Go.Callee.value (Go.Operand.func 76), args := #[Go.Operand.tmp 30, Go.Operand.tmp 31, Go.Operand.tmp 32, Go.Operand.tmp 36], argTypes := #[28, 3, 3, 3] }, type := 75, pos := "l8_levers.go:108", after := #[{ on := 0, ground := Go.Ground.data }, { on := 1, ground := Go.Ground.data }, { on := 2, ground := Go.Ground.data }, { on := 6, ground := Go.Ground.data }], guard := none }) (by kernel_rfl) rfl (fun Kq7 hKq7 => ?_)
          refine step_call (by rfl) 76 #[.agg #[.int .i64 m.size, .slice a m.gates.length c, .slice b m.pulls.length d], .int .i64 s.1, .int .i64 s.2, .int .i64 act] (by go_simp; try rfl) (l8Do_any w2.drew lo hi m a b c d (H.out.below (Below.drawnN LO2.out 1) hz) (by show hi ≤ w2.heap.size; omega) HV.out s SO.out act hact hact2) ?_
          rintro e w5 ⟨rfl, hb5⟩
          refine ⟨_, rfl, ?_⟩
          have hb5x : Below w2.heap.size w2 w5 := (Below.refl w2.heap.size w2).drew.trans hb5
          have hS5 : (fun (wq : World) => wq.cell? ⟨w.heap.size, 0, none⟩ = some (.int .i64 m.size) ∧ wq.cell? ⟨w.heap.size, 1, none⟩ = some (.slice a m.gates.length c) ∧ wq.cell? ⟨w.heap.size, 2, none⟩ = some (.slice b m.pulls.length d) ∧ wq.cell? ⟨pb, po + k, none⟩ = some (.int .i64 act)) w5 := ⟨(X2.out.below hb5x).cells.1, (X2.out.below hb5x).cells.2.1, (X2.out.below hb5x).cells.2.2, (hb5x.cell (p := ⟨pb, po + k, none⟩) (show pb < _ by omega)).trans g2⟩
          refine hKq7 _ _ (fun _ => hS5) ?_
          clear hS
          have hS := hS5
          try simp only [Act.put, List.setIfInBounds_toArray, List.set_cons_zero, List.set_cons_succ]
          refine wpAnyL_take (i := 8) (oi := { dst := some 29, op := Go.Op.move (Go.Operand.tmp 37), type := 75, pos := "l8_levers.go:108", after := #[{ on := 7, ground := Go.Ground.data }], guard := none }) (v := ?qv8) rfl (by kernel_rfl) (by kernel_rfl) (by kernel_rfl) (by kernel_rfl) (fun _ _ _ h => h) (Or.inl ⟨by rfl, ?qh8⟩) hS ?qr8
          case qh8 => (intro wS hSw; (try dsimp only at hSw); go_split_ands; go_simp; try with_reducible rfl)
          try simp only [Act.put, List.setIfInBounds_toArray, List.set_cons_zero, List.set_cons_succ]
          refine wpAnyL_take (i := 9) (oi := { dst := some 38, op := Go.Op.extract (Go.Operand.tmp 29) 0, type := 3, pos := "l8_levers.go:108", after := #[{ on := 8, ground := Go.Ground.data }], guard := none }) (v := ?qv9) rfl (by kernel_rfl) (by kernel_rfl) (by kernel_rfl) (by kernel_rfl) (fun _ _ _ h => h) (Or.inl ⟨by rfl, ?qh9⟩) hS ?qr9
          case qh9 => (intro wS hSw; (try dsimp only at hSw); go_split_ands; go_simp; try with_reducible rfl)
          try simp only [Act.put, List.setIfInBounds_toArray, List.set_cons_zero, List.set_cons_succ]
          refine wpAnyL_take (i := 10) (oi := { dst := some 39, op := Go.Op.extract (Go.Operand.tmp 29) 1, type := 3, pos := "l8_levers.go:108", after := #[{ on := 8, ground := Go.Ground.data }, { on := 11, ground := Go.Ground.gcOnly Go.Departure.lateStores }], guard := none }) (v := ?qv10) rfl (by kernel_rfl) (by kernel_rfl) (by kernel_rfl) (by kernel_rfl) (fun _ _ _ h => h) (Or.inl ⟨by rfl, ?qh10⟩) hS ?qr10
          case qh10 => (intro wS hSw; (try dsimp only at hSw); go_split_ands; go_simp; try with_reducible rfl)
          try simp only [Act.put, List.setIfInBounds_toArray, List.set_cons_zero, List.set_cons_succ]
          refine wpAnyL_take (i := 11) (oi := { dst := some 7, op := Go.Op.assign (Go.Operand.tmp 38), type := 3, pos := "l8_levers.go:108", after := #[{ on := 9, ground := Go.Ground.data }, { on := 7, ground := Go.Ground.chain }, { on := 0, ground := Go.Ground.phase }, { on := 1, ground := Go.Ground.phase }, { on := 2, ground := Go.Ground.phase }, { on := 3, ground := Go.Ground.phase }, { on := 4, ground := Go.Ground.phase }, { on := 5, ground := Go.Ground.phase }, { on := 6, ground := Go.Ground.phase }, { on := 7, ground := Go.Ground.phase }, { on := 8, ground := Go.Ground.phase }, { on := 9, ground := Go.Ground.phase }, { on := 10, ground := Go.Ground.textOnly Go.Departure.lateStores }], guard := none }) (v := ?qv11) rfl (by kernel_rfl) (by kernel_rfl) (by kernel_rfl) (by kernel_rfl) (fun _ _ _ h => h) (Or.inl ⟨by rfl, ?qh11⟩) hS ?qr11
          case qh11 => (intro wS hSw; (try dsimp only at hSw); go_split_ands; go_simp; try with_reducible rfl)
          try simp only [Act.put, List.setIfInBounds_toArray, List.set_cons_zero, List.set_cons_succ]
          refine wpAnyL_take (i := 12) (oi := { dst := some 8, op := Go.Op.assign (Go.Operand.tmp 39), type := 3, pos := "l8_levers.go:108", after := #[{ on := 10, ground := Go.Ground.data }, { on := 11, ground := Go.Ground.chain }, { on := 0, ground := Go.Ground.phase }, { on := 1, ground := Go.Ground.phase }, { on := 2, ground := Go.Ground.phase }, { on := 3, ground := Go.Ground.phase }, { on := 4, ground := Go.Ground.phase }, { on := 5, ground := Go.Ground.phase }, { on := 6, ground := Go.Ground.phase }, { on := 7, ground := Go.Ground.phase }, { on := 8, ground := Go.Ground.phase }, { on := 9, ground := Go.Ground.phase }, { on := 10, ground := Go.Ground.phase }, { on := 11, ground := Go.Ground.phase }], guard := none }) (v := ?qv12) rfl (by kernel_rfl) (by kernel_rfl) (by kernel_rfl) (by kernel_rfl) (fun _ _ _ h => h) (Or.inl ⟨by rfl, ?qh12⟩) hS ?qr12
          case qh12 => (intro wS hSw; (try dsimp only at hSw); go_split_ands; go_simp; try with_reducible rfl)
          try simp only [Act.put, List.setIfInBounds_toArray, List.set_cons_zero, List.set_cons_succ]
          refine wpAnyL_done (by kernel_rfl) ?_ _
          have X5 := Lib.hid (X2.out.below hb5x)
          have LO5 := Lib.hid (LO2.out.trans (hb5x.mono (by omega)))
          clear hb5 hS hS5 x0 x1 x2 g2
          go_wp2_with fail
          go_roundw
          case rel => exact ⟨k + 1, M.doA m s act, by omega, by go_num, rfl, rfl, HOK.out, HT2.out, X5.out, LO5.out⟩
          case measure => simp [intOf]; omega
      · obtain rfl : k = plan.length := by omega
        have HF : Hid (M.endO m plan = some s) := Lib.hid (by rw [HEN.out, ← RN.out, List.take_length])
        go_wp2_with fail
        go_ret3
        rw [HF.out]
        exact ⟨rfl, LO.out⟩
theorem specIsPlan_lw (w : World) (lo hi : Nat) (m : M.Wk) (a b : Option Addr) (c d : Nat) (h : WkIn lo hi w m a c b d) (hz : hi ≤ w.heap.size) (_h1 : m.gates.length ≤ 1048576) (_h2 : m.pulls.length ≤ 1048576) (lo' hi' : Nat) (wa : Option Addr) (wc : Nat) (plan : List Int) (hw : RowIn lo' hi' w wa (M.encIs plan)) (hz' : hi' ≤ w.heap.size) (hl : plan.length ≤ 1048576) (_u1 : plan.length ≤ wc) (_u2 : wc ≤ 9223372036854775807) (_u3 : ∀ z ∈ plan, -9223372036854775808 ≤ z ∧ z ≤ 9223372036854775807) :
    Calls Try.prog 32 #[.agg #[.int .i64 m.size, .slice a m.gates.length c, .slice b m.pulls.length d], .slice wa plan.length wc] w (fun e w' => e = .returned (.tuple #[.bool (M.endB m plan), .bool (M.worksB m)]) ∧ Below w.heap.size w w') := by
  obtain ⟨ii0, hi0, hz0, hzz1, hz2⟩ := info_parts infoI
  have H := Lib.hid h
  have hc1 := h.c1
  have hc2 := h.c2
  have hd1 := h.d1
  have hd2 := h.d2
  clear h
  have HW := Lib.hid hw
  clear hw
  go_enter Try.func32, Try.ntmps32
  go_wp2_with fail
  refine named ?_
  intro W hW
  have hb : Below w.heap.size w W := by rw [hW]; exact below_alloc _ _
  have x1 : Box3 W w.heap.size 28 (.int .i64 m.size) (.slice a m.gates.length c) (.slice b m.pulls.length d) := by rw [hW]; exact Box3.new _ _ _ _ rfl
  clear hW
  have hzw := hb.size
  refine (specWorks_any W lo hi m a b c d (H.out.below hb hz) (by omega)).mono ?_
  rintro e w1 ⟨rfl, hb1⟩
  have X1 := Lib.hid (x1.below hb1)
  have HB1 := Lib.hid (hb.trans (hb1.mono hzw))
  have hz1 := hb1.size
  have hxl1 := X1.out.lt
  clear hb hb1 x1
  obtain ⟨c0, c1, c2⟩ := X1.out.cells
  cases q0 : M.worksB m with
  | false =>
    have HM := Lib.hid q0
    clear q0
    go_wp2_with fail
    go_ret2
    have HE := M.end_none (M.endO_off HM.out plan)
    rw [HE.2, HM.out]
    exact ⟨rfl, HB1.out⟩
  | true =>
    have HM := Lib.hid q0
    have HV := Lib.hid (M.wv_of q0)
    clear q0
    have HR := Lib.hid (l8Run_any w1 lo hi m a b c d (H.out.below HB1.out hz) (by omega) HM.out lo' hi' wa wc plan (HW.out.below HB1.out hz') (by omega) hl)
    go_wp2_with fail
    refine (HR.out).mono ?_
    rintro e w2 ⟨rfl, hb2⟩
    have HB2 := Lib.hid (HB1.out.trans (hb2.mono (by omega)))
    clear hb2
    go_wp2_with fail
    go_ret2
    exact ⟨by rw [HM.out]; rfl, HB2.out⟩
theorem specRunPlan_lw (w : World) (lo hi : Nat) (m : M.Wk) (a b : Option Addr) (c d : Nat) (h : WkIn lo hi w m a c b d) (hz : hi ≤ w.heap.size) (_h1 : m.gates.length ≤ 1048576) (_h2 : m.pulls.length ≤ 1048576) (lo' hi' : Nat) (wa : Option Addr) (wc : Nat) (plan : List Int) (hw : RowIn lo' hi' w wa (M.encIs plan)) (hz' : hi' ≤ w.heap.size) (hl : plan.length ≤ 1048576) (_u1 : plan.length ≤ wc) (_u2 : wc ≤ 9223372036854775807) (_u3 : ∀ z ∈ plan, -9223372036854775808 ≤ z ∧ z ≤ 9223372036854775807) :
    Calls Try.prog 35 #[.agg #[.int .i64 m.size, .slice a m.gates.length c, .slice b m.pulls.length d], .slice wa plan.length wc] w (fun e w' => e = .returned (.tuple #[.int .i64 (M.endV m plan).1, .int .i64 (M.endV m plan).2, .bool (M.endB m plan)]) ∧ Below w.heap.size w w') := by
  obtain ⟨ii0, hi0, hz0, hzz1, hz2⟩ := info_parts infoI
  have H := Lib.hid h
  have hc1 := h.c1
  have hc2 := h.c2
  have hd1 := h.d1
  have hd2 := h.d2
  clear h
  have HW := Lib.hid hw
  clear hw
  go_enter Try.func35, Try.ntmps35
  go_wp2_with fail
  refine named ?_
  intro W hW
  have hb : Below w.heap.size w W := by rw [hW]; exact below_alloc _ _
  have x1 : Box3 W w.heap.size 28 (.int .i64 m.size) (.slice a m.gates.length c) (.slice b m.pulls.length d) := by rw [hW]; exact Box3.new _ _ _ _ rfl
  clear hW
  have hzw := hb.size
  refine (specWorks_any W lo hi m a b c d (H.out.below hb hz) (by omega)).mono ?_
  rintro e w1 ⟨rfl, hb1⟩
  have X1 := Lib.hid (x1.below hb1)
  have HB1 := Lib.hid (hb.trans (hb1.mono hzw))
  have hz1 := hb1.size
  have hxl1 := X1.out.lt
  clear hb hb1 x1
  obtain ⟨c0, c1, c2⟩ := X1.out.cells
  cases q0 : M.worksB m with
  | false =>
    have HM := Lib.hid q0
    clear q0
    go_wp2_with fail
    go_ret3
    have HE := M.end_none (M.endO_off HM.out plan)
    rw [HE.1, HE.2]
    exact ⟨rfl, HB1.out⟩
  | true =>
    have HM := Lib.hid q0
    have HV := Lib.hid (M.wv_of q0)
    clear q0
    have HR := Lib.hid (l8Run_any w1 lo hi m a b c d (H.out.below HB1.out hz) (by omega) HM.out lo' hi' wa wc plan (HW.out.below HB1.out hz') (by omega) hl)
    go_wp2_with fail
    refine (HR.out).mono ?_
    rintro e w2 ⟨rfl, hb2⟩
    have HB2 := Lib.hid (HB1.out.trans (hb2.mono (by omega)))
    clear hb2
    go_wp2_with fail
    go_ret3
    exact ⟨rfl, HB2.out⟩
end C
end Go.Proofs.Ytdgfceiobpnchaa
