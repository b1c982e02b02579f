/-
  CONTRACT of the model's DetourOf; what lay in memory stays. No condition but that the maze reads so.
-/
import Derived.Test.YtbpinhfjfjfbdaaSpX
import Derived.Test.YtbpinhfjfjfbdaaWayMono
namespace Go.Proofs.Ytbpinhfjfjfbdaa
open Go.RowKit
namespace M
theorem det_eq {m : Mz} (V : Valid m) {n : Nat} (h : fwO m 0 = some n) : ∃ v : Nat, wayO m (0, 63) (wonB m) = some v ∧ detV m = wrap64 ((n : Int) - (v : Int)) := by
  obtain ⟨v, hv⟩ := win63 V h
  refine ⟨v, hv, ?_⟩
  have hf : ffO m 0 63 = some v := by
    unfold ffO
    rw [of_valid V, stAt63 V, hv]
    have h1 : nodeB m.size 0 = true := by unfold nodeB; exact decide_eq_true ⟨by decide, by have := V.size1; omega⟩
    have h2 : setB 63 = true := by decide
    rw [h1, h2]
    rfl
  unfold detV
  rw [h, hf]
  rfl
theorem det_none {m : Mz} (h : fwO m 0 = none) : detV m = 0 := by unfold detV; rw [h]
theorem valid_fw {m : Mz} {n : Nat} (h : fwO m 0 = some n) : mazeB m = true := by
  unfold fwO at h
  cases q : mazeB m with
  | true => rfl
  | false => rw [q] at h; cases h
theorem leastB_won {m : Mz} {t : St} (h : StOk m t) : leastB (m.size - 1) 0 6 t = wonB m t := by
  rw [leastB_keys h]
  unfold keysP
  rw [decide_eq_true (many_le h.2.2.1 h.2.2.2).2, Bool.and_true]
theorem wrap_same (x : Int) : IntKind.i64.wrap x = wrap64 x := by rw [IntKind.wrap_i64]; unfold wrap64; omega
end M
namespace C
set_option maxHeartbeats 3200000
set_option maxRecDepth 20000
theorem specDet_lw (w : World) (lo hi : Nat) (m : M.Mz) (a b : Option Addr) (c d : Nat) (h : MzIn lo hi w m a c b d) (hz : hi ≤ w.heap.size) (h1 : m.doors.length ≤ 1048576) (h2 : m.keys.length ≤ 1048576) :
    Calls Try.prog 45 #[.agg #[.int .i64 m.size, .slice a m.doors.length c, .slice b m.keys.length d]] w (fun e w' => e = .returned (.tuple #[.int .i64 (M.detV m), .bool (M.fwO m 0).isSome]) ∧ Below w.heap.size w w') := by
  have H := Lib.hid h
  clear h
  go_enter Try.func45, Try.ntmps45
  go_wp2_with fail
  refine named ?_
  intro W hW
  have hb : Below w.heap.size w W := by rw [hW]; exact below_alloc _ _
  have x1 : Box3 W w.heap.size 29 (.int .i64 m.size) (.slice a m.doors.length c) (.slice b m.keys.length d) := by rw [hW]; exact Box3.new _ _ _ _ rfl
  clear hW
  refine (specFewS_lw W lo hi m a b c d (H.out.below hb hz) (Nat.le_trans hz hb.size) h1 h2).mono ?_
  rintro e w1 ⟨rfl, hb1⟩
  have X1 := Lib.hid (x1.below hb1)
  have HB1 := Lib.hid (hb.trans (hb1.mono hb.size))
  clear hb hb1 x1
  cases q : M.fwO m 0 with
  | none =>
    have HV := Lib.hid (M.det_none q)
    have HQ := Lib.hid q
    clear q
    go_wp2_with fail
    go_ret2
    rw [HV.out, HQ.out]
    exact ⟨rfl, HB1.out⟩
  | some n =>
    have HVA := Lib.hid (M.valid_of (M.valid_fw q))
    obtain ⟨v, hv, hd⟩ := M.det_eq HVA.out q
    have HQ := Lib.hid q
    have HD := Lib.hid hd
    have v1 := HVA.out.size1
    have v12 := HVA.out.size12
    have HOK : Hid (M.StOk m (0, 63)) := Lib.hid ⟨by decide, by show (0 : Int) < m.size; omega, by decide, by decide⟩
    have HW : Hid (M.minO (fun t => M.leastB (m.size - 1) 0 6 t = true) (M.dst (M.nexts m) [((0 : Int), (63 : Int))]) = some v) := Lib.hid (by
      rw [M.way_same HVA.out HOK.out (q := M.wonB m) fun t ht => M.leastB_won ht]
      exact hv)
    have hws : IntKind.i64.wrap (m.size - 1) = m.size - 1 := IntWalk.i64_in _ (by omega)
    have CS := Lib.hid (show Calls Try.prog 84 #[.agg #[.int .i64 m.size, .slice a m.doors.length c, .slice b m.keys.length d], .int .i64 0, .int .i64 63] w1.drew (TblPost w1.drew m (M.dst (M.nexts m) [((0 : Int), (63 : Int))])) from spreadT_any w1.drew lo hi m a b c d (H.out.below (Below.drawnN HB1.out 1) hz) (by have := HB1.out.size; show hi ≤ w1.heap.size; omega) HVA.out (0, 63) HOK.out)
    have HON : Hid (M.optI (some v) = (v : Int)) := Lib.hid rfl
    have HWS := Lib.hid (M.wrap_same ((n : Int) - (v : Int)))
    clear q hv hd
    go_wp2_with fail
    refine wp_region_late2 (fun (wq : World) => wq.cell? ⟨w.heap.size, 0, none⟩ = some (.int .i64 m.size) ∧ wq.cell? ⟨w.heap.size, 1, none⟩ = some (.slice a m.doors.length c) ∧ wq.cell? ⟨w.heap.size, 2, none⟩ = some (.slice b m.keys.length d)) [] 10 #[false, false, false, false, false, false, false, false, false, false] rfl rfl (by kernel_rfl) ?_
    have hS : (fun (wq : World) => wq.cell? ⟨w.heap.size, 0, none⟩ = some (.int .i64 m.size) ∧ wq.cell? ⟨w.heap.size, 1, none⟩ = some (.slice a m.doors.length c) ∧ wq.cell? ⟨w.heap.size, 2, none⟩ = some (.slice b m.keys.length d)) w1.drew := X1.out.cells
    refine wpAnyL_take (i := 0) (oi := { dst := some 13, op := Go.Op.move (Go.Operand.tmp 4), type := 3, pos := "l4_ways.go:226", after := #[], guard := none }) (v := ?qv0) rfl (by kernel_rfl) (by kernel_rfl) (by kernel_rfl) (by kernel_rfl) (fun _ _ _ h => h) (Or.inl ⟨by rfl, ?qh0⟩) hS ?qr0
    case qh0 => (intro wS hSw; (try dsimp only at hSw); go_split_ands; go_simp; try with_reducible rfl)
    try simp only [Act.put, List.setIfInBounds_toArray, List.set_cons_zero, List.set_cons_succ]
    refine wpAnyL_take (i := 1) (oi := { dst := some 14, op := Go.Op.load 29 (Go.Operand.tmp 1), type := 29, pos := "l4_ways.go:226", after := #[], guard := none }) (v := ?qv1) rfl (by kernel_rfl) (by kernel_rfl) (by kernel_rfl) (by kernel_rfl) (fun _ _ _ h => h) (Or.inl ⟨by rfl, ?qh1⟩) hS ?qr1
    case qh1 => (intro wS hSw; (try dsimp only at hSw); go_split_ands; go_simp; try with_reducible rfl)
    try simp only [Act.put, List.setIfInBounds_toArray, List.set_cons_zero, List.set_cons_succ]
    refine wpAnyL_take (i := 3) (oi := { dst := some 16, op := Go.Op.fieldAddr 29 (Go.Operand.tmp 1) 0, type := 0, pos := "l4_ways.go:226", after := #[], guard := none }) (v := ?qv3) rfl (by kernel_rfl) (by kernel_rfl) (by kernel_rfl) (by kernel_rfl) (fun _ _ _ h => h) (Or.inl ⟨by rfl, ?qh3⟩) hS ?qr3
    case qh3 => (intro wS hSw; (try dsimp only at hSw); go_split_ands; go_simp; try with_reducible rfl)
    try simp only [Act.put, List.setIfInBounds_toArray, List.set_cons_zero, List.set_cons_succ]
    refine wpAnyL_take (i := 4) (oi := { dst := some 17, op := Go.Op.load 3 (Go.Operand.tmp 16), type := 3, pos := "l4_ways.go:226", after := #[{ on := 3, ground := Go.Ground.data }], guard := none }) (v := ?qv4) rfl (by kernel_rfl) (by kernel_rfl) (by kernel_rfl) (by kernel_rfl) (fun _ _ _ h => h) (Or.inl ⟨by rfl, ?qh4⟩) hS ?qr4
    case qh4 => (intro wS hSw; (try dsimp only at hSw); go_split_ands; go_simp; try with_reducible rfl)
    try simp only [Act.put, List.setIfInBounds_toArray, List.set_cons_zero, List.set_cons_succ]
    refine wpAnyL_take (i := 5) (oi := { dst := some 18, op := Go.Op.binOp Go.BinOp.sub 3 (Go.Operand.tmp 17) (Go.Operand.const (Go.Value.int Go.IntKind.i64 1)) 3, type := 3, pos := "l4_ways.go:226", after := #[{ on := 4, ground := Go.Ground.data }], guard := none }) (v := ?qv5) rfl (by kernel_rfl) (by kernel_rfl) (by kernel_rfl) (by kernel_rfl) (fun _ _ _ h => h) (Or.inl ⟨by rfl, ?qh5⟩) hS ?qr5
    case qh5 => (intro wS hSw; (try dsimp only at hSw); go_split_ands; go_simp; try with_reducible rfl)
    try simp only [Act.put, List.setIfInBounds_toArray, List.set_cons_zero, List.set_cons_succ]
    refine wpAnyL_one (i := 2) (oi := { dst := some 15, op := Go.Op.call { callee := Go.Callee.value (Go.Operand.func 84), args := #[Go.Operand.tmp 14, Go.Operand.const (Go.Value.int Go.IntKind.i64 0), Go.Operand.const (Go.Value.int Go.IntKind.i64 63)], argTypes := #[29, 3, 3] }, type := 23, pos := "l4_ways.go:226", after := #[{ on := 1, ground := Go.Ground.data }], guard := none }) (by kernel_rfl) rfl (fun Kq2 hKq2 => ?_)
    refine step_call (by rfl) 84 #[.agg #[.int .i64 m.size, .slice a m.doors.length c, .slice b m.keys.length d], .int .i64 0, .int .i64 63] (by go_simp; try rfl) (CS.out) ?_
    rintro e w2 ⟨ra, rc, rfl, ho2, hb2⟩
    refine ⟨_, rfl, ?_⟩
    have hb2x : Below w1.heap.size w1 w2 := (Below.refl w1.heap.size w1).drew.trans hb2
    have X2 := Lib.hid (X1.out.below hb2x)
    have HB6 := Lib.hid (HB1.out.trans (hb2x.mono HB1.out.size))
    refine hKq2 _ _ (fun _ => X2.out.cells) ?_
    clear hS
    have hS := X2.out.cells
    try simp only [Act.put, List.setIfInBounds_toArray, List.set_cons_zero, List.set_cons_succ]
    refine wpAnyL_one (i := 6) (oi := { dst := some 19, op := Go.Op.call { callee := Go.Callee.value (Go.Operand.func 54), args := #[Go.Operand.tmp 15, Go.Operand.tmp 18, Go.Operand.const (Go.Value.int Go.IntKind.i64 0), Go.Operand.const (Go.Value.int Go.IntKind.i64 6)], argTypes := #[23, 3, 3, 3] }, type := 3, pos := "l4_ways.go:226", after := #[{ on := 2, ground := Go.Ground.data }, { on := 5, ground := Go.Ground.data }, { on := 2, ground := Go.Ground.chain }], guard := none }) (by kernel_rfl) rfl (fun Kq6 hKq6 => ?_)
    refine step_call (by rfl) 54 #[.slice ra (M.size64 m) rc, .int .i64 (m.size - 1), .int .i64 0, .int .i64 6] (by go_simp; try rfl) (l4Least_any w2 _ _ m HVA.out ra rc _ ho2.row (Nat.le_refl _) (m.size - 1) 0 6 (by omega) (by omega) (fun t n => M.dst_ok HVA.out HOK.out)) ?_
    rintro e w3 ⟨rfl, rfl⟩
    refine ⟨_, rfl, ?_⟩
    rw [HW.out, HON.out]
    have hS3 := hS
    refine hKq6 _ _ (fun _ => hS3) ?_
    clear hS
    have hS := hS3
    try simp only [Act.put, List.setIfInBounds_toArray, List.set_cons_zero, List.set_cons_succ]
    refine wpAnyL_take (i := 7) (oi := { dst := some 20, op := Go.Op.binOp Go.BinOp.sub 3 (Go.Operand.tmp 13) (Go.Operand.tmp 19) 3, type := 3, pos := "l4_ways.go:226", after := #[{ on := 0, ground := Go.Ground.data }, { on := 6, ground := Go.Ground.data }], guard := none }) (v := ?qv7) rfl (by kernel_rfl) (by kernel_rfl) (by kernel_rfl) (by kernel_rfl) (fun _ _ _ h => h) (Or.inl ⟨by rfl, ?qh7⟩) hS ?qr7
    case qh7 => (intro wS hSw; (try dsimp only at hSw); go_split_ands; go_simp; try with_reducible rfl)
    try simp only [Act.put, List.setIfInBounds_toArray, List.set_cons_zero, List.set_cons_succ]
    refine wpAnyL_take (i := 8) (oi := { dst := some 2, op := Go.Op.assign (Go.Operand.tmp 20), type := 3, pos := "l4_ways.go:226", after := #[{ on := 7, ground := Go.Ground.data }, { on := 6, ground := Go.Ground.chain }, { on := 0, ground := Go.Ground.phase }, { on := 1, ground := Go.Ground.phase }, { on := 2, ground := Go.Ground.phase }, { on := 3, ground := Go.Ground.phase }, { on := 4, ground := Go.Ground.phase }, { on := 5, ground := Go.Ground.phase }, { on := 6, ground := Go.Ground.phase }, { on := 7, ground := Go.Ground.phase }], guard := none }) (v := ?qv8) rfl (by kernel_rfl) (by kernel_rfl) (by kernel_rfl) (by kernel_rfl) (fun _ _ _ h => h) (Or.inl ⟨by rfl, ?qh8⟩) hS ?qr8
    case qh8 => (intro wS hSw; (try dsimp only at hSw); go_split_ands; go_simp; try with_reducible rfl)
    try simp only [Act.put, List.setIfInBounds_toArray, List.set_cons_zero, List.set_cons_succ]
    refine wpAnyL_take (i := 9) (oi := { dst := some 3, op := Go.Op.assign (Go.Operand.const (Go.Value.bool true)), type := 4, pos := "l4_ways.go:226", after := #[{ on := 8, ground := Go.Ground.chain }, { on := 0, ground := Go.Ground.phase }, { on := 1, ground := Go.Ground.phase }, { on := 2, ground := Go.Ground.phase }, { on := 3, ground := Go.Ground.phase }, { on := 4, ground := Go.Ground.phase }, { on := 5, ground := Go.Ground.phase }, { on := 6, ground := Go.Ground.phase }, { on := 7, ground := Go.Ground.phase }, { on := 8, ground := Go.Ground.phase }], guard := none }) (v := ?qv9) rfl (by kernel_rfl) (by kernel_rfl) (by kernel_rfl) (by kernel_rfl) (fun _ _ _ h => h) (Or.inl ⟨by rfl, ?qh9⟩) hS ?qr9
    case qh9 => (intro wS hSw; (try dsimp only at hSw); go_split_ands; go_simp; try with_reducible rfl)
    try simp only [Act.put, List.setIfInBounds_toArray, List.set_cons_zero, List.set_cons_succ]
    refine wpAnyL_done (by kernel_rfl) ?_ _
    go_wp2_with fail
    go_ret2
    rw [HD.out, HQ.out, ← HWS.out]
    exact ⟨rfl, HB6.out⟩
end C
end Go.Proofs.Ytbpinhfjfjfbdaa
