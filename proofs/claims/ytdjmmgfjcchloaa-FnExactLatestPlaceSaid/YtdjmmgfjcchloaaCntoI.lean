/-
  CONTRACT of CountEntryOrders, the program's side; what lay in memory stays. No condition but that memory reads so.
-/
import Derived.Test.YtdjmmgfjcchloaaColl
import Derived.Test.YtdjmmgfjcchloaaOtI
import Derived.Test.YtdjmmgfjcchloaaDoorsAt
import Derived.Test.YtdjmmgfjcchloaaLate
import Derived.Test.YtdjmmgfjcchloaaStep
namespace Go.Proofs.Ytdjmmgfjcchloaa
open Go.RowKit
namespace M
noncomputable def cntoV (m : Mz) : Int := if mazeB m then (ordT m).getD (fullA m (allN m) pickMin).2 0 else 0
theorem cntoV_no {m : Mz} (h : mazeB m = false) : cntoV m = 0 := by unfold cntoV; rw [h]; rfl
theorem cntoV_yes {m : Mz} (h : mazeB m = true) : cntoV m = (ordT m).getD (fullA m (allN m) pickMin).2 0 := by unfold cntoV; rw [if_pos h]
theorem full_mk {m : Mz} (V : Valid m) (a : Nat) {pick : List Int → Int} (hp : Picks pick) : (fullA m a pick).2 = mk (fullA m a pick).1 := by
  obtain ⟨k, hk⟩ := done_exB V a hp
  rw [fullA_eq hk, seqA_mk]
theorem full_two {m : Mz} (V : Valid m) (a : Nat) {pick : List Int → Int} (hp : Picks pick) : (fullA m a pick).2 < 2 ^ m.size.toNat := by
  obtain ⟨k, hk⟩ := done_exB V a hp
  rw [fullA_eq hk]
  have hin := ordF_in (seqA_ok V (a := a) hp k).2.2.1 zero_in
  refine Nat.lt_of_not_le fun hge => ?_
  obtain ⟨p, hp, ht⟩ := Nat.exists_ge_and_testBit_of_ge_two_pow hge
  rw [← digB_testBit] at ht
  have := hin p ht
  have := V.size1
  omega
theorem all_in {m : Mz} (V : Valid m) : InM m (allN m) := ⟨allN_lt V, fun p hp => by rw [digB_all V] at hp; exact of_decide_eq_true hp⟩
end M
namespace C
set_option maxHeartbeats 3200000
set_option maxRecDepth 20000
theorem implCnto_lw (w : World) (lo hi : Nat) (m : M.Mz) (a b : Option Addr) (c d : Nat) (h : MzIn lo hi w m a c b d) (hz : hi ≤ w.heap.size) (_h1 : m.doors.length ≤ 1048576) (_h2 : m.keys.length ≤ 1048576) :
    Calls Try.prog 31 #[.agg #[.int .i64 m.size, .slice a m.doors.length c, .slice b m.keys.length d]] w (fun e w' => e = .returned (.tuple #[.int .i64 (M.cntoV m), .bool (M.mazeB m)]) ∧ Below w.heap.size w w') := by
  obtain ⟨ii0, hi0, hz0, hzz1, hz2⟩ := info_parts infoI
  have H := Lib.hid h
  clear h
  go_enter Try.func31, Try.ntmps31
  go_wp2_with fail
  refine named ?_
  intro W hW
  have hb : Below w.heap.size w W := by rw [hW]; exact below_alloc _ _
  have x1 : Box3 W w.heap.size 29 (.int .i64 m.size) (.slice a m.doors.length c) (.slice b m.keys.length d) := by rw [hW]; exact Box3.new _ _ _ _ rfl
  clear hW
  have hzw := hb.size
  refine (isMaze_any W lo hi m a b c d (H.out.below hb hz) (by omega)).mono ?_
  rintro e w1 ⟨rfl, hb1⟩
  have X1 := Lib.hid (x1.below hb1)
  have HB1 := Lib.hid (hb.trans (hb1.mono hzw))
  have hz1 := hb1.size
  have hxl1 := X1.out.lt
  clear hb hb1 x1
  obtain ⟨c0, c1, c2⟩ := X1.out.cells
  cases q0 : M.mazeB m with
  | false =>
    have HM := Lib.hid q0
    clear q0
    go_wp2_with fail
    go_ret2
    rw [M.cntoV_no HM.out, HM.out]
    exact ⟨rfl, HB1.out⟩
  | true =>
    have HM := Lib.hid q0
    have HV := Lib.hid (M.valid_of q0)
    clear q0
    have HCV := Lib.hid (M.cntoV_yes HM.out)
    have hq2 := M.full_two HV.out (M.allN m) M.pmin
    have hTl := M.ordT_len m
    have hT4 := (M.two_size HV.out).2
    have HMK := Lib.hid (M.full_mk HV.out (M.allN m) M.pmin)
    have HFB := Lib.hid (M.full_bd HV.out (M.allN m) M.pmin)
    have HMO : Hid (M.mostN m (M.allN m) = (M.fullA m (M.allN m) M.pickMin).2) := Lib.hid rfl
    have hqT : (M.fullA m (M.allN m) M.pickMin).2 < (M.ordT m).length := by omega
    clear c0 c1 c2 hTl hq2
    generalize hqq : (M.fullA m (M.allN m) M.pickMin).2 = q at *
    generalize hTT : M.ordT m = T at *
    have HTT := Lib.hid hTT
    clear hqq hTT
    have hqi : (q : Int) < (T.length : Int) := by omega
    have HGV := Lib.hid (encIs_getD hqT)
    generalize T.getD q 0 = tv at *
    have hq0 : ¬ (q : Int) < 0 := by omega
    go_upto_region 3 with fail
    refine wp_region_late2 (fun (wq : World) => wq.cell? ⟨w.heap.size, 0, none⟩ = some (.int .i64 m.size) ∧ wq.cell? ⟨w.heap.size, 1, none⟩ = some (.slice a m.doors.length c) ∧ wq.cell? ⟨w.heap.size, 2, none⟩ = some (.slice b m.keys.length d)) [] 10 #[false, false, false, false, false, false, false, false, false, false] rfl rfl (by kernel_rfl) ?_
    have hS : (fun (wq : World) => wq.cell? ⟨w.heap.size, 0, none⟩ = some (.int .i64 m.size) ∧ wq.cell? ⟨w.heap.size, 1, none⟩ = some (.slice a m.doors.length c) ∧ wq.cell? ⟨w.heap.size, 2, none⟩ = some (.slice b m.keys.length d)) w1.drew := X1.out.cells
    refine wpAnyL_take (i := 0) (oi := { dst := some 7, op := Go.Op.load 29 (Go.Operand.tmp 1), type := 29, pos := "l5_orders.go:149", after := #[], guard := none }) (v := ?pv0) rfl (by kernel_rfl) (by kernel_rfl) (by kernel_rfl) (by kernel_rfl) (fun _ _ _ h => h) (Or.inl ⟨by rfl, ?ph0⟩) hS ?pr0
    case ph0 => (intro wS hSw; (try dsimp only at hSw); go_split_ands; go_simp; try with_reducible rfl)
    try simp only [Act.put, List.setIfInBounds_toArray, List.set_cons_zero, List.set_cons_succ]
    refine wpAnyL_take (i := 2) (oi := { dst := some 9, op := Go.Op.load 29 (Go.Operand.tmp 1), type := 29, pos := "l5_orders.go:149", after := #[], guard := none }) (v := ?pv2) rfl (by kernel_rfl) (by kernel_rfl) (by kernel_rfl) (by kernel_rfl) (fun _ _ _ h => h) (Or.inl ⟨by rfl, ?ph2⟩) hS ?pr2
    case ph2 => (intro wS hSw; (try dsimp only at hSw); go_split_ands; go_simp; try with_reducible rfl)
    try simp only [Act.put, List.setIfInBounds_toArray, List.set_cons_zero, List.set_cons_succ]
    refine wpAnyL_take (i := 3) (oi := { dst := some 10, op := Go.Op.load 29 (Go.Operand.tmp 1), type := 29, pos := "l5_orders.go:149", after := #[], guard := none }) (v := ?pv3) rfl (by kernel_rfl) (by kernel_rfl) (by kernel_rfl) (by kernel_rfl) (fun _ _ _ h => h) (Or.inl ⟨by rfl, ?ph3⟩) hS ?pr3
    case ph3 => (intro wS hSw; (try dsimp only at hSw); go_split_ands; go_simp; try with_reducible rfl)
    try simp only [Act.put, List.setIfInBounds_toArray, List.set_cons_zero, List.set_cons_succ]
    refine wpAnyL_one (i := 1) (oi := { dst := some 8, op := Go.Op.call { callee := Go.Callee.value (Go.Operand.func 68), args := #[Go.Operand.tmp 7], argTypes := #[29] }, type := 23, pos := "l5_orders.go:149", after := #[{ on := 0, ground := Go.Ground.data }], guard := none }) (by kernel_rfl) rfl (fun Kp1 hKp1 => ?_)
    refine step_call (by rfl) 68 #[.agg #[.int .i64 m.size, .slice a m.doors.length c, .slice b m.keys.length d]] (by go_simp; try rfl) (by have h := ordersTable_any w1.drew lo hi m a b c d (H.out.below (Below.drawnN HB1.out 1) hz) (by have := HB1.out.size; show hi ≤ w1.heap.size; omega) HV.out; rw [HTT.out] at h; exact h) ?_
    rintro e w2 ⟨ra, rc, rfl, ho2, hl2, hm2, hb2⟩
    refine ⟨_, rfl, ?_⟩
    have hb2x : Below w1.heap.size w1 w2 := (Below.refl w1.heap.size w1).drew.trans hb2
    have X2 := Lib.hid (X1.out.below hb2x)
    have B2 := Lib.hid (HB1.out.trans (hb2x.mono HB1.out.size))
    have hz2x := hb2x.size
    have O2 := Lib.hid ho2
    clear ho2
    refine hKp1 _ _ (fun _ => X2.out.cells) ?_
    clear hS
    have hS := X2.out.cells
    try simp only [Act.put, List.setIfInBounds_toArray, List.set_cons_zero, List.set_cons_succ]
    refine wpAnyL_one (i := 4) (oi := { dst := some 11, op := Go.Op.call { callee := Go.Callee.value (Go.Operand.func 70), args := #[Go.Operand.tmp 10], argTypes := #[29] }, type := 3, pos := "l5_orders.go:149", after := #[{ on := 3, ground := Go.Ground.data }, { on := 1, ground := Go.Ground.chain }], guard := none }) (by kernel_rfl) rfl (fun Kp4 hKp4 => ?_)
    refine step_call (by rfl) 70 #[.agg #[.int .i64 m.size, .slice a m.doors.length c, .slice b m.keys.length d]] (by go_simp; try rfl) (allNodes_any w2 m a b c d HV.out) ?_
    rintro e w3 ⟨rfl, hb3⟩
    refine ⟨_, rfl, ?_⟩
    have X3 := Lib.hid (X2.out.below hb3)
    have B3 := Lib.hid (B2.out.trans (hb3.mono B2.out.size))
    have O3 := Lib.hid (O2.out.below hb3 (Nat.le_refl _))
    have hz3x := hb3.size
    refine hKp4 _ _ (fun _ => X3.out.cells) ?_
    clear hS
    have hS := X3.out.cells
    try simp only [Act.put, List.setIfInBounds_toArray, List.set_cons_zero, List.set_cons_succ]
    refine wpAnyL_one (i := 5) (oi := { dst := some 12, op := Go.Op.call { callee := Go.Callee.value (Go.Operand.func 69), args := #[Go.Operand.tmp 9, Go.Operand.tmp 11], argTypes := #[29, 3] }, type := 3, pos := "l5_orders.go:149", after := #[{ on := 2, ground := Go.Ground.data }, { on := 4, ground := Go.Ground.data }, { on := 4, ground := Go.Ground.chain }], guard := none }) (by kernel_rfl) rfl (fun Kp5 hKp5 => ?_)
    refine step_call (by rfl) 69 #[.agg #[.int .i64 m.size, .slice a m.doors.length c, .slice b m.keys.length d], .int .i64 ((M.allN m : Nat) : Int)] (by go_simp; try rfl) (by have h := mostOf_any w3 lo hi m a b c d (H.out.below B3.out hz) (by have := B3.out.size; omega) HV.out (M.allN m) (M.all_in HV.out); rw [HMO.out] at h; exact h) ?_
    rintro e w4 ⟨rfl, hb4⟩
    refine ⟨_, rfl, ?_⟩
    have X4 := Lib.hid (X3.out.below hb4)
    have B4 := Lib.hid (B3.out.trans (hb4.mono B3.out.size))
    have OT := Lib.hid (O3.out.below hb4 (by omega))
    obtain ⟨lb, off, ha, hlb1, hlb2, hlc⟩ := OT.out.row.at_ (k := q) (by rw [M.encIs_len]; omega)
    have tc := hlc _ _ HGV.out
    subst ha
    refine hKp5 _ _ (fun _ => X4.out.cells) ?_
    clear hS
    have hS := X4.out.cells
    try simp only [Act.put, List.setIfInBounds_toArray, List.set_cons_zero, List.set_cons_succ]
    refine wpAnyL_take (i := 6) (oi := { dst := some 13, op := Go.Op.indexAddr 23 (Go.Operand.tmp 8) (Go.Operand.tmp 12), type := 0, pos := "l5_orders.go:149", after := #[{ on := 1, ground := Go.Ground.data }, { on := 5, ground := Go.Ground.data }], guard := none }) (v := ?pv6) rfl (by kernel_rfl) (by kernel_rfl) (by kernel_rfl) (by kernel_rfl) (fun _ _ _ h => h) (Or.inl ⟨by rfl, ?ph6⟩) hS ?pr6
    case ph6 => (intro wS hSw; (try dsimp only at hSw); go_split_ands; go_simp; try with_reducible rfl)
    try simp only [Act.put, List.setIfInBounds_toArray, List.set_cons_zero, List.set_cons_succ]
    refine wpAnyL_one (i := 7) (oi := { dst := some 14, op := Go.Op.load 3 (Go.Operand.tmp 13), type := 3, pos := "l5_orders.go:149", after := #[{ on := 6, ground := Go.Ground.data }], guard := none }) (by kernel_rfl) rfl (fun Kp7 hKp7 => ?_)
    go_simp
    refine hKp7 _ _ (fun _ => hS) ?_
    try simp only [List.setIfInBounds_toArray, List.set_cons_zero, List.set_cons_succ]
    refine wpAnyL_take (i := 8) (oi := { dst := some 2, op := Go.Op.assign (Go.Operand.tmp 14), type := 3, pos := "l5_orders.go:149", after := #[{ on := 7, ground := Go.Ground.data }, { on := 5, ground := Go.Ground.chain }, { on := 0, ground := Go.Ground.phase }, { on := 1, ground := Go.Ground.phase }, { on := 2, ground := Go.Ground.phase }, { on := 3, ground := Go.Ground.phase }, { on := 4, ground := Go.Ground.phase }, { on := 5, ground := Go.Ground.phase }, { on := 6, ground := Go.Ground.phase }, { on := 7, ground := Go.Ground.phase }], guard := none }) (v := ?pv8) rfl (by kernel_rfl) (by kernel_rfl) (by kernel_rfl) (by kernel_rfl) (fun _ _ _ h => h) (Or.inl ⟨by rfl, ?ph8⟩) hS ?pr8
    case ph8 => (intro wS hSw; (try dsimp only at hSw); go_split_ands; go_simp; try with_reducible rfl)
    try simp only [Act.put, List.setIfInBounds_toArray, List.set_cons_zero, List.set_cons_succ]
    refine wpAnyL_take (i := 9) (oi := { dst := some 3, op := Go.Op.assign (Go.Operand.const (Go.Value.bool true)), type := 4, pos := "l5_orders.go:149", after := #[{ on := 8, ground := Go.Ground.chain }, { on := 0, ground := Go.Ground.phase }, { on := 1, ground := Go.Ground.phase }, { on := 2, ground := Go.Ground.phase }, { on := 3, ground := Go.Ground.phase }, { on := 4, ground := Go.Ground.phase }, { on := 5, ground := Go.Ground.phase }, { on := 6, ground := Go.Ground.phase }, { on := 7, ground := Go.Ground.phase }, { on := 8, ground := Go.Ground.phase }], guard := none }) (v := ?pv9) rfl (by kernel_rfl) (by kernel_rfl) (by kernel_rfl) (by kernel_rfl) (fun _ _ _ h => h) (Or.inl ⟨by rfl, ?ph9⟩) hS ?pr9
    case ph9 => (intro wS hSw; (try dsimp only at hSw); go_split_ands; go_simp; try with_reducible rfl)
    try simp only [Act.put, List.setIfInBounds_toArray, List.set_cons_zero, List.set_cons_succ]
    refine wpAnyL_done (by kernel_rfl) ?_ _
    go_wp2_with fail
    go_ret2
    rw [HCV.out, HM.out]
    exact ⟨rfl, B4.out⟩
end C
end Go.Proofs.Ytdjmmgfjcchloaa
