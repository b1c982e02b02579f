/-
  CONTRACT of CountEntryOrders, the model's side; what lay in memory stays. No condition but that memory reads so.
-/
import Derived.Test.YtdjmmgfjcchloaaCntoI
import Derived.Test.YtdjmmgfjcchloaaFullS
import Derived.Test.YtdjmmgfjcchloaaOtS
import Derived.Test.YtdjmmgfjcchloaaListS
import Derived.Test.YtdjmmgfjcchloaaDoorsAt
import Derived.Test.YtdjmmgfjcchloaaLate
import Derived.Test.YtdjmmgfjcchloaaStep
namespace Go.Proofs.Ytdjmmgfjcchloaa
open Go.RowKit
namespace C
set_option maxHeartbeats 3200000
set_option maxRecDepth 20000
theorem specCnto_lw (w : World) (lo hi : Nat) (m : M.Mz) (a b : Option Addr) (c d : Nat) (h : MzIn lo hi w m a c b d) (hz : hi ≤ w.heap.size) (_h1 : m.doors.length ≤ 1048576) (_h2 : m.keys.length ≤ 1048576) :
    Calls Try.prog 30 #[.agg #[.int .i64 m.size, .slice a m.doors.length c, .slice b m.keys.length d]] w (fun e w' => e = .returned (.tuple #[.int .i64 (M.cntoV m), .bool (M.mazeB m)]) ∧ Below w.heap.size w w') := by
  obtain ⟨ii0, hi0, hz0, hzz1, hz2⟩ := info_parts infoI
  have H := Lib.hid h
  clear h
  go_enter Try.func30, Try.ntmps30
  go_wp2_with fail
  refine named ?_
  intro W hW
  have hb : Below w.heap.size w W := by rw [hW]; exact below_alloc _ _
  have x1 : Box3 W w.heap.size 29 (.int .i64 m.size) (.slice a m.doors.length c) (.slice b m.keys.length d) := by rw [hW]; exact Box3.new _ _ _ _ rfl
  clear hW
  have hzw := hb.size
  refine (specMaze_any W lo hi m a b c d (H.out.below hb hz) (by omega)).mono ?_
  rintro e w1 ⟨rfl, hb1⟩
  have X1 := Lib.hid (x1.below hb1)
  have HB1 := Lib.hid (hb.trans (hb1.mono hzw))
  have hz1 := hb1.size
  have hxl1 := X1.out.lt
  clear hb hb1 x1
  obtain ⟨c0, c1, c2⟩ := X1.out.cells
  cases q0 : M.mazeB m with
  | false =>
    have HM := Lib.hid q0
    clear q0
    go_wp2_with fail
    go_ret2
    rw [M.cntoV_no HM.out, HM.out]
    exact ⟨rfl, HB1.out⟩
  | true =>
    have HM := Lib.hid q0
    have HV := Lib.hid (M.valid_of q0)
    clear q0
    have HCV := Lib.hid (M.cntoV_yes HM.out)
    have hq2 := M.full_two HV.out (M.allN m) M.pmin
    have hTl := M.ordT_len m
    have hT4 := (M.two_size HV.out).2
    have HMK := Lib.hid (M.full_mk HV.out (M.allN m) M.pmin)
    have HFB := Lib.hid (M.full_bd HV.out (M.allN m) M.pmin)
    have HMO : Hid (M.mostN m (M.allN m) = (M.fullA m (M.allN m) M.pickMin).2) := Lib.hid rfl
    have hqT : (M.fullA m (M.allN m) M.pickMin).2 < (M.ordT m).length := by omega
    clear c0 c1 c2 hTl hq2
    generalize hqq : (M.fullA m (M.allN m) M.pickMin).2 = q at *
    generalize hTT : M.ordT m = T at *
    have HTT := Lib.hid hTT
    clear hqq hTT
    have hqi : (q : Int) < (T.length : Int) := by omega
    have HGV := Lib.hid (encIs_getD hqT)
    generalize T.getD q 0 = tv at *
    have hq0 : ¬ (q : Int) < 0 := by omega
    go_upto_region 3 with fail
    refine wp_region_late2 (fun (wq : World) => wq.cell? ⟨w.heap.size, 0, none⟩ = some (.int .i64 m.size) ∧ wq.cell? ⟨w.heap.size, 1, none⟩ = some (.slice a m.doors.length c) ∧ wq.cell? ⟨w.heap.size, 2, none⟩ = some (.slice b m.keys.length d)) [] 9 #[false, false, false, false, false, false, false, false, false] rfl rfl (by kernel_rfl) ?_
    have hS : (fun (wq : World) => wq.cell? ⟨w.heap.size, 0, none⟩ = some (.int .i64 m.size) ∧ wq.cell? ⟨w.heap.size, 1, none⟩ = some (.slice a m.doors.length c) ∧ wq.cell? ⟨w.heap.size, 2, none⟩ = some (.slice b m.keys.length d)) w1.drew := X1.out.cells
    refine wpAnyL_take (i := 0) (oi := { dst := some 7, op := Go.Op.load 29 (Go.Operand.tmp 1), type := 29, pos := "l5_orders.go:107", after := #[], guard := none }) (v := ?pv0) rfl (by kernel_rfl) (by kernel_rfl) (by kernel_rfl) (by kernel_rfl) (fun _ _ _ h => h) (Or.inl ⟨by rfl, ?ph0⟩) hS ?pr0
    case ph0 => (intro wS hSw; (try dsimp only at hSw); go_split_ands; go_simp; try with_reducible rfl)
    try simp only [Act.put, List.setIfInBounds_toArray, List.set_cons_zero, List.set_cons_succ]
    refine wpAnyL_take (i := 2) (oi := { dst := some 9, op := Go.Op.load 29 (Go.Operand.tmp 1), type := 29, pos := "l5_orders.go:107", after := #[], guard := none }) (v := ?pv2) rfl (by kernel_rfl) (by kernel_rfl) (by kernel_rfl) (by kernel_rfl) (fun _ _ _ h => h) (Or.inl ⟨by rfl, ?ph2⟩) hS ?pr2
    case ph2 => (intro wS hSw; (try dsimp only at hSw); go_split_ands; go_simp; try with_reducible rfl)
    try simp only [Act.put, List.setIfInBounds_toArray, List.set_cons_zero, List.set_cons_succ]
    refine wpAnyL_one (i := 1) (oi := { dst := some 8, op := Go.Op.call { callee := Go.Callee.value (Go.Operand.func 66), args := #[Go.Operand.tmp 7], argTypes := #[29] }, type := 23, pos := "l5_orders.go:107", after := #[{ on := 0, ground := Go.Ground.data }], guard := none }) (by kernel_rfl) rfl (fun Kp1 hKp1 => ?_)
    refine step_call (by rfl) 66 #[.agg #[.int .i64 m.size, .slice a m.doors.length c, .slice b m.keys.length d]] (by go_simp; try rfl) (by have h := l5Table_any w1.drew lo hi m a b c d (H.out.below (Below.drawnN HB1.out 1) hz) (by have := HB1.out.size; show hi ≤ w1.heap.size; omega) HV.out; rw [HTT.out] at h; exact h) ?_
    rintro e w2 ⟨ra, rc, rfl, ho2, hl2, hm2, hb2⟩
    refine ⟨_, rfl, ?_⟩
    have hb2x : Below w1.heap.size w1 w2 := (Below.refl w1.heap.size w1).drew.trans hb2
    have X2 := Lib.hid (X1.out.below hb2x)
    have B2 := Lib.hid (HB1.out.trans (hb2x.mono HB1.out.size))
    have hz2x := hb2x.size
    have O2 := Lib.hid ho2
    clear ho2
    refine hKp1 _ _ (fun _ => X2.out.cells) ?_
    clear hS
    have hS := X2.out.cells
    try simp only [Act.put, List.setIfInBounds_toArray, List.set_cons_zero, List.set_cons_succ]
    refine wpAnyL_one (i := 3) (oi := { dst := some 10, op := Go.Op.call { callee := Go.Callee.value (Go.Operand.func 61), args := #[Go.Operand.tmp 9, Go.Operand.const (Go.Value.bool false)], argTypes := #[29, 4] }, type := 23, pos := "l5_orders.go:107", after := #[{ on := 2, ground := Go.Ground.data }, { on := 1, ground := Go.Ground.chain }], guard := none }) (by kernel_rfl) rfl (fun Kp3 hKp3 => ?_)
    refine step_call (by rfl) 61 #[.agg #[.int .i64 m.size, .slice a m.doors.length c, .slice b m.keys.length d], .bool false] (by go_simp; try rfl) (l5Full_min w2 lo hi m a b c d (H.out.below B2.out hz) (by have := B2.out.size; omega) HV.out) ?_
    rintro e w3 ⟨qa, qc, rfl, ho3, hl3, hm3, hb3⟩
    refine ⟨_, rfl, ?_⟩
    have X3 := Lib.hid (X2.out.below hb3)
    have B3 := Lib.hid (B2.out.trans (hb3.mono B2.out.size))
    have OT := Lib.hid (O2.out.below hb3 (Nat.le_refl _))
    have hz3x := hb3.size
    have Q3 := Lib.hid ho3
    clear ho3
    refine hKp3 _ _ (fun _ => X3.out.cells) ?_
    clear hS
    have hS := X3.out.cells
    try simp only [Act.put, List.setIfInBounds_toArray, List.set_cons_zero, List.set_cons_succ]
    refine wpAnyL_one (i := 4) (oi := { dst := some 11, op := Go.Op.call { callee := Go.Callee.value (Go.Operand.func 67), args := #[Go.Operand.tmp 10], argTypes := #[23] }, type := 3, pos := "l5_orders.go:107", after := #[{ on := 3, ground := Go.Ground.data }, { on := 3, ground := Go.Ground.chain }], guard := none }) (by kernel_rfl) rfl (fun Kp4 hKp4 => ?_)
    refine step_call (by rfl) 67 #[.slice qa (M.fullA m (M.allN m) M.pickMin).1.length qc] (by go_simp; try rfl) (by have h := l5Code_any w3 _ _ qa qc _ 12 Q3.out.row (Int.le_refl _) HFB.out.2.2 (by have := HFB.out.1; omega); rw [← HMK.out] at h; exact h) ?_
    rintro e w7 ⟨rfl, rfl⟩
    refine ⟨_, rfl, ?_⟩
    have hx7 := X3.out.cells
    obtain ⟨lb, off, ha, hlb1, hlb2, hlc⟩ := OT.out.row.at_ (k := q) (by rw [M.encIs_len]; omega)
    have tc := hlc _ _ HGV.out
    subst ha
    refine hKp4 _ _ (fun _ => hx7) ?_
    clear hS
    have hS := hx7
    try simp only [Act.put, List.setIfInBounds_toArray, List.set_cons_zero, List.set_cons_succ]
    refine wpAnyL_take (i := 5) (oi := { dst := some 12, op := Go.Op.indexAddr 23 (Go.Operand.tmp 8) (Go.Operand.tmp 11), type := 0, pos := "l5_orders.go:107", after := #[{ on := 1, ground := Go.Ground.data }, { on := 4, ground := Go.Ground.data }], guard := none }) (v := ?pv5) rfl (by kernel_rfl) (by kernel_rfl) (by kernel_rfl) (by kernel_rfl) (fun _ _ _ h => h) (Or.inl ⟨by rfl, ?ph5⟩) hS ?pr5
    case ph5 => (intro wS hSw; (try dsimp only at hSw); go_split_ands; go_simp; try with_reducible rfl)
    try simp only [Act.put, List.setIfInBounds_toArray, List.set_cons_zero, List.set_cons_succ]
    refine wpAnyL_one (i := 6) (oi := { dst := some 13, op := Go.Op.load 3 (Go.Operand.tmp 12), type := 3, pos := "l5_orders.go:107", after := #[{ on := 5, ground := Go.Ground.data }], guard := none }) (by kernel_rfl) rfl (fun Kp6 hKp6 => ?_)
    go_simp
    refine hKp6 _ _ (fun _ => hS) ?_
    try simp only [List.setIfInBounds_toArray, List.set_cons_zero, List.set_cons_succ]
    refine wpAnyL_take (i := 7) (oi := { dst := some 2, op := Go.Op.assign (Go.Operand.tmp 13), type := 3, pos := "l5_orders.go:107", after := #[{ on := 6, ground := Go.Ground.data }, { on := 4, ground := Go.Ground.chain }, { on := 0, ground := Go.Ground.phase }, { on := 1, ground := Go.Ground.phase }, { on := 2, ground := Go.Ground.phase }, { on := 3, ground := Go.Ground.phase }, { on := 4, ground := Go.Ground.phase }, { on := 5, ground := Go.Ground.phase }, { on := 6, ground := Go.Ground.phase }], guard := none }) (v := ?pv7) rfl (by kernel_rfl) (by kernel_rfl) (by kernel_rfl) (by kernel_rfl) (fun _ _ _ h => h) (Or.inl ⟨by rfl, ?ph7⟩) hS ?pr7
    case ph7 => (intro wS hSw; (try dsimp only at hSw); go_split_ands; go_simp; try with_reducible rfl)
    try simp only [Act.put, List.setIfInBounds_toArray, List.set_cons_zero, List.set_cons_succ]
    refine wpAnyL_take (i := 8) (oi := { dst := some 3, op := Go.Op.assign (Go.Operand.const (Go.Value.bool true)), type := 4, pos := "l5_orders.go:107", after := #[{ on := 7, ground := Go.Ground.chain }, { on := 0, ground := Go.Ground.phase }, { on := 1, ground := Go.Ground.phase }, { on := 2, ground := Go.Ground.phase }, { on := 3, ground := Go.Ground.phase }, { on := 4, ground := Go.Ground.phase }, { on := 5, ground := Go.Ground.phase }, { on := 6, ground := Go.Ground.phase }, { on := 7, ground := Go.Ground.phase }], guard := none }) (v := ?pv8) rfl (by kernel_rfl) (by kernel_rfl) (by kernel_rfl) (by kernel_rfl) (fun _ _ _ h => h) (Or.inl ⟨by rfl, ?ph8⟩) hS ?pr8
    case ph8 => (intro wS hSw; (try dsimp only at hSw); go_split_ands; go_simp; try with_reducible rfl)
    try simp only [Act.put, List.setIfInBounds_toArray, List.set_cons_zero, List.set_cons_succ]
    refine wpAnyL_done (by kernel_rfl) ?_ _
    go_wp2_with fail
    go_ret2
    rw [HCV.out, HM.out]
    exact ⟨rfl, B3.out⟩
end C
end Go.Proofs.Ytdjmmgfjcchloaa
