/-
  CONTRACTS of impl.completeOrder, FirstEntryOrder, LastEntryOrder: the complete entry orders, in memory of the call's own; what lay in memory stays. Condition: for completeOrder a function that picks.
-/
import Derived.Test.YtdjmmgfjcchloaaColl
import Derived.Test.YtdjmmgfjcchloaaBoolOk
import Derived.Test.YtdjmmgfjcchloaaDoorsAt
import Derived.Test.YtdjmmgfjcchloaaLate
import Derived.Test.YtdjmmgfjcchloaaStep
namespace Go.Proofs.Ytdjmmgfjcchloaa
open Go.RowKit
namespace C
set_option maxHeartbeats 3200000
set_option maxRecDepth 20000
theorem complete_any (w : World) (lo hi : Nat) (m : M.Mz) (a b : Option Addr) (c d : Nat) (h : MzIn lo hi w m a c b d) (hz : hi ≤ w.heap.size) (pf : Nat) (pick : List Int → Int) (hpk : M.Picks pick) (hpf : PickOk pf pick) (hpe : ∀ args w, (callFunc pf args).run Try.prog w = .ok (.enter pf args) w) :
    Calls Try.prog 62 #[.agg #[.int .i64 m.size, .slice a m.doors.length c, .slice b m.keys.length d], .func (.func pf) #[] #[]] w (IntsOkPost w (M.fullV m pick) (M.mazeB m)) := by
  obtain ⟨ii0, hi0, hz0, hzz1, hz2⟩ := info_parts infoI
  have H := Lib.hid h
  have HPK := Lib.hid hpk
  have HPF := Lib.hid hpf
  clear h hpk hpf
  go_enter Try.func62, Try.ntmps62
  go_wp2_with fail
  refine named ?_
  intro W hW
  have hb : Below w.heap.size w W := by rw [hW]; exact below_alloc _ _
  have x1 : Box3 W w.heap.size 29 (.int .i64 m.size) (.slice a m.doors.length c) (.slice b m.keys.length d) := by rw [hW]; exact Box3.new _ _ _ _ rfl
  clear hW
  have hzw := hb.size
  refine (isMaze_any W lo hi m a b c d (H.out.below hb hz) (by omega)).mono ?_
  rintro e w1 ⟨rfl, hb1⟩
  have X1 := Lib.hid (x1.below hb1)
  have HB1 := Lib.hid (hb.trans (hb1.mono hzw))
  have hz1 := hb1.size
  have hxl1 := X1.out.lt
  clear hb hb1 x1
  obtain ⟨c0, c1, c2⟩ := X1.out.cells
  cases q0 : M.mazeB m with
  | false =>
    have HM := Lib.hid q0
    clear q0
    go_wp2_with fail
    go_ret2
    rw [M.fullV_no HM.out, HM.out]
    exact intsOk_end (l := []) (ownsRow_empty _ _ _ _ (by omega)) (HB1.out.alloc (by omega) _)
  | true =>
    have HM := Lib.hid q0
    have HV := Lib.hid (M.valid_of q0)
    clear q0
    have HFY := Lib.hid (M.fullV_yes HM.out pick)
    clear c0 c1 c2
    go_upto_region 3 with fail
    refine wp_region_late2 (fun (wq : World) => wq.cell? ⟨w.heap.size, 0, none⟩ = some (.int .i64 m.size) ∧ wq.cell? ⟨w.heap.size, 1, none⟩ = some (.slice a m.doors.length c) ∧ wq.cell? ⟨w.heap.size, 2, none⟩ = some (.slice b m.keys.length d)) [] 8 #[false, false, false, false, false, false, false, false] rfl rfl (by kernel_rfl) ?_
    have hS : (fun (wq : World) => wq.cell? ⟨w.heap.size, 0, none⟩ = some (.int .i64 m.size) ∧ wq.cell? ⟨w.heap.size, 1, none⟩ = some (.slice a m.doors.length c) ∧ wq.cell? ⟨w.heap.size, 2, none⟩ = some (.slice b m.keys.length d)) w1.drew := X1.out.cells
    refine wpAnyL_take (i := 0) (oi := { dst := some 10, op := Go.Op.load 29 (Go.Operand.tmp 2), type := 29, pos := "l5_orders.go:141", after := #[], guard := none }) (v := ?pv0) rfl (by kernel_rfl) (by kernel_rfl) (by kernel_rfl) (by kernel_rfl) (fun _ _ _ h => h) (Or.inl ⟨by rfl, ?ph0⟩) hS ?pr0
    case ph0 => (intro wS hSw; (try dsimp only at hSw); go_split_ands; go_simp; try with_reducible rfl)
    try simp only [Act.put, List.setIfInBounds_toArray, List.set_cons_zero, List.set_cons_succ]
    refine wpAnyL_take (i := 1) (oi := { dst := some 11, op := Go.Op.load 29 (Go.Operand.tmp 2), type := 29, pos := "l5_orders.go:141", after := #[], guard := none }) (v := ?pv1) rfl (by kernel_rfl) (by kernel_rfl) (by kernel_rfl) (by kernel_rfl) (fun _ _ _ h => h) (Or.inl ⟨by rfl, ?ph1⟩) hS ?pr1
    case ph1 => (intro wS hSw; (try dsimp only at hSw); go_split_ands; go_simp; try with_reducible rfl)
    try simp only [Act.put, List.setIfInBounds_toArray, List.set_cons_zero, List.set_cons_succ]
    refine wpAnyL_take (i := 3) (oi := { dst := some 13, op := Go.Op.move (Go.Operand.tmp 1), type := 61, pos := "l5_orders.go:141", after := #[], guard := none }) (v := ?pv3) rfl (by kernel_rfl) (by kernel_rfl) (by kernel_rfl) (by kernel_rfl) (fun _ _ _ h => h) (Or.inl ⟨by rfl, ?ph3⟩) hS ?pr3
    case ph3 => (intro wS hSw; (try dsimp only at hSw); go_split_ands; go_simp; try with_reducible rfl)
    try simp only [Act.put, List.setIfInBounds_toArray, List.set_cons_zero, List.set_cons_succ]
    refine wpAnyL_one (i := 2) (oi := { dst := some 12, op := Go.Op.call { callee := Go.Callee.value (Go.Operand.func 70), args := #[Go.Operand.tmp 11], argTypes := #[29] }, type := 3, pos := "l5_orders.go:141", after := #[{ on := 1, ground := Go.Ground.data }], guard := none }) (by kernel_rfl) rfl (fun Kp2 hKp2 => ?_)
    refine step_call (by rfl) 70 #[.agg #[.int .i64 m.size, .slice a m.doors.length c, .slice b m.keys.length d]] (by go_simp; try rfl) (allNodes_any w1.drew m a b c d HV.out) ?_
    rintro e w2 ⟨rfl, hb2⟩
    refine ⟨_, rfl, ?_⟩
    have hb2x : Below w1.heap.size w1 w2 := (Below.refl w1.heap.size w1).drew.trans hb2
    have X2 := Lib.hid (X1.out.below hb2x)
    have B2 := Lib.hid (HB1.out.trans (hb2x.mono HB1.out.size))
    have hz2x := hb2x.size
    refine hKp2 _ _ (fun _ => X2.out.cells) ?_
    clear hS
    have hS := X2.out.cells
    try simp only [Act.put, List.setIfInBounds_toArray, List.set_cons_zero, List.set_cons_succ]
    refine wpAnyL_one (i := 4) (oi := { dst := some 14, op := Go.Op.call { callee := Go.Callee.value (Go.Operand.func 98), args := #[Go.Operand.tmp 10, Go.Operand.tmp 12, Go.Operand.tmp 13], argTypes := #[29, 3, 61] }, type := 84, pos := "l5_orders.go:141", after := #[{ on := 0, ground := Go.Ground.data }, { on := 2, ground := Go.Ground.data }, { on := 3, ground := Go.Ground.data }, { on := 2, ground := Go.Ground.chain }], guard := none }) (by kernel_rfl) rfl (fun Kp4 hKp4 => ?_)
    refine step_call (by rfl) 98 #[.agg #[.int .i64 m.size, .slice a m.doors.length c, .slice b m.keys.length d], .int .i64 ((M.allN m : Nat) : Int), .func (.func pf) #[] #[]] (by go_simp; try rfl) (entering_calls w2 m a b c d (M.allN m) pf) ?_
    rintro e w3 ⟨rfl, hw3⟩
    refine ⟨_, rfl, ?_⟩
    obtain ⟨hE3, hb3, hs3⟩ := entering_gives (al := M.allN m) (pf := pf) (H.out.below B2.out hz) (by omega) hw3
    have HE3 := Lib.hid hE3
    have X3 := Lib.hid (X2.out.below hb3)
    have B3 := Lib.hid (B2.out.trans (hb3.mono B2.out.size))
    clear hE3 hw3
    refine hKp4 _ _ (fun _ => X3.out.cells) ?_
    clear hS
    have hS := X3.out.cells
    try simp only [Act.put, List.setIfInBounds_toArray, List.set_cons_zero, List.set_cons_succ]
    refine wpAnyL_one (i := 5) (oi := { dst := some 15, op := Go.Op.call { callee := Go.Callee.value (Go.Operand.func 97), args := #[Go.Operand.tmp 14], argTypes := #[84] }, type := 23, pos := "l5_orders.go:141", after := #[{ on := 4, ground := Go.Ground.data }, { on := 4, ground := Go.Ground.chain }], guard := none }) (by kernel_rfl) rfl (fun Kp5 hKp5 => ?_)
    refine step_call (by rfl) 97 #[.func (.func 112) #[] #[.pointer (some ⟨w2.heap.size + 1, 0, none⟩), .pointer (some ⟨w2.heap.size, 0, none⟩), .pointer (some ⟨w2.heap.size + 1 + 1, 0, none⟩)]] (by go_simp; try rfl) (collect_any w3 lo hi w2.heap.size (w2.heap.size + 1) (w2.heap.size + 1 + 1) m a b c d (M.allN m) pf HV.out ⟨M.allN_lt HV.out, fun p hp => by rw [M.digB_all HV.out] at hp; exact of_decide_eq_true hp⟩ pick HPK.out HPF.out hpe HE3.out) ?_
    rintro e w4 ⟨ra, rc, rfl, ho4, hl4, hm4, hb4⟩
    refine ⟨_, rfl, ?_⟩
    have X4 := Lib.hid (X3.out.below hb4)
    have B4 := Lib.hid (B3.out.trans (hb4.mono B3.out.size))
    have O4 := Lib.hid ho4
    clear ho4
    refine hKp5 _ _ (fun _ => X4.out.cells) ?_
    clear hS
    have hS := X4.out.cells
    try simp only [Act.put, List.setIfInBounds_toArray, List.set_cons_zero, List.set_cons_succ]
    refine wpAnyL_take (i := 6) (oi := { dst := some 4, op := Go.Op.assign (Go.Operand.tmp 15), type := 23, pos := "l5_orders.go:141", after := #[{ on := 5, ground := Go.Ground.data }, { on := 5, ground := Go.Ground.chain }, { on := 0, ground := Go.Ground.phase }, { on := 1, ground := Go.Ground.phase }, { on := 2, ground := Go.Ground.phase }, { on := 3, ground := Go.Ground.phase }, { on := 4, ground := Go.Ground.phase }, { on := 5, ground := Go.Ground.phase }], guard := none }) (v := ?pv6) rfl (by kernel_rfl) (by kernel_rfl) (by kernel_rfl) (by kernel_rfl) (fun _ _ _ h => h) (Or.inl ⟨by rfl, ?ph6⟩) hS ?pr6
    case ph6 => (intro wS hSw; (try dsimp only at hSw); go_split_ands; go_simp; try with_reducible rfl)
    try simp only [Act.put, List.setIfInBounds_toArray, List.set_cons_zero, List.set_cons_succ]
    refine wpAnyL_take (i := 7) (oi := { dst := some 5, op := Go.Op.assign (Go.Operand.const (Go.Value.bool true)), type := 4, pos := "l5_orders.go:141", after := #[{ on := 6, ground := Go.Ground.chain }, { on := 0, ground := Go.Ground.phase }, { on := 1, ground := Go.Ground.phase }, { on := 2, ground := Go.Ground.phase }, { on := 3, ground := Go.Ground.phase }, { on := 4, ground := Go.Ground.phase }, { on := 5, ground := Go.Ground.phase }, { on := 6, ground := Go.Ground.phase }], guard := none }) (v := ?pv7) rfl (by kernel_rfl) (by kernel_rfl) (by kernel_rfl) (by kernel_rfl) (fun _ _ _ h => h) (Or.inl ⟨by rfl, ?ph7⟩) hS ?pr7
    case ph7 => (intro wS hSw; (try dsimp only at hSw); go_split_ands; go_simp; try with_reducible rfl)
    try simp only [Act.put, List.setIfInBounds_toArray, List.set_cons_zero, List.set_cons_succ]
    refine wpAnyL_done (by kernel_rfl) ?_ _
    go_wp2_with fail
    go_ret2
    rw [HFY.out, HM.out]
    have hz3 := B3.out.size
    exact ⟨ra, rc, rfl, O4.out.mono (by omega) (Nat.le_refl _), hl4, hm4, B4.out⟩
theorem implFirst_lw (w : World) (lo hi : Nat) (m : M.Mz) (a b : Option Addr) (c d : Nat) (h : MzIn lo hi w m a c b d) (hz : hi ≤ w.heap.size) (_h1 : m.doors.length ≤ 1048576) (_h2 : m.keys.length ≤ 1048576) :
    Calls Try.prog 24 #[.agg #[.int .i64 m.size, .slice a m.doors.length c, .slice b m.keys.length d]] w (IntsOkPost w (M.fullV m M.pickMin) (M.mazeB m)) := by
  have H := Lib.hid h
  clear h
  go_enter Try.func24, Try.ntmps24
  go_wp2_with fail
  refine named ?_
  intro W hW
  have HB := Lib.hid (show Below w.heap.size w W by rw [hW]; exact below_alloc _ _)
  clear hW
  have hzw := HB.out.size
  refine (complete_any W lo hi m a b c d (H.out.below HB.out hz) (by omega) 63 M.pickMin M.picks_min pickOk_min (enters_of Try.func63 (by kernel_rfl) rfl)).mono ?_
  rintro e w1 ⟨ra, rc, rfl, ho, hq1, hq2, hb1⟩
  have HO := Lib.hid ho
  have HB1 := Lib.hid (HB.out.trans (hb1.mono hzw))
  clear ho hb1
  go_wp2_with fail
  go_ret2
  exact ⟨ra, rc, rfl, HO.out.mono hzw (Nat.le_refl _), hq1, hq2, HB1.out⟩
theorem implLast_lw (w : World) (lo hi : Nat) (m : M.Mz) (a b : Option Addr) (c d : Nat) (h : MzIn lo hi w m a c b d) (hz : hi ≤ w.heap.size) (_h1 : m.doors.length ≤ 1048576) (_h2 : m.keys.length ≤ 1048576) :
    Calls Try.prog 29 #[.agg #[.int .i64 m.size, .slice a m.doors.length c, .slice b m.keys.length d]] w (IntsOkPost w (M.fullV m M.pickMax) (M.mazeB m)) := by
  have H := Lib.hid h
  clear h
  go_enter Try.func29, Try.ntmps29
  go_wp2_with fail
  refine named ?_
  intro W hW
  have HB := Lib.hid (show Below w.heap.size w W by rw [hW]; exact below_alloc _ _)
  clear hW
  have hzw := HB.out.size
  refine (complete_any W lo hi m a b c d (H.out.below HB.out hz) (by omega) 65 M.pickMax M.picks_max pickOk_max (enters_of Try.func65 (by kernel_rfl) rfl)).mono ?_
  rintro e w1 ⟨ra, rc, rfl, ho, hq1, hq2, hb1⟩
  have HO := Lib.hid ho
  have HB1 := Lib.hid (HB.out.trans (hb1.mono hzw))
  clear ho hb1
  go_wp2_with fail
  go_ret2
  exact ⟨ra, rc, rfl, HO.out.mono hzw (Nat.le_refl _), hq1, hq2, HB1.out⟩
end C
end Go.Proofs.Ytdjmmgfjcchloaa
