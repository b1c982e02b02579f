/-
  CONTRACTS of spec.l5Entered, LatestPlace, Precedes; what lay in memory stays. No condition but that memory reads so.
-/
import Derived.Test.YtdjmmgfjcchloaaLatM
import Derived.Test.YtdjmmgfjcchloaaFullS
import Derived.Test.YtdjmmgfjcchloaaBigS
import Derived.Test.YtdjmmgfjcchloaaListS
import Derived.Test.YtdjmmgfjcchloaaBoolOk
import Derived.Test.YtdjmmgfjcchloaaDoorsAt
import Derived.Test.YtdjmmgfjcchloaaLate
import Derived.Test.YtdjmmgfjcchloaaStep
namespace Go.Proofs.Ytdjmmgfjcchloaa
open Go.RowKit
namespace C
set_option maxHeartbeats 3200000
set_option maxRecDepth 20000
theorem l5Entered_any (w : World) (lo hi : Nat) (m : M.Mz) (a b : Option Addr) (c d : Nat) (x : Int) (h : MzIn lo hi w m a c b d) (hz : hi ≤ w.heap.size) :
    Calls Try.prog 80 #[.agg #[.int .i64 m.size, .slice a m.doors.length c, .slice b m.keys.length d], .int .i64 x] w fun e w' => e = .returned (.bool (M.entB m x)) ∧ Below w.heap.size w w' := by
  have H := Lib.hid h
  clear h
  go_enter Try.func80, Try.ntmps80
  go_wp2_with fail
  refine named ?_
  intro W hW
  have hb : Below w.heap.size w W := by rw [hW]; exact below_alloc _ _
  have x1 : Box3 W w.heap.size 29 (.int .i64 m.size) (.slice a m.doors.length c) (.slice b m.keys.length d) := by rw [hW]; exact Box3.new _ _ _ _ rfl
  clear hW
  have hzw := hb.size
  refine (l2Node_any W lo hi m a b c d x (H.out.below hb hz) (by omega)).mono ?_
  rintro e w1 ⟨rfl, hb1⟩
  have X1 := Lib.hid (x1.below hb1)
  have B1 := Lib.hid (hb.trans (hb1.mono hzw))
  have hxl1 := X1.out.lt
  clear hb hb1 x1
  obtain ⟨c0, c1, c2⟩ := X1.out.cells
  cases qn : M.mzNodeB m x with
  | false =>
    have HE := Lib.hid (M.entB_no qn)
    clear qn
    go_wp2_with fail
    go_ret
    rw [HE.out]
    exact ⟨rfl, B1.out⟩
  | true =>
    have HE := Lib.hid (M.entB_yes qn)
    obtain ⟨V, x0, xs⟩ := M.mz_node qn
    have HV := Lib.hid V
    have HEH := Lib.hid (M.ent_has V x0)
    have hfb := (M.full_bd V (M.allN m) M.pmin).1
    clear qn V
    go_wp2_with fail
    refine (l5Full_min w1 lo hi m a b c d (H.out.below B1.out hz) (by have := B1.out.size; omega) HV.out).mono ?_
    rintro e w2 ⟨ra, rc, rfl, ho, hq1, hq2, hb2⟩
    have B2 := Lib.hid (B1.out.trans (hb2.mono B1.out.size))
    have HO := Lib.hid ho
    clear ho hb2
    go_wp2_with fail
    refine (l1Has_any w2 _ _ ra rc _ x HO.out.row (by omega)).mono ?_
    rintro e w3 ⟨rfl, rfl⟩
    rw [HEH.out, ← HE.out]
    go_wp2_with fail
    go_ret
    exact ⟨rfl, B2.out⟩
theorem specLat_lw (w : World) (lo hi : Nat) (m : M.Mz) (a b : Option Addr) (c d : Nat) (h : MzIn lo hi w m a c b d) (hz : hi ≤ w.heap.size) (_h1 : m.doors.length ≤ 1048576) (_h2 : m.keys.length ≤ 1048576) (x : Int) (_x1 : -9223372036854775808 ≤ x) (_x2 : x ≤ 9223372036854775807) :
    Calls Try.prog 47 #[.agg #[.int .i64 m.size, .slice a m.doors.length c, .slice b m.keys.length d], .int .i64 x] w (fun e w' => e = .returned (.tuple #[.int .i64 (M.latV m x), .bool (M.entB m x)]) ∧ Below w.heap.size w w') := by
  have H := Lib.hid h
  clear h
  go_enter Try.func47, Try.ntmps47
  go_wp2_with fail
  refine named ?_
  intro W hW
  have hb : Below w.heap.size w W := by rw [hW]; exact below_alloc _ _
  have x1 : Box3 W w.heap.size 29 (.int .i64 m.size) (.slice a m.doors.length c) (.slice b m.keys.length d) := by rw [hW]; exact Box3.new _ _ _ _ rfl
  clear hW
  have hzw := hb.size
  refine (l5Entered_any W lo hi m a b c d x (H.out.below hb hz) (by omega)).mono ?_
  rintro e w1 ⟨rfl, hb1⟩
  have X1 := Lib.hid (x1.below hb1)
  have B1 := Lib.hid (hb.trans (hb1.mono hzw))
  have hxl1 := X1.out.lt
  clear hb hb1 x1
  obtain ⟨c0, c1, c2⟩ := X1.out.cells
  cases qe : M.entB m x with
  | false =>
    have HE := Lib.hid qe
    clear qe
    go_wp2_with fail
    go_ret2
    rw [M.latV_no HE.out, HE.out]
    exact ⟨rfl, B1.out⟩
  | true =>
    have HE := Lib.hid qe
    have HLY := Lib.hid (M.latV_yes qe)
    have qn : M.mzNodeB m x = true := by unfold M.entB at qe; rw [Bool.and_eq_true] at qe; exact qe.1
    obtain ⟨V, x0, xs⟩ := M.mz_node qn
    have HV := Lib.hid V
    have v12 := V.size12
    clear qe qn V
    obtain ⟨q, rfl⟩ : ∃ q : Nat, x = (q : Int) := ⟨x.toNat, by omega⟩
    rw [Int.toNat_natCast] at HLY
    rcases Decidable.em (q = 0) with h0 | h0
    · subst h0
      have HZ : Hid (M.latV m ((0 : Nat) : Int) = 0) := Lib.hid (by rw [HLY.out, M.woE_zero HV.out]; rfl)
      go_wp2_with fail
      go_ret2
      rw [HZ.out, HE.out]
      exact ⟨rfl, B1.out⟩
    · have hq0b : ((q : Int) == 0) = false := by rw [beq_eq_false_iff_ne]; omega
      have hqne : ¬ (q : Int) = 0 := by omega
      have HWE := Lib.hid (M.woE_big HV.out (x := q) (by omega) h0)
      have hw4 := M.woE_lt HV.out q
      have v1 := HV.out.size1
      have hwp := M.wrap_two HV.out
      have hN := M.two_size HV.out
      have hm0 : ¬ m.size < 0 := by omega
      have hq12 : q < 12 := by omega
      have hq0 : ¬ (q : Int) < 0 := by omega
      obtain ⟨hpw, hpw2⟩ := M.wrapsP (p := q) hq12
      have hsub := M.wo_sub HV.out (x := q) (by omega)
      have hpl : 2 ^ q ≤ 2 ^ m.size.toNat - 1 := by
        have h1 : (2 : Nat) ^ q < 2 ^ m.size.toNat := Nat.pow_lt_pow_of_lt (by decide) (by omega)
        omega
      have hpi : ((2 : Int) ^ q) = ((2 ^ q : Nat) : Int) := by simp
      have hwp2 : IntKind.i64.wrap (2 ^ m.size.toNat) = ((2 ^ m.size.toNat : Nat) : Int) := by
        have e : ((2 : Int) ^ m.size.toNat) = ((2 ^ m.size.toNat : Nat) : Int) := by simp
        rw [e]
        exact M.wraps_i64 _ (by omega) (by omega)
      generalize 2 ^ m.size.toNat = N at *
      have hA1 : IntKind.i64.wrap ((N : Int) - 1) = (N : Int) - 1 := M.wraps_i64 _ (by omega) (by omega)
      have hA2 : IntKind.i64.wrap ((N : Int) - 1 - 2 ^ q) = ((M.woN m q : Nat) : Int) := by
        rw [hpi, hsub]
        generalize 2 ^ q = t at hpl
        rw [M.wraps_i64 _ (by omega) (by omega)]
        omega
      have hwlt := (M.wo_in HV.out hq12).1
      clear hpi hsub hpl
      clear c0 c1 c2 h0
      go_upto_region 5 with fail
      refine wp_region_late2 (fun (wq : World) => wq.cell? ⟨w.heap.size, 0, none⟩ = some (.int .i64 m.size) ∧ wq.cell? ⟨w.heap.size, 1, none⟩ = some (.slice a m.doors.length c) ∧ wq.cell? ⟨w.heap.size, 2, none⟩ = some (.slice b m.keys.length d)) [] 13 #[false, false, false, false, false, false, false, false, false, false, false, false, false] rfl rfl (by kernel_rfl) ?_
      have hS : (fun (wq : World) => wq.cell? ⟨w.heap.size, 0, none⟩ = some (.int .i64 m.size) ∧ wq.cell? ⟨w.heap.size, 1, none⟩ = some (.slice a m.doors.length c) ∧ wq.cell? ⟨w.heap.size, 2, none⟩ = some (.slice b m.keys.length d)) w1.drew := X1.out.cells
      refine wpAnyL_take (i := 0) (oi := { dst := some 12, op := Go.Op.load 29 (Go.Operand.tmp 2), type := 29, pos := "l5_orders.go:250", after := #[], guard := none }) (v := ?lv0) rfl (by kernel_rfl) (by kernel_rfl) (by kernel_rfl) (by kernel_rfl) (fun _ _ _ h => h) (Or.inl ⟨by rfl, ?lh0⟩) hS ?lr0
      case lh0 => (intro wS hSw; (try dsimp only at hSw); go_split_ands; go_simp; try with_reducible rfl)
      try simp only [Act.put, List.setIfInBounds_toArray, List.set_cons_zero, List.set_cons_succ]
      refine wpAnyL_take (i := 1) (oi := { dst := some 13, op := Go.Op.fieldAddr 29 (Go.Operand.tmp 2) 0, type := 0, pos := "l5_orders.go:250", after := #[], guard := none }) (v := ?lv1) rfl (by kernel_rfl) (by kernel_rfl) (by kernel_rfl) (by kernel_rfl) (fun _ _ _ h => h) (Or.inl ⟨by rfl, ?lh1⟩) hS ?lr1
      case lh1 => (intro wS hSw; (try dsimp only at hSw); go_split_ands; go_simp; try with_reducible rfl)
      try simp only [Act.put, List.setIfInBounds_toArray, List.set_cons_zero, List.set_cons_succ]
      refine wpAnyL_take (i := 2) (oi := { dst := some 14, op := Go.Op.load 3 (Go.Operand.tmp 13), type := 3, pos := "l5_orders.go:250", after := #[{ on := 1, ground := Go.Ground.data }], guard := none }) (v := ?lv2) rfl (by kernel_rfl) (by kernel_rfl) (by kernel_rfl) (by kernel_rfl) (fun _ _ _ h => h) (Or.inl ⟨by rfl, ?lh2⟩) hS ?lr2
      case lh2 => (intro wS hSw; (try dsimp only at hSw); go_split_ands; go_simp; try with_reducible rfl)
      try simp only [Act.put, List.setIfInBounds_toArray, List.set_cons_zero, List.set_cons_succ]
      refine wpAnyL_take (i := 3) (oi := { dst := some 15, op := Go.Op.binOp Go.BinOp.shl 3 (Go.Operand.const (Go.Value.int Go.IntKind.i64 1)) (Go.Operand.tmp 14) 3, type := 3, pos := "l5_orders.go:250", after := #[{ on := 2, ground := Go.Ground.data }], guard := none }) (v := ?lv3) rfl (by kernel_rfl) (by kernel_rfl) (by kernel_rfl) (by kernel_rfl) (fun _ _ _ h => h) (Or.inl ⟨by rfl, ?lh3⟩) hS ?lr3
      case lh3 => (intro wS hSw; (try dsimp only at hSw); go_split_ands; go_simp; try with_reducible rfl)
      try simp only [Act.put, List.setIfInBounds_toArray, List.set_cons_zero, List.set_cons_succ]
      refine wpAnyL_take (i := 4) (oi := { dst := some 16, op := Go.Op.binOp Go.BinOp.sub 3 (Go.Operand.tmp 15) (Go.Operand.const (Go.Value.int Go.IntKind.i64 1)) 3, type := 3, pos := "l5_orders.go:250", after := #[{ on := 3, ground := Go.Ground.data }], guard := none }) (v := ?lv4) rfl (by kernel_rfl) (by kernel_rfl) (by kernel_rfl) (by kernel_rfl) (fun _ _ _ h => h) (Or.inl ⟨by rfl, ?lh4⟩) hS ?lr4
      case lh4 => (intro wS hSw; (try dsimp only at hSw); go_split_ands; go_simp; try with_reducible rfl)
      try simp only [Act.put, List.setIfInBounds_toArray, List.set_cons_zero, List.set_cons_succ]
      refine wpAnyL_take (i := 5) (oi := { dst := some 17, op := Go.Op.move (Go.Operand.tmp 1), type := 3, pos := "l5_orders.go:250", after := #[], guard := none }) (v := ?lv5) rfl (by kernel_rfl) (by kernel_rfl) (by kernel_rfl) (by kernel_rfl) (fun _ _ _ h => h) (Or.inl ⟨by rfl, ?lh5⟩) hS ?lr5
      case lh5 => (intro wS hSw; (try dsimp only at hSw); go_split_ands; go_simp; try with_reducible rfl)
      try simp only [Act.put, List.setIfInBounds_toArray, List.set_cons_zero, List.set_cons_succ]
      refine wpAnyL_take (i := 6) (oi := { dst := some 18, op := Go.Op.binOp Go.BinOp.shl 3 (Go.Operand.const (Go.Value.int Go.IntKind.i64 1)) (Go.Operand.tmp 17) 3, type := 3, pos := "l5_orders.go:250", after := #[{ on := 5, ground := Go.Ground.data }], guard := none }) (v := ?lv6) rfl (by kernel_rfl) (by kernel_rfl) (by kernel_rfl) (by kernel_rfl) (fun _ _ _ h => h) (Or.inl ⟨by rfl, ?lh6⟩) hS ?lr6
      case lh6 => (intro wS hSw; (try dsimp only at hSw); go_split_ands; go_simp; try with_reducible rfl)
      try simp only [Act.put, List.setIfInBounds_toArray, List.set_cons_zero, List.set_cons_succ]
      refine wpAnyL_take (i := 7) (oi := { dst := some 19, op := Go.Op.binOp Go.BinOp.sub 3 (Go.Operand.tmp 16) (Go.Operand.tmp 18) 3, type := 3, pos := "l5_orders.go:250", after := #[{ on := 4, ground := Go.Ground.data }, { on := 6, ground := Go.Ground.data }], guard := none }) (v := ?lv7) rfl (by kernel_rfl) (by kernel_rfl) (by kernel_rfl) (by kernel_rfl) (fun _ _ _ h => h) (Or.inl ⟨by rfl, ?lh7⟩) hS ?lr7
      case lh7 => (intro wS hSw; (try dsimp only at hSw); go_split_ands; go_simp; try with_reducible rfl)
      try simp only [Act.put, List.setIfInBounds_toArray, List.set_cons_zero, List.set_cons_succ]
      refine wpAnyL_one (i := 8) (oi := { dst := some 20, op := Go.Op.call { callee := Go.Callee.value (Go.Operand.func 73), args := #[Go.Operand.tmp 12, Go.Operand.tmp 19], argTypes := #[29, 3] }, type := 3, pos := "l5_orders.go:250", after := #[{ on := 0, ground := Go.Ground.data }, { on := 7, ground := Go.Ground.data }], guard := none }) (by kernel_rfl) rfl (fun Kl8 hKl8 => ?_)
      refine step_call (by rfl) 73 #[.agg #[.int .i64 m.size, .slice a m.doors.length c, .slice b m.keys.length d], .int .i64 ((M.woN m q : Nat) : Int)] (by go_simp; try rfl) (by have h := l5Largest_any w1.drew lo hi m a b c d (H.out.below (Below.drawnN B1.out 1) hz) (by have := B1.out.size; show hi ≤ w1.heap.size; omega) HV.out (M.woN m q) hwlt; rw [← HWE.out] at h; exact h) ?_
      rintro e w2 ⟨rfl, hb2⟩
      refine ⟨_, rfl, ?_⟩
      have hb2x : Below w1.heap.size w1 w2 := (Below.refl w1.heap.size w1).drew.trans hb2
      have X2 := Lib.hid (X1.out.below hb2x)
      have B2 := Lib.hid (B1.out.trans (hb2x.mono B1.out.size))
      refine hKl8 _ _ (fun _ => X2.out.cells) ?_
      clear hS
      have hS := X2.out.cells
      try simp only [Act.put, List.setIfInBounds_toArray, List.set_cons_zero, List.set_cons_succ]
      refine wpAnyL_one (i := 9) (oi := { dst := some 21, op := Go.Op.call { callee := Go.Callee.value (Go.Operand.func 76), args := #[Go.Operand.tmp 20], argTypes := #[3] }, type := 23, pos := "l5_orders.go:250", after := #[{ on := 8, ground := Go.Ground.data }, { on := 8, ground := Go.Ground.chain }], guard := none }) (by kernel_rfl) rfl (fun Kl9 hKl9 => ?_)
      refine step_call (by rfl) 76 #[.int .i64 ((M.woE m q : Nat) : Int)] (by go_simp; try rfl) (l5Nodes_any (M.woE m q) hw4 w2) ?_
      rintro e w3 ⟨ra, rc, rfl, ho, hq1, hq2, hb3⟩
      refine ⟨_, rfl, ?_⟩
      have X3 := Lib.hid (X2.out.below hb3)
      have B3 := Lib.hid (B2.out.trans (hb3.mono B2.out.size))
      clear ho
      refine hKl9 _ _ (fun _ => X3.out.cells) ?_
      clear hS
      have hS := X3.out.cells
      try simp only [Act.put, List.setIfInBounds_toArray, List.set_cons_zero, List.set_cons_succ]
      refine wpAnyL_one (i := 10) (oi := { dst := some 22, op := Go.Op.call { callee := Go.Callee.builtin Go.Builtin.len, args := #[Go.Operand.tmp 21], argTypes := #[23] }, type := 3, pos := "l5_orders.go:250", after := #[{ on := 9, ground := Go.Ground.data }], guard := none }) (by kernel_rfl) rfl (fun Kl10 hKl10 => ?_)
      go_simp
      refine hKl10 _ _ (fun _ => hS) ?_
      try simp only [List.setIfInBounds_toArray, List.set_cons_zero, List.set_cons_succ]
      refine wpAnyL_take (i := 11) (oi := { dst := some 4, op := Go.Op.assign (Go.Operand.tmp 22), type := 3, pos := "l5_orders.go:250", after := #[{ on := 10, ground := Go.Ground.data }, { on := 9, ground := Go.Ground.chain }, { on := 0, ground := Go.Ground.phase }, { on := 1, ground := Go.Ground.phase }, { on := 2, ground := Go.Ground.phase }, { on := 3, ground := Go.Ground.phase }, { on := 4, ground := Go.Ground.phase }, { on := 5, ground := Go.Ground.phase }, { on := 6, ground := Go.Ground.phase }, { on := 7, ground := Go.Ground.phase }, { on := 8, ground := Go.Ground.phase }, { on := 9, ground := Go.Ground.phase }, { on := 10, ground := Go.Ground.phase }], guard := none }) (v := ?lv11) rfl (by kernel_rfl) (by kernel_rfl) (by kernel_rfl) (by kernel_rfl) (fun _ _ _ h => h) (Or.inl ⟨by rfl, ?lh11⟩) hS ?lr11
      case lh11 => (intro wS hSw; (try dsimp only at hSw); go_split_ands; go_simp; try with_reducible rfl)
      try simp only [Act.put, List.setIfInBounds_toArray, List.set_cons_zero, List.set_cons_succ]
      refine wpAnyL_take (i := 12) (oi := { dst := some 5, op := Go.Op.assign (Go.Operand.const (Go.Value.bool true)), type := 4, pos := "l5_orders.go:250", after := #[{ on := 11, ground := Go.Ground.chain }, { on := 0, ground := Go.Ground.phase }, { on := 1, ground := Go.Ground.phase }, { on := 2, ground := Go.Ground.phase }, { on := 3, ground := Go.Ground.phase }, { on := 4, ground := Go.Ground.phase }, { on := 5, ground := Go.Ground.phase }, { on := 6, ground := Go.Ground.phase }, { on := 7, ground := Go.Ground.phase }, { on := 8, ground := Go.Ground.phase }, { on := 9, ground := Go.Ground.phase }, { on := 10, ground := Go.Ground.phase }, { on := 11, ground := Go.Ground.phase }], guard := none }) (v := ?lv12) rfl (by kernel_rfl) (by kernel_rfl) (by kernel_rfl) (by kernel_rfl) (fun _ _ _ h => h) (Or.inl ⟨by rfl, ?lh12⟩) hS ?lr12
      case lh12 => (intro wS hSw; (try dsimp only at hSw); go_split_ands; go_simp; try with_reducible rfl)
      try simp only [Act.put, List.setIfInBounds_toArray, List.set_cons_zero, List.set_cons_succ]
      refine wpAnyL_done (by kernel_rfl) ?_ _
      go_wp2_with fail
      go_ret2
      rw [HLY.out, HE.out]
      exact ⟨rfl, B3.out⟩
theorem specPre_lw (w : World) (lo hi : Nat) (m : M.Mz) (a b : Option Addr) (c d : Nat) (h : MzIn lo hi w m a c b d) (hz : hi ≤ w.heap.size) (_h1 : m.doors.length ≤ 1048576) (_h2 : m.keys.length ≤ 1048576) (x : Int) (_x1 : -9223372036854775808 ≤ x) (_x2 : x ≤ 9223372036854775807) (y : Int) (_y1 : -9223372036854775808 ≤ y) (_y2 : y ≤ 9223372036854775807) :
    Calls Try.prog 49 #[.agg #[.int .i64 m.size, .slice a m.doors.length c, .slice b m.keys.length d], .int .i64 x, .int .i64 y] w (BoolOkPost w (M.preV m x y) (M.preB m x y)) := by
  have H := Lib.hid h
  clear h
  go_enter Try.func49, Try.ntmps49
  go_wp2_with fail
  refine named ?_
  intro W hW
  have hb : Below w.heap.size w W := by rw [hW]; exact below_alloc _ _
  have x1 : Box3 W w.heap.size 29 (.int .i64 m.size) (.slice a m.doors.length c) (.slice b m.keys.length d) := by rw [hW]; exact Box3.new _ _ _ _ rfl
  clear hW
  have hzw := hb.size
  refine (l2Node_any W lo hi m a b c d x (H.out.below hb hz) (by omega)).mono ?_
  rintro e w1 ⟨rfl, hb1⟩
  have X1 := Lib.hid (x1.below hb1)
  have B1 := Lib.hid (hb.trans (hb1.mono hzw))
  have hxl1 := X1.out.lt
  clear hb hb1 x1
  obtain ⟨c0, c1, c2⟩ := X1.out.cells
  cases qx : M.mzNodeB m x with
  | false =>
    have HP : Hid (M.preB m x y = false) := Lib.hid (by unfold M.preB; rw [qx]; rfl)
    clear qx
    go_wp2_with fail
    go_ret2
    rw [M.preV_no HP.out, HP.out]
    exact ⟨rfl, B1.out⟩
  | true =>
    have HX := Lib.hid qx
    obtain ⟨V, x0, xs⟩ := M.mz_node qx
    have HV := Lib.hid V
    have v12 := V.size12
    have v1 := V.size1
    have HMZ : Hid (M.mazeB m = true) := Lib.hid (by unfold M.mzNodeB at qx; rw [Bool.and_eq_true] at qx; exact qx.1)
    have HYE : Hid (M.mzNodeB m y = M.nodeB m.size y) := Lib.hid (by unfold M.mzNodeB; rw [HMZ.out]; rfl)
    clear qx V
    go_wp2_with fail
    refine (l2Node_any w1 lo hi m a b c d y (H.out.below B1.out hz) (by have := B1.out.size; omega)).mono ?_
    rintro e w2 ⟨rfl, hb2⟩
    have X2 := Lib.hid (X1.out.below hb2)
    have B2 := Lib.hid (B1.out.trans (hb2.mono B1.out.size))
    have hx2 := X2.out.lt
    clear hb2
    rw [HYE.out]
    clear c0 c1 c2
    obtain ⟨c0, c1, c2⟩ := X2.out.cells
    cases qy : M.nodeB m.size y with
    | false =>
      have HP : Hid (M.preB m x y = false) := Lib.hid (by unfold M.preB; rw [qy, Bool.and_false])
      clear qy
      go_wp2_with fail
      go_ret2
      rw [M.preV_no HP.out, HP.out]
      exact ⟨rfl, B2.out⟩
    | true =>
      have HP : Hid (M.preB m x y = true) := Lib.hid (by unfold M.preB; rw [qy, HX.out]; rfl)
      have HYN : Hid (M.mzNodeB m y = true) := Lib.hid (by rw [HYE.out, qy])
      obtain ⟨y0, y1⟩ : 0 ≤ y ∧ y < m.size := by unfold M.nodeB at qy; rwa [decide_eq_true_iff] at qy
      clear qy
      obtain ⟨q, rfl⟩ : ∃ q : Nat, x = (q : Int) := ⟨x.toNat, by omega⟩
      obtain ⟨r, rfl⟩ : ∃ r : Nat, y = (r : Int) := ⟨y.toNat, by omega⟩
      have HPV := Lib.hid (M.preV_yes HP.out)
      have HEX := Lib.hid (M.entB_yes HX.out)
      have HEYY := Lib.hid (M.entB_yes HYN.out)
      rw [Int.toNat_natCast] at HEX HEYY
      rw [Int.toNat_natCast, Int.toNat_natCast] at HPV
      rcases Decidable.em ((q : Int) = (r : Int)) with he | he
      · have HR : Hid (M.preV m (q : Int) (r : Int) = false) := Lib.hid (by rw [HPV.out, decide_eq_true he]; rfl)
        have hqr : q = r := by omega
        subst hqr
        clear he
        go_wp2_with fail
        go_ret2
        rw [HR.out, HP.out]
        exact ⟨rfl, B2.out⟩
      · have hqe : ((q : Int) == (r : Int)) = false := by simpa using he
        have hqr : ¬ q = r := by omega
        go_wp2_with fail
        refine (l5Entered_any w2 lo hi m a b c d (q : Int) (H.out.below B2.out hz) (by have := B2.out.size; omega)).mono ?_
        rintro e w3 ⟨rfl, hb3⟩
        have X3 := Lib.hid (X2.out.below hb3)
        have B3 := Lib.hid (B2.out.trans (hb3.mono B2.out.size))
        have hx3 := X3.out.lt
        clear hb3
        rw [HEX.out]
        clear c0 c1 c2
        obtain ⟨c0, c1, c2⟩ := X3.out.cells
        cases qd : M.digB (M.allE m) q with
        | false =>
          have HR : Hid (M.preV m (q : Int) (r : Int) = false) := Lib.hid (by rw [HPV.out, M.pre_ent HV.out (by omega) qd, Bool.and_false])
          clear qd he
          go_wp2_with fail
          go_ret2
          rw [HR.out, HP.out]
          exact ⟨rfl, B3.out⟩
        | true =>
          clear qd
          go_wp2_with fail
          refine (l5Entered_any w3 lo hi m a b c d (r : Int) (H.out.below B3.out hz) (by have := B3.out.size; omega)).mono ?_
          rintro e w4 ⟨rfl, hb4⟩
          have X4 := Lib.hid (X3.out.below hb4)
          have B4 := Lib.hid (B3.out.trans (hb4.mono B3.out.size))
          have hx4 := X4.out.lt
          clear hb4
          rw [HEYY.out]
          clear c0 c1 c2
          obtain ⟨c0, c1, c2⟩ := X4.out.cells
          cases qf : M.digB (M.allE m) r with
          | false =>
            have HR : Hid (M.preV m (q : Int) (r : Int) = false) := Lib.hid (by rw [HPV.out, qf, Bool.false_and, Bool.and_false])
            clear qf he
            go_wp2_with fail
            go_ret2
            rw [HR.out, HP.out]
            exact ⟨rfl, B4.out⟩
          | true =>
            have HPW : Hid (M.preV m (q : Int) (r : Int) = !M.digB (M.woE m q) r) := Lib.hid (by rw [HPV.out, qf, decide_eq_false he]; cases M.digB (M.woE m q) r <;> rfl)
            clear qf he
            rcases Decidable.em (q = 0) with h0 | h0
            · subst h0
              have HR : Hid (M.preV m ((0 : Nat) : Int) (r : Int) = true) := Lib.hid (by rw [HPW.out, M.woE_zero HV.out]; unfold M.digB; simp)
              go_wp2_with fail
              go_ret2
              rw [HR.out, HP.out]
              exact ⟨rfl, B4.out⟩
            · have hq0b : ((q : Int) == 0) = false := by rw [beq_eq_false_iff_ne]; omega
              have hqne : ¬ (q : Int) = 0 := by omega
              have HWE := Lib.hid (M.woE_big HV.out (x := q) (by omega) h0)
              have hw4 := M.woE_lt HV.out q
              have hbt := M.bit_test0 (p := r) hw4
              rw [← HPW.out] at hbt
              have hr0 : ¬ (r : Int) < 0 := by omega
              have hwp := M.wrap_two HV.out
              have hN := M.two_size HV.out
              have hm0 : ¬ m.size < 0 := by omega
              have hq12 : q < 12 := by omega
              have hq0 : ¬ (q : Int) < 0 := by omega
              obtain ⟨hpw, hpw2⟩ := M.wrapsP (p := q) hq12
              have hsub := M.wo_sub HV.out (x := q) (by omega)
              have hpl : 2 ^ q ≤ 2 ^ m.size.toNat - 1 := by
                have h1 : (2 : Nat) ^ q < 2 ^ m.size.toNat := Nat.pow_lt_pow_of_lt (by decide) (by omega)
                omega
              have hpi : ((2 : Int) ^ q) = ((2 ^ q : Nat) : Int) := by simp
              have hwp2 : IntKind.i64.wrap (2 ^ m.size.toNat) = ((2 ^ m.size.toNat : Nat) : Int) := by
                have e : ((2 : Int) ^ m.size.toNat) = ((2 ^ m.size.toNat : Nat) : Int) := by simp
                rw [e]
                exact M.wraps_i64 _ (by omega) (by omega)
              generalize 2 ^ m.size.toNat = N at *
              have hA1 : IntKind.i64.wrap ((N : Int) - 1) = (N : Int) - 1 := M.wraps_i64 _ (by omega) (by omega)
              have hA2 : IntKind.i64.wrap ((N : Int) - 1 - 2 ^ q) = ((M.woN m q : Nat) : Int) := by
                rw [hpi, hsub]
                generalize 2 ^ q = t at hpl
                rw [M.wraps_i64 _ (by omega) (by omega)]
                omega
              have hwlt := (M.wo_in HV.out hq12).1
              clear hpi hsub hpl
              clear c0 c1 c2 h0
              go_upto_region 7 with fail
              refine wp_region_late2 (fun (wq : World) => wq.cell? ⟨w.heap.size, 0, none⟩ = some (.int .i64 m.size) ∧ wq.cell? ⟨w.heap.size, 1, none⟩ = some (.slice a m.doors.length c) ∧ wq.cell? ⟨w.heap.size, 2, none⟩ = some (.slice b m.keys.length d)) [] 15 #[false, false, false, false, false, false, false, false, false, false, false, false, false, false, false] rfl rfl (by kernel_rfl) ?_
              have hS : (fun (wq : World) => wq.cell? ⟨w.heap.size, 0, none⟩ = some (.int .i64 m.size) ∧ wq.cell? ⟨w.heap.size, 1, none⟩ = some (.slice a m.doors.length c) ∧ wq.cell? ⟨w.heap.size, 2, none⟩ = some (.slice b m.keys.length d)) w4.drew := X4.out.cells
              refine wpAnyL_take (i := 0) (oi := { dst := some 35, op := Go.Op.load 29 (Go.Operand.tmp 3), type := 29, pos := "l5_orders.go:263", after := #[], guard := none }) (v := ?rv0) rfl (by kernel_rfl) (by kernel_rfl) (by kernel_rfl) (by kernel_rfl) (fun _ _ _ h => h) (Or.inl ⟨by rfl, ?rh0⟩) hS ?rr0
              case rh0 => (intro wS hSw; (try dsimp only at hSw); go_split_ands; go_simp; try with_reducible rfl)
              try simp only [Act.put, List.setIfInBounds_toArray, List.set_cons_zero, List.set_cons_succ]
              refine wpAnyL_take (i := 1) (oi := { dst := some 36, op := Go.Op.fieldAddr 29 (Go.Operand.tmp 3) 0, type := 0, pos := "l5_orders.go:263", after := #[], guard := none }) (v := ?rv1) rfl (by kernel_rfl) (by kernel_rfl) (by kernel_rfl) (by kernel_rfl) (fun _ _ _ h => h) (Or.inl ⟨by rfl, ?rh1⟩) hS ?rr1
              case rh1 => (intro wS hSw; (try dsimp only at hSw); go_split_ands; go_simp; try with_reducible rfl)
              try simp only [Act.put, List.setIfInBounds_toArray, List.set_cons_zero, List.set_cons_succ]
              refine wpAnyL_take (i := 2) (oi := { dst := some 37, op := Go.Op.load 3 (Go.Operand.tmp 36), type := 3, pos := "l5_orders.go:263", after := #[{ on := 1, ground := Go.Ground.data }], guard := none }) (v := ?rv2) rfl (by kernel_rfl) (by kernel_rfl) (by kernel_rfl) (by kernel_rfl) (fun _ _ _ h => h) (Or.inl ⟨by rfl, ?rh2⟩) hS ?rr2
              case rh2 => (intro wS hSw; (try dsimp only at hSw); go_split_ands; go_simp; try with_reducible rfl)
              try simp only [Act.put, List.setIfInBounds_toArray, List.set_cons_zero, List.set_cons_succ]
              refine wpAnyL_take (i := 3) (oi := { dst := some 38, op := Go.Op.binOp Go.BinOp.shl 3 (Go.Operand.const (Go.Value.int Go.IntKind.i64 1)) (Go.Operand.tmp 37) 3, type := 3, pos := "l5_orders.go:263", after := #[{ on := 2, ground := Go.Ground.data }], guard := none }) (v := ?rv3) rfl (by kernel_rfl) (by kernel_rfl) (by kernel_rfl) (by kernel_rfl) (fun _ _ _ h => h) (Or.inl ⟨by rfl, ?rh3⟩) hS ?rr3
              case rh3 => (intro wS hSw; (try dsimp only at hSw); go_split_ands; go_simp; try with_reducible rfl)
              try simp only [Act.put, List.setIfInBounds_toArray, List.set_cons_zero, List.set_cons_succ]
              refine wpAnyL_take (i := 4) (oi := { dst := some 39, op := Go.Op.binOp Go.BinOp.sub 3 (Go.Operand.tmp 38) (Go.Operand.const (Go.Value.int Go.IntKind.i64 1)) 3, type := 3, pos := "l5_orders.go:263", after := #[{ on := 3, ground := Go.Ground.data }], guard := none }) (v := ?rv4) rfl (by kernel_rfl) (by kernel_rfl) (by kernel_rfl) (by kernel_rfl) (fun _ _ _ h => h) (Or.inl ⟨by rfl, ?rh4⟩) hS ?rr4
              case rh4 => (intro wS hSw; (try dsimp only at hSw); go_split_ands; go_simp; try with_reducible rfl)
              try simp only [Act.put, List.setIfInBounds_toArray, List.set_cons_zero, List.set_cons_succ]
              refine wpAnyL_take (i := 5) (oi := { dst := some 40, op := Go.Op.move (Go.Operand.tmp 1), type := 3, pos := "l5_orders.go:263", after := #[], guard := none }) (v := ?rv5) rfl (by kernel_rfl) (by kernel_rfl) (by kernel_rfl) (by kernel_rfl) (fun _ _ _ h => h) (Or.inl ⟨by rfl, ?rh5⟩) hS ?rr5
              case rh5 => (intro wS hSw; (try dsimp only at hSw); go_split_ands; go_simp; try with_reducible rfl)
              try simp only [Act.put, List.setIfInBounds_toArray, List.set_cons_zero, List.set_cons_succ]
              refine wpAnyL_take (i := 6) (oi := { dst := some 41, op := Go.Op.binOp Go.BinOp.shl 3 (Go.Operand.const (Go.Value.int Go.IntKind.i64 1)) (Go.Operand.tmp 40) 3, type := 3, pos := "l5_orders.go:263", after := #[{ on := 5, ground := Go.Ground.data }], guard := none }) (v := ?rv6) rfl (by kernel_rfl) (by kernel_rfl) (by kernel_rfl) (by kernel_rfl) (fun _ _ _ h => h) (Or.inl ⟨by rfl, ?rh6⟩) hS ?rr6
              case rh6 => (intro wS hSw; (try dsimp only at hSw); go_split_ands; go_simp; try with_reducible rfl)
              try simp only [Act.put, List.setIfInBounds_toArray, List.set_cons_zero, List.set_cons_succ]
              refine wpAnyL_take (i := 7) (oi := { dst := some 42, op := Go.Op.binOp Go.BinOp.sub 3 (Go.Operand.tmp 39) (Go.Operand.tmp 41) 3, type := 3, pos := "l5_orders.go:263", after := #[{ on := 4, ground := Go.Ground.data }, { on := 6, ground := Go.Ground.data }], guard := none }) (v := ?rv7) rfl (by kernel_rfl) (by kernel_rfl) (by kernel_rfl) (by kernel_rfl) (fun _ _ _ h => h) (Or.inl ⟨by rfl, ?rh7⟩) hS ?rr7
              case rh7 => (intro wS hSw; (try dsimp only at hSw); go_split_ands; go_simp; try with_reducible rfl)
              try simp only [Act.put, List.setIfInBounds_toArray, List.set_cons_zero, List.set_cons_succ]
              refine wpAnyL_take (i := 9) (oi := { dst := some 44, op := Go.Op.move (Go.Operand.tmp 2), type := 3, pos := "l5_orders.go:263", after := #[], guard := none }) (v := ?rv9) rfl (by kernel_rfl) (by kernel_rfl) (by kernel_rfl) (by kernel_rfl) (fun _ _ _ h => h) (Or.inl ⟨by rfl, ?rh9⟩) hS ?rr9
              case rh9 => (intro wS hSw; (try dsimp only at hSw); go_split_ands; go_simp; try with_reducible rfl)
              try simp only [Act.put, List.setIfInBounds_toArray, List.set_cons_zero, List.set_cons_succ]
              refine wpAnyL_one (i := 8) (oi := { dst := some 43, op := Go.Op.call { callee := Go.Callee.value (Go.Operand.func 73), args := #[Go.Operand.tmp 35, Go.Operand.tmp 42], argTypes := #[29, 3] }, type := 3, pos := "l5_orders.go:263", after := #[{ on := 0, ground := Go.Ground.data }, { on := 7, ground := Go.Ground.data }], guard := none }) (by kernel_rfl) rfl (fun Kr8 hKr8 => ?_)
              refine step_call (by rfl) 73 #[.agg #[.int .i64 m.size, .slice a m.doors.length c, .slice b m.keys.length d], .int .i64 ((M.woN m q : Nat) : Int)] (by go_simp; try rfl) (by have h := l5Largest_any w4.drew lo hi m a b c d (H.out.below (Below.drawnN B4.out 1) hz) (by have := B4.out.size; show hi ≤ w4.heap.size; omega) HV.out (M.woN m q) hwlt; rw [← HWE.out] at h; exact h) ?_
              rintro e w5 ⟨rfl, hb5⟩
              refine ⟨_, rfl, ?_⟩
              have hb5x : Below w4.heap.size w4 w5 := (Below.refl w4.heap.size w4).drew.trans hb5
              have X5 := Lib.hid (X4.out.below hb5x)
              have B5 := Lib.hid (B4.out.trans (hb5x.mono B4.out.size))
              refine hKr8 _ _ (fun _ => X5.out.cells) ?_
              clear hS
              have hS := X5.out.cells
              try simp only [Act.put, List.setIfInBounds_toArray, List.set_cons_zero, List.set_cons_succ]
              refine wpAnyL_take (i := 10) (oi := { dst := some 45, op := Go.Op.binOp Go.BinOp.shr 3 (Go.Operand.tmp 43) (Go.Operand.tmp 44) 3, type := 3, pos := "l5_orders.go:263", after := #[{ on := 8, ground := Go.Ground.data }, { on := 9, ground := Go.Ground.data }], guard := none }) (v := ?rv10) rfl (by kernel_rfl) (by kernel_rfl) (by kernel_rfl) (by kernel_rfl) (fun _ _ _ h => h) (Or.inl ⟨by rfl, ?rh10⟩) hS ?rr10
              case rh10 => (intro wS hSw; (try dsimp only at hSw); go_split_ands; go_simp; try with_reducible rfl)
              try simp only [Act.put, List.setIfInBounds_toArray, List.set_cons_zero, List.set_cons_succ]
              refine wpAnyL_take (i := 11) (oi := { dst := some 46, op := Go.Op.binOp Go.BinOp.and 3 (Go.Operand.tmp 45) (Go.Operand.const (Go.Value.int Go.IntKind.i64 1)) 3, type := 3, pos := "l5_orders.go:263", after := #[{ on := 10, ground := Go.Ground.data }], guard := none }) (v := ?rv11) rfl (by kernel_rfl) (by kernel_rfl) (by kernel_rfl) (by kernel_rfl) (fun _ _ _ h => h) (Or.inl ⟨by rfl, ?rh11⟩) hS ?rr11
              case rh11 => (intro wS hSw; (try dsimp only at hSw); go_split_ands; go_simp; try with_reducible rfl)
              try simp only [Act.put, List.setIfInBounds_toArray, List.set_cons_zero, List.set_cons_succ]
              refine wpAnyL_take (i := 12) (oi := { dst := some 47, op := Go.Op.binOp Go.BinOp.eql 3 (Go.Operand.tmp 46) (Go.Operand.const (Go.Value.int Go.IntKind.i64 0)) 3, type := 4, pos := "l5_orders.go:263", after := #[{ on := 11, ground := Go.Ground.data }], guard := none }) (v := ?rv12) rfl (by kernel_rfl) (by kernel_rfl) (by kernel_rfl) (by kernel_rfl) (fun _ _ _ h => h) (Or.inl ⟨by rfl, ?rh12⟩) hS ?rr12
              case rh12 => (intro wS hSw; (try dsimp only at hSw); go_split_ands; go_simp; try with_reducible rfl)
              try simp only [Act.put, List.setIfInBounds_toArray, List.set_cons_zero, List.set_cons_succ]
              refine wpAnyL_take (i := 13) (oi := { dst := some 6, op := Go.Op.assign (Go.Operand.tmp 47), type := 4, pos := "l5_orders.go:263", after := #[{ on := 12, ground := Go.Ground.data }, { on := 8, ground := Go.Ground.chain }, { on := 0, ground := Go.Ground.phase }, { on := 1, ground := Go.Ground.phase }, { on := 2, ground := Go.Ground.phase }, { on := 3, ground := Go.Ground.phase }, { on := 4, ground := Go.Ground.phase }, { on := 5, ground := Go.Ground.phase }, { on := 6, ground := Go.Ground.phase }, { on := 7, ground := Go.Ground.phase }, { on := 8, ground := Go.Ground.phase }, { on := 9, ground := Go.Ground.phase }, { on := 10, ground := Go.Ground.phase }, { on := 11, ground := Go.Ground.phase }, { on := 12, ground := Go.Ground.phase }], guard := none }) (v := ?rv13) rfl (by kernel_rfl) (by kernel_rfl) (by kernel_rfl) (by kernel_rfl) (fun _ _ _ h => h) (Or.inl ⟨by rfl, ?rh13⟩) hS ?rr13
              case rh13 => (intro wS hSw; (try dsimp only at hSw); go_split_ands; go_simp; try with_reducible rfl)
              try simp only [Act.put, List.setIfInBounds_toArray, List.set_cons_zero, List.set_cons_succ]
              refine wpAnyL_take (i := 14) (oi := { dst := some 7, op := Go.Op.assign (Go.Operand.const (Go.Value.bool true)), type := 4, pos := "l5_orders.go:263", after := #[{ on := 13, ground := Go.Ground.chain }, { on := 0, ground := Go.Ground.phase }, { on := 1, ground := Go.Ground.phase }, { on := 2, ground := Go.Ground.phase }, { on := 3, ground := Go.Ground.phase }, { on := 4, ground := Go.Ground.phase }, { on := 5, ground := Go.Ground.phase }, { on := 6, ground := Go.Ground.phase }, { on := 7, ground := Go.Ground.phase }, { on := 8, ground := Go.Ground.phase }, { on := 9, ground := Go.Ground.phase }, { on := 10, ground := Go.Ground.phase }, { on := 11, ground := Go.Ground.phase }, { on := 12, ground := Go.Ground.phase }, { on := 13, ground := Go.Ground.phase }], guard := none }) (v := ?rv14) rfl (by kernel_rfl) (by kernel_rfl) (by kernel_rfl) (by kernel_rfl) (fun _ _ _ h => h) (Or.inl ⟨by rfl, ?rh14⟩) hS ?rr14
              case rh14 => (intro wS hSw; (try dsimp only at hSw); go_split_ands; go_simp; try with_reducible rfl)
              try simp only [Act.put, List.setIfInBounds_toArray, List.set_cons_zero, List.set_cons_succ]
              refine wpAnyL_done (by kernel_rfl) ?_ _
              go_wp2_with fail
              go_ret2
              rw [HP.out]
              exact ⟨rfl, B5.out⟩
end C
end Go.Proofs.Ytdjmmgfjcchloaa
