/-
  CONTRACT of Precedes, the program's side; what lay in memory stays. No condition but that memory reads so.
-/
import Derived.Test.YtdjmmgfjcchloaaLatI
import Derived.Test.YtdjmmgfjcchloaaBoolOk
import Derived.Test.YtdjmmgfjcchloaaNodeB
import Derived.Test.YtdjmmgfjcchloaaLate
import Derived.Test.YtdjmmgfjcchloaaStep
namespace Go.Proofs.Ytdjmmgfjcchloaa
open Go.RowKit
namespace C
set_option maxHeartbeats 3200000
set_option maxRecDepth 20000
theorem implPre_lw (w : World) (lo hi : Nat) (m : M.Mz) (a b : Option Addr) (c d : Nat) (h : MzIn lo hi w m a c b d) (hz : hi ≤ w.heap.size) (_h1 : m.doors.length ≤ 1048576) (_h2 : m.keys.length ≤ 1048576) (x : Int) (_x1 : -9223372036854775808 ≤ x) (_x2 : x ≤ 9223372036854775807) (y : Int) (_y1 : -9223372036854775808 ≤ y) (_y2 : y ≤ 9223372036854775807) :
    Calls Try.prog 50 #[.agg #[.int .i64 m.size, .slice a m.doors.length c, .slice b m.keys.length d], .int .i64 x, .int .i64 y] w (BoolOkPost w (M.preV m x y) (M.preB m x y)) := by
  obtain ⟨ii0, hi0, hz0, hzz1, hz2⟩ := info_parts infoI
  have H := Lib.hid h
  clear h
  go_enter Try.func50, Try.ntmps50
  go_wp2_with fail
  refine named ?_
  intro W hW
  have hb : Below w.heap.size w W := by rw [hW]; exact below_alloc _ _
  have x1 : Box3 W w.heap.size 29 (.int .i64 m.size) (.slice a m.doors.length c) (.slice b m.keys.length d) := by rw [hW]; exact Box3.new _ _ _ _ rfl
  clear hW
  have hzw := hb.size
  refine (isMaze_any W lo hi m a b c d (H.out.below hb hz) (by omega)).mono ?_
  rintro e w1 ⟨rfl, hb1⟩
  have X1 := Lib.hid (x1.below hb1)
  have HB1 := Lib.hid (hb.trans (hb1.mono hzw))
  have hz1 := hb1.size
  have hxl1 := X1.out.lt
  clear hb hb1 x1
  obtain ⟨c0, c1, c2⟩ := X1.out.cells
  cases q0 : M.mazeB m with
  | false =>
    have HM := Lib.hid q0
    clear q0
    go_wp2_with fail
    go_ret2
    have HP : Hid (M.preB m x y = false) := Lib.hid (by unfold M.preB; rw [M.mzNode_no HM.out]; rfl)
    rw [M.preV_no HP.out, HP.out]
    exact ⟨rfl, HB1.out⟩
  | true =>
    have HM := Lib.hid q0
    have HV := Lib.hid (M.valid_of q0)
    clear q0
    have v12 := HV.out.size12
    go_wp2_with fail
    refine (hasNode_b m a b c d x w1).mono ?_
    rintro e w2 ⟨rfl, hb2⟩
    have X2 := Lib.hid (X1.out.below hb2)
    have B2 := Lib.hid (HB1.out.trans (hb2.mono (by omega)))
    have hx2 := X2.out.lt
    clear hb2 c0 c1 c2
    obtain ⟨c0, c1, c2⟩ := X2.out.cells
    cases qx : M.nodeB m.size x with
    | false =>
      have HP : Hid (M.preB m x y = false) := Lib.hid (by unfold M.preB; rw [M.mzNode_no2 qx]; rfl)
      clear qx
      go_wp2_with fail
      go_ret2
      rw [M.preV_no HP.out, HP.out]
      exact ⟨rfl, B2.out⟩
    | true =>
      have HX := Lib.hid qx
      obtain ⟨x0, x1⟩ : 0 ≤ x ∧ x < m.size := by unfold M.nodeB at qx; rwa [decide_eq_true_iff] at qx
      clear qx
      go_wp2_with fail
      refine (hasNode_b m a b c d y w2).mono ?_
      rintro e w3 ⟨rfl, hb3⟩
      have X3 := Lib.hid (X2.out.below hb3)
      have B3 := Lib.hid (B2.out.trans (hb3.mono B2.out.size))
      have hx3 := X3.out.lt
      clear hb3 c0 c1 c2
      cases qy : M.nodeB m.size y with
      | false =>
        have HP : Hid (M.preB m x y = false) := Lib.hid (by unfold M.preB; rw [qy, Bool.and_false])
        clear qy
        go_wp2_with fail
        go_ret2
        rw [M.preV_no HP.out, HP.out]
        exact ⟨rfl, B3.out⟩
      | true =>
        have HP : Hid (M.preB m x y = true) := Lib.hid (by unfold M.preB; rw [qy, M.mzNode_yes HM.out HX.out]; rfl)
        obtain ⟨y0, y1⟩ : 0 ≤ y ∧ y < m.size := by unfold M.nodeB at qy; rwa [decide_eq_true_iff] at qy
        obtain ⟨q, rfl⟩ : ∃ q : Nat, x = (q : Int) := ⟨x.toNat, by omega⟩
        obtain ⟨r, rfl⟩ : ∃ r : Nat, y = (r : Int) := ⟨y.toNat, by omega⟩
        have ha4 := M.allE_lt HV.out
        have hw4 := M.woE_lt HV.out q
        have HAE : Hid (M.mostN m (M.allN m) = M.allE m) := Lib.hid rfl
        have hless := M.less4 ha4 hw4
        have hl4 := M.lessN_lt ha4 hw4
        have hbt := M.bit_test (p := r) hl4
        have hr0 : ¬ (r : Int) < 0 := by omega
        have HPV := Lib.hid (M.preV_yes HP.out)
        rw [Int.toNat_natCast, Int.toNat_natCast, ← M.digB_less ha4 hw4] at HPV
        rw [← HAE.out] at hless hbt HPV
        clear qy
        generalize hll : M.lessN (M.mostN m (M.allN m)) (M.woE m q) = ln at *
        clear hll
        rcases Decidable.em ((q : Int) = (r : Int)) with he | he
        · have HR : Hid (M.preV m (q : Int) (r : Int) = false) := Lib.hid (by rw [HPV.out, decide_eq_true he]; rfl)
          have hne : ((q : Int) != (r : Int)) = false := by simpa using he
          have heq : q = r := by omega
          clear he
          go_upto_region 3 with fail
          refine wp_region_late2 (fun (wq : World) => wq.cell? ⟨w.heap.size, 0, none⟩ = some (.int .i64 m.size) ∧ wq.cell? ⟨w.heap.size, 1, none⟩ = some (.slice a m.doors.length c) ∧ wq.cell? ⟨w.heap.size, 2, none⟩ = some (.slice b m.keys.length d)) [] 9 #[false, false, false, false, false, false, false, false, false] rfl rfl (by kernel_rfl) ?_
          have hS : (fun (wq : World) => wq.cell? ⟨w.heap.size, 0, none⟩ = some (.int .i64 m.size) ∧ wq.cell? ⟨w.heap.size, 1, none⟩ = some (.slice a m.doors.length c) ∧ wq.cell? ⟨w.heap.size, 2, none⟩ = some (.slice b m.keys.length d)) w3.drew := X3.out.cells
          refine wpAnyL_take (i := 0) (oi := { dst := some 24, op := Go.Op.load 29 (Go.Operand.tmp 3), type := 29, pos := "l5_orders.go:247", after := #[], guard := none }) (v := ?pv0) rfl (by kernel_rfl) (by kernel_rfl) (by kernel_rfl) (by kernel_rfl) (fun _ _ _ h => h) (Or.inl ⟨by rfl, ?ph0⟩) hS ?pr0
          case ph0 => (intro wS hSw; (try dsimp only at hSw); go_split_ands; go_simp; try with_reducible rfl)
          try simp only [Act.put, List.setIfInBounds_toArray, List.set_cons_zero, List.set_cons_succ]
          refine wpAnyL_take (i := 1) (oi := { dst := some 25, op := Go.Op.load 29 (Go.Operand.tmp 3), type := 29, pos := "l5_orders.go:247", after := #[], guard := none }) (v := ?pv1) rfl (by kernel_rfl) (by kernel_rfl) (by kernel_rfl) (by kernel_rfl) (fun _ _ _ h => h) (Or.inl ⟨by rfl, ?ph1⟩) hS ?pr1
          case ph1 => (intro wS hSw; (try dsimp only at hSw); go_split_ands; go_simp; try with_reducible rfl)
          try simp only [Act.put, List.setIfInBounds_toArray, List.set_cons_zero, List.set_cons_succ]
          refine wpAnyL_take (i := 4) (oi := { dst := some 28, op := Go.Op.load 29 (Go.Operand.tmp 3), type := 29, pos := "l5_orders.go:247", after := #[], guard := none }) (v := ?pv4) rfl (by kernel_rfl) (by kernel_rfl) (by kernel_rfl) (by kernel_rfl) (fun _ _ _ h => h) (Or.inl ⟨by rfl, ?ph4⟩) hS ?pr4
          case ph4 => (intro wS hSw; (try dsimp only at hSw); go_split_ands; go_simp; try with_reducible rfl)
          try simp only [Act.put, List.setIfInBounds_toArray, List.set_cons_zero, List.set_cons_succ]
          refine wpAnyL_take (i := 5) (oi := { dst := some 29, op := Go.Op.move (Go.Operand.tmp 1), type := 3, pos := "l5_orders.go:247", after := #[], guard := none }) (v := ?pv5) rfl (by kernel_rfl) (by kernel_rfl) (by kernel_rfl) (by kernel_rfl) (fun _ _ _ h => h) (Or.inl ⟨by rfl, ?ph5⟩) hS ?pr5
          case ph5 => (intro wS hSw; (try dsimp only at hSw); go_split_ands; go_simp; try with_reducible rfl)
          try simp only [Act.put, List.setIfInBounds_toArray, List.set_cons_zero, List.set_cons_succ]
          refine wpAnyL_one (i := 2) (oi := { dst := some 26, op := Go.Op.call { callee := Go.Callee.value (Go.Operand.func 70), args := #[Go.Operand.tmp 25], argTypes := #[29] }, type := 3, pos := "l5_orders.go:247", after := #[{ on := 1, ground := Go.Ground.data }], guard := none }) (by kernel_rfl) rfl (fun Kp2 hKp2 => ?_)
          refine step_call (by rfl) 70 #[.agg #[.int .i64 m.size, .slice a m.doors.length c, .slice b m.keys.length d]] (by go_simp; try rfl) (allNodes_any w3.drew m a b c d HV.out) ?_
          rintro e w4 ⟨rfl, hb4⟩
          refine ⟨_, rfl, ?_⟩
          have hb4x : Below w3.heap.size w3 w4 := (Below.refl w3.heap.size w3).drew.trans hb4
          have X4 := Lib.hid (X3.out.below hb4x)
          have B4 := Lib.hid (B3.out.trans (hb4x.mono B3.out.size))
          refine hKp2 _ _ (fun _ => X4.out.cells) ?_
          clear hS
          have hS := X4.out.cells
          try simp only [Act.put, List.setIfInBounds_toArray, List.set_cons_zero, List.set_cons_succ]
          refine wpAnyL_one (i := 3) (oi := { dst := some 27, op := Go.Op.call { callee := Go.Callee.value (Go.Operand.func 69), args := #[Go.Operand.tmp 24, Go.Operand.tmp 26], argTypes := #[29, 3] }, type := 3, pos := "l5_orders.go:247", after := #[{ on := 0, ground := Go.Ground.data }, { on := 2, ground := Go.Ground.data }, { on := 2, ground := Go.Ground.chain }], guard := none }) (by kernel_rfl) rfl (fun Kp3 hKp3 => ?_)
          refine step_call (by rfl) 69 #[.agg #[.int .i64 m.size, .slice a m.doors.length c, .slice b m.keys.length d], .int .i64 ((M.allN m : Nat) : Int)] (by go_simp; try rfl) (mostOf_any w4 lo hi m a b c d (H.out.below B4.out hz) (by have := B4.out.size; omega) HV.out (M.allN m) (M.all_in HV.out)) ?_
          rintro e w5 ⟨rfl, hb5⟩
          refine ⟨_, rfl, ?_⟩
          have X5 := Lib.hid (X4.out.below hb5)
          have B5 := Lib.hid (B4.out.trans (hb5.mono B4.out.size))
          refine hKp3 _ _ (fun _ => X5.out.cells) ?_
          clear hS
          have hS := X5.out.cells
          try simp only [Act.put, List.setIfInBounds_toArray, List.set_cons_zero, List.set_cons_succ]
          refine wpAnyL_one (i := 6) (oi := { dst := some 30, op := Go.Op.call { callee := Go.Callee.value (Go.Operand.func 85), args := #[Go.Operand.tmp 28, Go.Operand.tmp 29], argTypes := #[29, 3] }, type := 3, pos := "l5_orders.go:247", after := #[{ on := 4, ground := Go.Ground.data }, { on := 5, ground := Go.Ground.data }, { on := 3, ground := Go.Ground.chain }], guard := none }) (by kernel_rfl) rfl (fun Kp6 hKp6 => ?_)
          refine step_call (by rfl) 85 #[.agg #[.int .i64 m.size, .slice a m.doors.length c, .slice b m.keys.length d], .int .i64 (q : Int)] (by go_simp; try rfl) (mostWithout_any w5 lo hi m a b c d (H.out.below B5.out hz) (by have := B5.out.size; omega) HV.out q (by omega)) ?_
          rintro e w6 ⟨rfl, hb6⟩
          refine ⟨_, rfl, ?_⟩
          have X6 := Lib.hid (X5.out.below hb6)
          have B6 := Lib.hid (B5.out.trans (hb6.mono B5.out.size))
          refine hKp6 _ _ (fun _ => X6.out.cells) ?_
          clear hS
          have hS := X6.out.cells
          try simp only [Act.put, List.setIfInBounds_toArray, List.set_cons_zero, List.set_cons_succ]
          refine wpAnyL_take (i := 7) (oi := { dst := some 31, op := Go.Op.binOp Go.BinOp.andNot 3 (Go.Operand.tmp 27) (Go.Operand.tmp 30) 3, type := 3, pos := "l5_orders.go:247", after := #[{ on := 3, ground := Go.Ground.data }, { on := 6, ground := Go.Ground.data }], guard := none }) (v := ?pv7) rfl (by kernel_rfl) (by kernel_rfl) (by kernel_rfl) (by kernel_rfl) (fun _ _ _ h => h) (Or.inl ⟨by rfl, ?ph7⟩) hS ?pr7
          case ph7 => (intro wS hSw; (try dsimp only at hSw); go_split_ands; go_simp; try with_reducible rfl)
          try simp only [Act.put, List.setIfInBounds_toArray, List.set_cons_zero, List.set_cons_succ]
          refine wpAnyL_take (i := 8) (oi := { dst := some 8, op := Go.Op.assign (Go.Operand.tmp 31), type := 3, pos := "l5_orders.go:247", after := #[{ on := 7, ground := Go.Ground.data }, { on := 6, ground := Go.Ground.chain }, { on := 0, ground := Go.Ground.phase }, { on := 1, ground := Go.Ground.phase }, { on := 2, ground := Go.Ground.phase }, { on := 3, ground := Go.Ground.phase }, { on := 4, ground := Go.Ground.phase }, { on := 5, ground := Go.Ground.phase }, { on := 6, ground := Go.Ground.phase }, { on := 7, ground := Go.Ground.phase }], guard := none }) (v := ?pv8) rfl (by kernel_rfl) (by kernel_rfl) (by kernel_rfl) (by kernel_rfl) (fun _ _ _ h => h) (Or.inl ⟨by rfl, ?ph8⟩) hS ?pr8
          case ph8 => (intro wS hSw; (try dsimp only at hSw); go_split_ands; go_simp; try with_reducible rfl)
          try simp only [Act.put, List.setIfInBounds_toArray, List.set_cons_zero, List.set_cons_succ]
          refine wpAnyL_done (by kernel_rfl) ?_ _
          go_wp2_with fail
          go_ret2
          rw [HR.out, HP.out]
          exact ⟨rfl, B6.out⟩
        · have hne : ((q : Int) != (r : Int)) = true := by simpa using he
          have hqr : ¬ q = r := by omega
          cases hd : M.digB ln r with
          | false =>
            have HR : Hid (M.preV m (q : Int) (r : Int) = false) := Lib.hid (by rw [HPV.out, hd, Bool.and_false])
            rw [hd] at hbt
            clear hd he
            go_upto_region 3 with fail
            refine wp_region_late2 (fun (wq : World) => wq.cell? ⟨w.heap.size, 0, none⟩ = some (.int .i64 m.size) ∧ wq.cell? ⟨w.heap.size, 1, none⟩ = some (.slice a m.doors.length c) ∧ wq.cell? ⟨w.heap.size, 2, none⟩ = some (.slice b m.keys.length d)) [] 9 #[false, false, false, false, false, false, false, false, false] rfl rfl (by kernel_rfl) ?_
            have hS : (fun (wq : World) => wq.cell? ⟨w.heap.size, 0, none⟩ = some (.int .i64 m.size) ∧ wq.cell? ⟨w.heap.size, 1, none⟩ = some (.slice a m.doors.length c) ∧ wq.cell? ⟨w.heap.size, 2, none⟩ = some (.slice b m.keys.length d)) w3.drew := X3.out.cells
            refine wpAnyL_take (i := 0) (oi := { dst := some 24, op := Go.Op.load 29 (Go.Operand.tmp 3), type := 29, pos := "l5_orders.go:247", after := #[], guard := none }) (v := ?sv0) rfl (by kernel_rfl) (by kernel_rfl) (by kernel_rfl) (by kernel_rfl) (fun _ _ _ h => h) (Or.inl ⟨by rfl, ?sh0⟩) hS ?sr0
            case sh0 => (intro wS hSw; (try dsimp only at hSw); go_split_ands; go_simp; try with_reducible rfl)
            try simp only [Act.put, List.setIfInBounds_toArray, List.set_cons_zero, List.set_cons_succ]
            refine wpAnyL_take (i := 1) (oi := { dst := some 25, op := Go.Op.load 29 (Go.Operand.tmp 3), type := 29, pos := "l5_orders.go:247", after := #[], guard := none }) (v := ?sv1) rfl (by kernel_rfl) (by kernel_rfl) (by kernel_rfl) (by kernel_rfl) (fun _ _ _ h => h) (Or.inl ⟨by rfl, ?sh1⟩) hS ?sr1
            case sh1 => (intro wS hSw; (try dsimp only at hSw); go_split_ands; go_simp; try with_reducible rfl)
            try simp only [Act.put, List.setIfInBounds_toArray, List.set_cons_zero, List.set_cons_succ]
            refine wpAnyL_take (i := 4) (oi := { dst := some 28, op := Go.Op.load 29 (Go.Operand.tmp 3), type := 29, pos := "l5_orders.go:247", after := #[], guard := none }) (v := ?sv4) rfl (by kernel_rfl) (by kernel_rfl) (by kernel_rfl) (by kernel_rfl) (fun _ _ _ h => h) (Or.inl ⟨by rfl, ?sh4⟩) hS ?sr4
            case sh4 => (intro wS hSw; (try dsimp only at hSw); go_split_ands; go_simp; try with_reducible rfl)
            try simp only [Act.put, List.setIfInBounds_toArray, List.set_cons_zero, List.set_cons_succ]
            refine wpAnyL_take (i := 5) (oi := { dst := some 29, op := Go.Op.move (Go.Operand.tmp 1), type := 3, pos := "l5_orders.go:247", after := #[], guard := none }) (v := ?sv5) rfl (by kernel_rfl) (by kernel_rfl) (by kernel_rfl) (by kernel_rfl) (fun _ _ _ h => h) (Or.inl ⟨by rfl, ?sh5⟩) hS ?sr5
            case sh5 => (intro wS hSw; (try dsimp only at hSw); go_split_ands; go_simp; try with_reducible rfl)
            try simp only [Act.put, List.setIfInBounds_toArray, List.set_cons_zero, List.set_cons_succ]
            refine wpAnyL_one (i := 2) (oi := { dst := some 26, op := Go.Op.call { callee := Go.Callee.value (Go.Operand.func 70), args := #[Go.Operand.tmp 25], argTypes := #[29] }, type := 3, pos := "l5_orders.go:247", after := #[{ on := 1, ground := Go.Ground.data }], guard := none }) (by kernel_rfl) rfl (fun Ks2 hKs2 => ?_)
            refine step_call (by rfl) 70 #[.agg #[.int .i64 m.size, .slice a m.doors.length c, .slice b m.keys.length d]] (by go_simp; try rfl) (allNodes_any w3.drew m a b c d HV.out) ?_
            rintro e w4 ⟨rfl, hb4⟩
            refine ⟨_, rfl, ?_⟩
            have hb4x : Below w3.heap.size w3 w4 := (Below.refl w3.heap.size w3).drew.trans hb4
            have X4 := Lib.hid (X3.out.below hb4x)
            have B4 := Lib.hid (B3.out.trans (hb4x.mono B3.out.size))
            refine hKs2 _ _ (fun _ => X4.out.cells) ?_
            clear hS
            have hS := X4.out.cells
            try simp only [Act.put, List.setIfInBounds_toArray, List.set_cons_zero, List.set_cons_succ]
            refine wpAnyL_one (i := 3) (oi := { dst := some 27, op := Go.Op.call { callee := Go.Callee.value (Go.Operand.func 69), args := #[Go.Operand.tmp 24, Go.Operand.tmp 26], argTypes := #[29, 3] }, type := 3, pos := "l5_orders.go:247", after := #[{ on := 0, ground := Go.Ground.data }, { on := 2, ground := Go.Ground.data }, { on := 2, ground := Go.Ground.chain }], guard := none }) (by kernel_rfl) rfl (fun Ks3 hKs3 => ?_)
            refine step_call (by rfl) 69 #[.agg #[.int .i64 m.size, .slice a m.doors.length c, .slice b m.keys.length d], .int .i64 ((M.allN m : Nat) : Int)] (by go_simp; try rfl) (mostOf_any w4 lo hi m a b c d (H.out.below B4.out hz) (by have := B4.out.size; omega) HV.out (M.allN m) (M.all_in HV.out)) ?_
            rintro e w5 ⟨rfl, hb5⟩
            refine ⟨_, rfl, ?_⟩
            have X5 := Lib.hid (X4.out.below hb5)
            have B5 := Lib.hid (B4.out.trans (hb5.mono B4.out.size))
            refine hKs3 _ _ (fun _ => X5.out.cells) ?_
            clear hS
            have hS := X5.out.cells
            try simp only [Act.put, List.setIfInBounds_toArray, List.set_cons_zero, List.set_cons_succ]
            refine wpAnyL_one (i := 6) (oi := { dst := some 30, op := Go.Op.call { callee := Go.Callee.value (Go.Operand.func 85), args := #[Go.Operand.tmp 28, Go.Operand.tmp 29], argTypes := #[29, 3] }, type := 3, pos := "l5_orders.go:247", after := #[{ on := 4, ground := Go.Ground.data }, { on := 5, ground := Go.Ground.data }, { on := 3, ground := Go.Ground.chain }], guard := none }) (by kernel_rfl) rfl (fun Ks6 hKs6 => ?_)
            refine step_call (by rfl) 85 #[.agg #[.int .i64 m.size, .slice a m.doors.length c, .slice b m.keys.length d], .int .i64 (q : Int)] (by go_simp; try rfl) (mostWithout_any w5 lo hi m a b c d (H.out.below B5.out hz) (by have := B5.out.size; omega) HV.out q (by omega)) ?_
            rintro e w6 ⟨rfl, hb6⟩
            refine ⟨_, rfl, ?_⟩
            have X6 := Lib.hid (X5.out.below hb6)
            have B6 := Lib.hid (B5.out.trans (hb6.mono B5.out.size))
            refine hKs6 _ _ (fun _ => X6.out.cells) ?_
            clear hS
            have hS := X6.out.cells
            try simp only [Act.put, List.setIfInBounds_toArray, List.set_cons_zero, List.set_cons_succ]
            refine wpAnyL_take (i := 7) (oi := { dst := some 31, op := Go.Op.binOp Go.BinOp.andNot 3 (Go.Operand.tmp 27) (Go.Operand.tmp 30) 3, type := 3, pos := "l5_orders.go:247", after := #[{ on := 3, ground := Go.Ground.data }, { on := 6, ground := Go.Ground.data }], guard := none }) (v := ?sv7) rfl (by kernel_rfl) (by kernel_rfl) (by kernel_rfl) (by kernel_rfl) (fun _ _ _ h => h) (Or.inl ⟨by rfl, ?sh7⟩) hS ?sr7
            case sh7 => (intro wS hSw; (try dsimp only at hSw); go_split_ands; go_simp; try with_reducible rfl)
            try simp only [Act.put, List.setIfInBounds_toArray, List.set_cons_zero, List.set_cons_succ]
            refine wpAnyL_take (i := 8) (oi := { dst := some 8, op := Go.Op.assign (Go.Operand.tmp 31), type := 3, pos := "l5_orders.go:247", after := #[{ on := 7, ground := Go.Ground.data }, { on := 6, ground := Go.Ground.chain }, { on := 0, ground := Go.Ground.phase }, { on := 1, ground := Go.Ground.phase }, { on := 2, ground := Go.Ground.phase }, { on := 3, ground := Go.Ground.phase }, { on := 4, ground := Go.Ground.phase }, { on := 5, ground := Go.Ground.phase }, { on := 6, ground := Go.Ground.phase }, { on := 7, ground := Go.Ground.phase }], guard := none }) (v := ?sv8) rfl (by kernel_rfl) (by kernel_rfl) (by kernel_rfl) (by kernel_rfl) (fun _ _ _ h => h) (Or.inl ⟨by rfl, ?sh8⟩) hS ?sr8
            case sh8 => (intro wS hSw; (try dsimp only at hSw); go_split_ands; go_simp; try with_reducible rfl)
            try simp only [Act.put, List.setIfInBounds_toArray, List.set_cons_zero, List.set_cons_succ]
            refine wpAnyL_done (by kernel_rfl) ?_ _
            go_wp2_with fail
            go_ret2
            rw [HR.out, HP.out]
            exact ⟨rfl, B6.out⟩
          | true =>
            have HR : Hid (M.preV m (q : Int) (r : Int) = true) := Lib.hid (by rw [HPV.out, hd, decide_eq_false he]; rfl)
            rw [hd] at hbt
            clear hd he
            go_upto_region 3 with fail
            refine wp_region_late2 (fun (wq : World) => wq.cell? ⟨w.heap.size, 0, none⟩ = some (.int .i64 m.size) ∧ wq.cell? ⟨w.heap.size, 1, none⟩ = some (.slice a m.doors.length c) ∧ wq.cell? ⟨w.heap.size, 2, none⟩ = some (.slice b m.keys.length d)) [] 9 #[false, false, false, false, false, false, false, false, false] rfl rfl (by kernel_rfl) ?_
            have hS : (fun (wq : World) => wq.cell? ⟨w.heap.size, 0, none⟩ = some (.int .i64 m.size) ∧ wq.cell? ⟨w.heap.size, 1, none⟩ = some (.slice a m.doors.length c) ∧ wq.cell? ⟨w.heap.size, 2, none⟩ = some (.slice b m.keys.length d)) w3.drew := X3.out.cells
            refine wpAnyL_take (i := 0) (oi := { dst := some 24, op := Go.Op.load 29 (Go.Operand.tmp 3), type := 29, pos := "l5_orders.go:247", after := #[], guard := none }) (v := ?tv0) rfl (by kernel_rfl) (by kernel_rfl) (by kernel_rfl) (by kernel_rfl) (fun _ _ _ h => h) (Or.inl ⟨by rfl, ?th0⟩) hS ?tr0
            case th0 => (intro wS hSw; (try dsimp only at hSw); go_split_ands; go_simp; try with_reducible rfl)
            try simp only [Act.put, List.setIfInBounds_toArray, List.set_cons_zero, List.set_cons_succ]
            refine wpAnyL_take (i := 1) (oi := { dst := some 25, op := Go.Op.load 29 (Go.Operand.tmp 3), type := 29, pos := "l5_orders.go:247", after := #[], guard := none }) (v := ?tv1) rfl (by kernel_rfl) (by kernel_rfl) (by kernel_rfl) (by kernel_rfl) (fun _ _ _ h => h) (Or.inl ⟨by rfl, ?th1⟩) hS ?tr1
            case th1 => (intro wS hSw; (try dsimp only at hSw); go_split_ands; go_simp; try with_reducible rfl)
            try simp only [Act.put, List.setIfInBounds_toArray, List.set_cons_zero, List.set_cons_succ]
            refine wpAnyL_take (i := 4) (oi := { dst := some 28, op := Go.Op.load 29 (Go.Operand.tmp 3), type := 29, pos := "l5_orders.go:247", after := #[], guard := none }) (v := ?tv4) rfl (by kernel_rfl) (by kernel_rfl) (by kernel_rfl) (by kernel_rfl) (fun _ _ _ h => h) (Or.inl ⟨by rfl, ?th4⟩) hS ?tr4
            case th4 => (intro wS hSw; (try dsimp only at hSw); go_split_ands; go_simp; try with_reducible rfl)
            try simp only [Act.put, List.setIfInBounds_toArray, List.set_cons_zero, List.set_cons_succ]
            refine wpAnyL_take (i := 5) (oi := { dst := some 29, op := Go.Op.move (Go.Operand.tmp 1), type := 3, pos := "l5_orders.go:247", after := #[], guard := none }) (v := ?tv5) rfl (by kernel_rfl) (by kernel_rfl) (by kernel_rfl) (by kernel_rfl) (fun _ _ _ h => h) (Or.inl ⟨by rfl, ?th5⟩) hS ?tr5
            case th5 => (intro wS hSw; (try dsimp only at hSw); go_split_ands; go_simp; try with_reducible rfl)
            try simp only [Act.put, List.setIfInBounds_toArray, List.set_cons_zero, List.set_cons_succ]
            refine wpAnyL_one (i := 2) (oi := { dst := some 26, op := Go.Op.call { callee := Go.Callee.value (Go.Operand.func 70), args := #[Go.Operand.tmp 25], argTypes := #[29] }, type := 3, pos := "l5_orders.go:247", after := #[{ on := 1, ground := Go.Ground.data }], guard := none }) (by kernel_rfl) rfl (fun Kt2 hKt2 => ?_)
            refine step_call (by rfl) 70 #[.agg #[.int .i64 m.size, .slice a m.doors.length c, .slice b m.keys.length d]] (by go_simp; try rfl) (allNodes_any w3.drew m a b c d HV.out) ?_
            rintro e w4 ⟨rfl, hb4⟩
            refine ⟨_, rfl, ?_⟩
            have hb4x : Below w3.heap.size w3 w4 := (Below.refl w3.heap.size w3).drew.trans hb4
            have X4 := Lib.hid (X3.out.below hb4x)
            have B4 := Lib.hid (B3.out.trans (hb4x.mono B3.out.size))
            refine hKt2 _ _ (fun _ => X4.out.cells) ?_
            clear hS
            have hS := X4.out.cells
            try simp only [Act.put, List.setIfInBounds_toArray, List.set_cons_zero, List.set_cons_succ]
            refine wpAnyL_one (i := 3) (oi := { dst := some 27, op := Go.Op.call { callee := Go.Callee.value (Go.Operand.func 69), args := #[Go.Operand.tmp 24, Go.Operand.tmp 26], argTypes := #[29, 3] }, type := 3, pos := "l5_orders.go:247", after := #[{ on := 0, ground := Go.Ground.data }, { on := 2, ground := Go.Ground.data }, { on := 2, ground := Go.Ground.chain }], guard := none }) (by kernel_rfl) rfl (fun Kt3 hKt3 => ?_)
            refine step_call (by rfl) 69 #[.agg #[.int .i64 m.size, .slice a m.doors.length c, .slice b m.keys.length d], .int .i64 ((M.allN m : Nat) : Int)] (by go_simp; try rfl) (mostOf_any w4 lo hi m a b c d (H.out.below B4.out hz) (by have := B4.out.size; omega) HV.out (M.allN m) (M.all_in HV.out)) ?_
            rintro e w5 ⟨rfl, hb5⟩
            refine ⟨_, rfl, ?_⟩
            have X5 := Lib.hid (X4.out.below hb5)
            have B5 := Lib.hid (B4.out.trans (hb5.mono B4.out.size))
            refine hKt3 _ _ (fun _ => X5.out.cells) ?_
            clear hS
            have hS := X5.out.cells
            try simp only [Act.put, List.setIfInBounds_toArray, List.set_cons_zero, List.set_cons_succ]
            refine wpAnyL_one (i := 6) (oi := { dst := some 30, op := Go.Op.call { callee := Go.Callee.value (Go.Operand.func 85), args := #[Go.Operand.tmp 28, Go.Operand.tmp 29], argTypes := #[29, 3] }, type := 3, pos := "l5_orders.go:247", after := #[{ on := 4, ground := Go.Ground.data }, { on := 5, ground := Go.Ground.data }, { on := 3, ground := Go.Ground.chain }], guard := none }) (by kernel_rfl) rfl (fun Kt6 hKt6 => ?_)
            refine step_call (by rfl) 85 #[.agg #[.int .i64 m.size, .slice a m.doors.length c, .slice b m.keys.length d], .int .i64 (q : Int)] (by go_simp; try rfl) (mostWithout_any w5 lo hi m a b c d (H.out.below B5.out hz) (by have := B5.out.size; omega) HV.out q (by omega)) ?_
            rintro e w6 ⟨rfl, hb6⟩
            refine ⟨_, rfl, ?_⟩
            have X6 := Lib.hid (X5.out.below hb6)
            have B6 := Lib.hid (B5.out.trans (hb6.mono B5.out.size))
            refine hKt6 _ _ (fun _ => X6.out.cells) ?_
            clear hS
            have hS := X6.out.cells
            try simp only [Act.put, List.setIfInBounds_toArray, List.set_cons_zero, List.set_cons_succ]
            refine wpAnyL_take (i := 7) (oi := { dst := some 31, op := Go.Op.binOp Go.BinOp.andNot 3 (Go.Operand.tmp 27) (Go.Operand.tmp 30) 3, type := 3, pos := "l5_orders.go:247", after := #[{ on := 3, ground := Go.Ground.data }, { on := 6, ground := Go.Ground.data }], guard := none }) (v := ?tv7) rfl (by kernel_rfl) (by kernel_rfl) (by kernel_rfl) (by kernel_rfl) (fun _ _ _ h => h) (Or.inl ⟨by rfl, ?th7⟩) hS ?tr7
            case th7 => (intro wS hSw; (try dsimp only at hSw); go_split_ands; go_simp; try with_reducible rfl)
            try simp only [Act.put, List.setIfInBounds_toArray, List.set_cons_zero, List.set_cons_succ]
            refine wpAnyL_take (i := 8) (oi := { dst := some 8, op := Go.Op.assign (Go.Operand.tmp 31), type := 3, pos := "l5_orders.go:247", after := #[{ on := 7, ground := Go.Ground.data }, { on := 6, ground := Go.Ground.chain }, { on := 0, ground := Go.Ground.phase }, { on := 1, ground := Go.Ground.phase }, { on := 2, ground := Go.Ground.phase }, { on := 3, ground := Go.Ground.phase }, { on := 4, ground := Go.Ground.phase }, { on := 5, ground := Go.Ground.phase }, { on := 6, ground := Go.Ground.phase }, { on := 7, ground := Go.Ground.phase }], guard := none }) (v := ?tv8) rfl (by kernel_rfl) (by kernel_rfl) (by kernel_rfl) (by kernel_rfl) (fun _ _ _ h => h) (Or.inl ⟨by rfl, ?th8⟩) hS ?tr8
            case th8 => (intro wS hSw; (try dsimp only at hSw); go_split_ands; go_simp; try with_reducible rfl)
            try simp only [Act.put, List.setIfInBounds_toArray, List.set_cons_zero, List.set_cons_succ]
            refine wpAnyL_done (by kernel_rfl) ?_ _
            go_wp2_with fail
            go_ret2
            rw [HR.out, HP.out]
            exact ⟨rfl, B6.out⟩
end C
end Go.Proofs.Ytdjmmgfjcchloaa
