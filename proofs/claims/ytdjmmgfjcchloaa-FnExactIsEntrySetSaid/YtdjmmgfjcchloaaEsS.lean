/-
  CONTRACTS of IsEntrySet and LargestEntrySet, the model's side; what lay in memory stays. No condition but that memory reads so, lists of at most 1048576 numbers.
-/
import Derived.Test.YtdjmmgfjcchloaaListS
import Derived.Test.YtdjmmgfjcchloaaBigS
import Derived.Test.YtdjmmgfjcchloaaBoolOk
import Derived.Test.YtdjmmgfjcchloaaHas
import Derived.Test.YtdjmmgfjcchloaaLate
import Derived.Test.YtdjmmgfjcchloaaStep
import Derived.Deep.RegionWith
import Derived.Deep.DeepCutAuto
namespace Go.Proofs.Ytdjmmgfjcchloaa
open Go.RowKit
namespace C
set_option maxHeartbeats 3200000
set_option maxRecDepth 20000
theorem specEs_lw (w : World) (lo hi : Nat) (m : M.Mz) (a b : Option Addr) (c d : Nat) (h : MzIn lo hi w m a c b d) (hz : hi ≤ w.heap.size) (_h1 : m.doors.length ≤ 1048576) (_h2 : m.keys.length ≤ 1048576) (lo' hi' : Nat) (wa : Option Addr) (wc : Nat) (walk : List Int) (hw : RowIn lo' hi' w wa (M.encIs walk)) (hz' : hi' ≤ w.heap.size) (hl : walk.length ≤ 1048576) (_u1 : walk.length ≤ wc) (_u2 : wc ≤ 9223372036854775807) (_u3 : ∀ z ∈ walk, -9223372036854775808 ≤ z ∧ z ≤ 9223372036854775807) :
    Calls Try.prog 32 #[.agg #[.int .i64 m.size, .slice a m.doors.length c, .slice b m.keys.length d], .slice wa walk.length wc] w (BoolOkPost w (M.entSetB m walk) (M.listB m walk)) := by
  obtain ⟨ii0, hi0, hz0, hzz1, hz2⟩ := info_parts infoI
  have H := Lib.hid h
  clear h
  have HW := Lib.hid hw
  clear hw
  go_enter Try.func32, Try.ntmps32
  go_wp2_with fail
  refine named ?_
  intro W hW
  have hb : Below w.heap.size w W := by rw [hW]; exact below_alloc _ _
  have x1 : Box3 W w.heap.size 29 (.int .i64 m.size) (.slice a m.doors.length c) (.slice b m.keys.length d) := by rw [hW]; exact Box3.new _ _ _ _ rfl
  clear hW
  have hzw := hb.size
  refine (l5List_any W lo hi m a b c d (H.out.below hb hz) (by omega) lo' hi' wa wc walk (HW.out.below hb hz') (by omega) hl).mono ?_
  rintro e w1 ⟨rfl, hb1⟩
  have X1 := Lib.hid (x1.below hb1)
  have HB1 := Lib.hid (hb.trans (hb1.mono hzw))
  have hz1 := hb1.size
  have hxl1 := X1.out.lt
  clear hb hb1 x1
  obtain ⟨c0, c1, c2⟩ := X1.out.cells
  cases q0 : M.listB m walk with
  | false =>
    have HM := Lib.hid q0
    clear q0
    go_wp2_with fail
    go_ret2
    rw [M.entSetB_no HM.out, HM.out]
    exact ⟨rfl, HB1.out⟩
  | true =>
    have HM := Lib.hid q0
    obtain ⟨qm, qr⟩ : M.mazeB m = true ∧ M.riseB m.size walk = true := by unfold M.listB at q0; rwa [Bool.and_eq_true] at q0
    have HV := Lib.hid (M.valid_of qm)
    have v12 := HV.out.size12
    have hr := M.riseB_iff.1 qr
    have HRL := Lib.hid hr.2
    obtain ⟨hn4, _⟩ := M.rise_mk v12 hr
    have HW1 := Lib.hid (HW.out.below HB1.out hz')
    have HHA := Lib.hid (fun W' (hq : Below w1.heap.size w1 W') => l1Has_any W' lo' hi' wa wc walk 0 (HW1.out.below (hq.mono (by omega)) (by omega)) hl)
    have HCO := Lib.hid (fun W' (hq : Below w1.heap.size w1 W') => l5Code_any W' lo' hi' wa wc walk m.size (HW1.out.below (hq.mono (by omega)) (by omega)) v12 HRL.out hl)
    have HLA := Lib.hid (fun W' (hq : Below w1.heap.size w1 W') => l5Largest_any W' lo hi m a b c d (H.out.below (HB1.out.trans (hq.mono (by omega))) hz) (by have := hq.size; omega) HV.out (M.mk walk) hn4)
    have HEV := Lib.hid (M.entSetB_yes HM.out)
    clear q0 qm qr hr
    generalize M.mk walk = n at *
    cases hm : M.memB walk 0 with
    | false =>
      have HE0 : Hid (M.entSetB m walk = false) := Lib.hid (by rw [HEV.out, hm]; rfl)
      have HMM := Lib.hid hm
      clear hm
      go_wp2_with fail
      have HH1 := HHA.out w1.drew (Below.refl w1.heap.size w1).drew
      rw [HMM.out] at HH1
      refine wp_region_late2 (fun (wq : World) => wq.cell? ⟨w.heap.size, 0, none⟩ = some (.int .i64 m.size) ∧ wq.cell? ⟨w.heap.size, 1, none⟩ = some (.slice a m.doors.length c) ∧ wq.cell? ⟨w.heap.size, 2, none⟩ = some (.slice b m.keys.length d)) [] 13 #[false, false, false, false, false, false, false, false, false, false, false, false, false] rfl rfl (by kernel_rfl) ?_
      have hS : (fun (wq : World) => wq.cell? ⟨w.heap.size, 0, none⟩ = some (.int .i64 m.size) ∧ wq.cell? ⟨w.heap.size, 1, none⟩ = some (.slice a m.doors.length c) ∧ wq.cell? ⟨w.heap.size, 2, none⟩ = some (.slice b m.keys.length d)) w1.drew := X1.out.cells
      refine wpAnyL_take (i := 0) (oi := { dst := some 10, op := Go.Op.move (Go.Operand.tmp 1), type := 23, pos := "l5_orders.go:133", after := #[], guard := none }) (v := ?xv0) rfl (by kernel_rfl) (by kernel_rfl) (by kernel_rfl) (by kernel_rfl) (fun _ _ _ h => h) (Or.inl ⟨by rfl, ?xh0⟩) hS ?xr0
      case xh0 => (intro wS hSw; (try dsimp only at hSw); go_split_ands; go_simp; try with_reducible rfl)
      try simp only [Act.put, List.setIfInBounds_toArray, List.set_cons_zero, List.set_cons_succ]
      refine wpAnyL_one (i := 1) (oi := { dst := some 11, op := Go.Op.call { callee := Go.Callee.value (Go.Operand.func 72), args := #[Go.Operand.tmp 10, Go.Operand.const (Go.Value.int Go.IntKind.i64 0)], argTypes := #[23, 3] }, type := 4, pos := "l5_orders.go:133", after := #[{ on := 0, ground := Go.Ground.data }], guard := none }) (by kernel_rfl) rfl (fun Kx1 hKx1 => ?_)
      refine step_call (by rfl) 72 #[.slice wa walk.length wc, .int .i64 0] (by go_simp; try rfl) (HH1) ?_
      rintro e w7 ⟨rfl, rfl⟩
      refine ⟨_, rfl, ?_⟩
      have hx7 := X1.out.cells
      refine hKx1 _ _ (fun _ => hx7) ?_
      clear hS
      have hS := hx7
      try simp only [Act.put, List.setIfInBounds_toArray, List.set_cons_zero, List.set_cons_succ]
      refine wpAnyL_take (i := 2) (oi := { dst := some 12, op := Go.Op.move (Go.Operand.tmp 11), type := 4, pos := "l5_orders.go:133", after := #[{ on := 1, ground := Go.Ground.data }, { on := 1, ground := Go.Ground.chain }], guard := none }) (v := ?xv2) rfl (by kernel_rfl) (by kernel_rfl) (by kernel_rfl) (by kernel_rfl) (fun _ _ _ h => h) (Or.inl ⟨by rfl, ?xh2⟩) hS ?xr2
      case xh2 => (intro wS hSw; (try dsimp only at hSw); go_split_ands; go_simp; try with_reducible rfl)
      try simp only [Act.put, List.setIfInBounds_toArray, List.set_cons_zero, List.set_cons_succ]
      refine wpAnyL_take (i := 3) (oi := { dst := some 13, op := Go.Op.load 29 (Go.Operand.tmp 2), type := 29, pos := "l5_orders.go:133", after := #[{ on := 2, ground := Go.Ground.guard }], guard := some (2, true) }) (v := undef) rfl (by kernel_rfl) (by kernel_rfl) (by kernel_rfl) (by kernel_rfl) (fun _ _ _ h => h) (Or.inr ⟨by rfl, rfl⟩) hS ?xr3
      try simp only [Act.put, List.setIfInBounds_toArray, List.set_cons_zero, List.set_cons_succ]
      refine wpAnyL_take (i := 4) (oi := { dst := some 14, op := Go.Op.move (Go.Operand.tmp 1), type := 23, pos := "l5_orders.go:133", after := #[{ on := 2, ground := Go.Ground.guard }], guard := some (2, true) }) (v := undef) rfl (by kernel_rfl) (by kernel_rfl) (by kernel_rfl) (by kernel_rfl) (fun _ _ _ h => h) (Or.inr ⟨by rfl, rfl⟩) hS ?xr4
      try simp only [Act.put, List.setIfInBounds_toArray, List.set_cons_zero, List.set_cons_succ]
      refine wpAnyL_take (i := 5) (oi := { dst := some 15, op := Go.Op.call { callee := Go.Callee.value (Go.Operand.func 67), args := #[Go.Operand.tmp 14], argTypes := #[23] }, type := 3, pos := "l5_orders.go:133", after := #[{ on := 4, ground := Go.Ground.data }, { on := 2, ground := Go.Ground.chain }, { on := 2, ground := Go.Ground.guard }], guard := some (2, true) }) (v := undef) rfl (by kernel_rfl) (by kernel_rfl) (by kernel_rfl) (by kernel_rfl) (fun _ _ _ h => h) (Or.inr ⟨by rfl, rfl⟩) hS ?xr5
      try simp only [Act.put, List.setIfInBounds_toArray, List.set_cons_zero, List.set_cons_succ]
      refine wpAnyL_take (i := 6) (oi := { dst := some 16, op := Go.Op.call { callee := Go.Callee.value (Go.Operand.func 73), args := #[Go.Operand.tmp 13, Go.Operand.tmp 15], argTypes := #[29, 3] }, type := 3, pos := "l5_orders.go:133", after := #[{ on := 3, ground := Go.Ground.data }, { on := 5, ground := Go.Ground.data }, { on := 5, ground := Go.Ground.chain }, { on := 2, ground := Go.Ground.guard }], guard := some (2, true) }) (v := undef) rfl (by kernel_rfl) (by kernel_rfl) (by kernel_rfl) (by kernel_rfl) (fun _ _ _ h => h) (Or.inr ⟨by rfl, rfl⟩) hS ?xr6
      try simp only [Act.put, List.setIfInBounds_toArray, List.set_cons_zero, List.set_cons_succ]
      refine wpAnyL_take (i := 7) (oi := { dst := some 17, op := Go.Op.move (Go.Operand.tmp 1), type := 23, pos := "l5_orders.go:133", after := #[{ on := 2, ground := Go.Ground.guard }], guard := some (2, true) }) (v := undef) rfl (by kernel_rfl) (by kernel_rfl) (by kernel_rfl) (by kernel_rfl) (fun _ _ _ h => h) (Or.inr ⟨by rfl, rfl⟩) hS ?xr7
      try simp only [Act.put, List.setIfInBounds_toArray, List.set_cons_zero, List.set_cons_succ]
      refine wpAnyL_take (i := 8) (oi := { dst := some 18, op := Go.Op.call { callee := Go.Callee.value (Go.Operand.func 67), args := #[Go.Operand.tmp 17], argTypes := #[23] }, type := 3, pos := "l5_orders.go:133", after := #[{ on := 7, ground := Go.Ground.data }, { on := 6, ground := Go.Ground.chain }, { on := 2, ground := Go.Ground.guard }], guard := some (2, true) }) (v := undef) rfl (by kernel_rfl) (by kernel_rfl) (by kernel_rfl) (by kernel_rfl) (fun _ _ _ h => h) (Or.inr ⟨by rfl, rfl⟩) hS ?xr8
      try simp only [Act.put, List.setIfInBounds_toArray, List.set_cons_zero, List.set_cons_succ]
      refine wpAnyL_take (i := 9) (oi := { dst := some 19, op := Go.Op.binOp Go.BinOp.eql 3 (Go.Operand.tmp 16) (Go.Operand.tmp 18) 3, type := 4, pos := "l5_orders.go:133", after := #[{ on := 6, ground := Go.Ground.data }, { on := 8, ground := Go.Ground.data }, { on := 2, ground := Go.Ground.guard }], guard := some (2, true) }) (v := undef) rfl (by kernel_rfl) (by kernel_rfl) (by kernel_rfl) (by kernel_rfl) (fun _ _ _ h => h) (Or.inr ⟨by rfl, rfl⟩) hS ?xr9
      try simp only [Act.put, List.setIfInBounds_toArray, List.set_cons_zero, List.set_cons_succ]
      refine wpAnyL_take (i := 10) (oi := { dst := some 20, op := Go.Op.pick (Go.Operand.tmp 12) (Go.Operand.tmp 19) (Go.Operand.const (Go.Value.bool false)), type := 4, pos := "l5_orders.go:133", after := #[{ on := 2, ground := Go.Ground.data }, { on := 9, ground := Go.Ground.data }], guard := none }) (v := ?xv10) rfl (by kernel_rfl) (by kernel_rfl) (by kernel_rfl) (by kernel_rfl) (fun _ _ _ h => h) (Or.inl ⟨by rfl, ?xh10⟩) hS ?xr10
      case xh10 => (intro wS hSw; (try dsimp only at hSw); go_split_ands; go_simp; try with_reducible rfl)
      try simp only [Act.put, List.setIfInBounds_toArray, List.set_cons_zero, List.set_cons_succ]
      refine wpAnyL_take (i := 11) (oi := { dst := some 4, op := Go.Op.assign (Go.Operand.tmp 20), type := 4, pos := "l5_orders.go:133", after := #[{ on := 10, ground := Go.Ground.data }, { on := 8, ground := Go.Ground.chain }, { on := 0, ground := Go.Ground.phase }, { on := 1, ground := Go.Ground.phase }, { on := 2, ground := Go.Ground.phase }, { on := 3, ground := Go.Ground.phase }, { on := 4, ground := Go.Ground.phase }, { on := 5, ground := Go.Ground.phase }, { on := 6, ground := Go.Ground.phase }, { on := 7, ground := Go.Ground.phase }, { on := 8, ground := Go.Ground.phase }, { on := 9, ground := Go.Ground.phase }, { on := 10, ground := Go.Ground.phase }], guard := none }) (v := ?xv11) rfl (by kernel_rfl) (by kernel_rfl) (by kernel_rfl) (by kernel_rfl) (fun _ _ _ h => h) (Or.inl ⟨by rfl, ?xh11⟩) hS ?xr11
      case xh11 => (intro wS hSw; (try dsimp only at hSw); go_split_ands; go_simp; try with_reducible rfl)
      try simp only [Act.put, List.setIfInBounds_toArray, List.set_cons_zero, List.set_cons_succ]
      refine wpAnyL_take (i := 12) (oi := { dst := some 5, op := Go.Op.assign (Go.Operand.const (Go.Value.bool true)), type := 4, pos := "l5_orders.go:133", after := #[{ on := 11, ground := Go.Ground.chain }, { on := 0, ground := Go.Ground.phase }, { on := 1, ground := Go.Ground.phase }, { on := 2, ground := Go.Ground.phase }, { on := 3, ground := Go.Ground.phase }, { on := 4, ground := Go.Ground.phase }, { on := 5, ground := Go.Ground.phase }, { on := 6, ground := Go.Ground.phase }, { on := 7, ground := Go.Ground.phase }, { on := 8, ground := Go.Ground.phase }, { on := 9, ground := Go.Ground.phase }, { on := 10, ground := Go.Ground.phase }, { on := 11, ground := Go.Ground.phase }], guard := none }) (v := ?xv12) rfl (by kernel_rfl) (by kernel_rfl) (by kernel_rfl) (by kernel_rfl) (fun _ _ _ h => h) (Or.inl ⟨by rfl, ?xh12⟩) hS ?xr12
      case xh12 => (intro wS hSw; (try dsimp only at hSw); go_split_ands; go_simp; try with_reducible rfl)
      try simp only [Act.put, List.setIfInBounds_toArray, List.set_cons_zero, List.set_cons_succ]
      refine wpAnyL_done (by kernel_rfl) ?_ _
      go_wp2_with fail
      go_ret2
      rw [HE0.out, HM.out]
      exact ⟨rfl, HB1.out.trans ((below_drawn w1 1).mono (by omega))⟩
    | true =>
      have HMM := Lib.hid hm
      rcases Decidable.em (M.bigN m n = n) with he | he
      · have HE0 : Hid (M.entSetB m walk = true) := Lib.hid (by rw [HEV.out, hm, decide_eq_true he]; rfl)
        have HBN := Lib.hid he
        clear hm he
        go_wp2_with fail
        have HH1 := HHA.out w1.drew (Below.refl w1.heap.size w1).drew
        rw [HMM.out] at HH1
        have HL1 := HLA.out w1.drew (Below.refl w1.heap.size w1).drew
        rw [HBN.out] at HL1
        refine wp_region_late2 (fun (wq : World) => wq.cell? ⟨w.heap.size, 0, none⟩ = some (.int .i64 m.size) ∧ wq.cell? ⟨w.heap.size, 1, none⟩ = some (.slice a m.doors.length c) ∧ wq.cell? ⟨w.heap.size, 2, none⟩ = some (.slice b m.keys.length d)) [] 13 #[false, false, false, false, false, false, false, false, false, false, false, false, false] rfl rfl (by kernel_rfl) ?_
        have hS : (fun (wq : World) => wq.cell? ⟨w.heap.size, 0, none⟩ = some (.int .i64 m.size) ∧ wq.cell? ⟨w.heap.size, 1, none⟩ = some (.slice a m.doors.length c) ∧ wq.cell? ⟨w.heap.size, 2, none⟩ = some (.slice b m.keys.length d)) w1.drew := X1.out.cells
        refine wpAnyL_take (i := 0) (oi := { dst := some 10, op := Go.Op.move (Go.Operand.tmp 1), type := 23, pos := "l5_orders.go:133", after := #[], guard := none }) (v := ?yv0) rfl (by kernel_rfl) (by kernel_rfl) (by kernel_rfl) (by kernel_rfl) (fun _ _ _ h => h) (Or.inl ⟨by rfl, ?yh0⟩) hS ?yr0
        case yh0 => (intro wS hSw; (try dsimp only at hSw); go_split_ands; go_simp; try with_reducible rfl)
        try simp only [Act.put, List.setIfInBounds_toArray, List.set_cons_zero, List.set_cons_succ]
        refine wpAnyL_one (i := 1) (oi := { dst := some 11, op := Go.Op.call { callee := Go.Callee.value (Go.Operand.func 72), args := #[Go.Operand.tmp 10, Go.Operand.const (Go.Value.int Go.IntKind.i64 0)], argTypes := #[23, 3] }, type := 4, pos := "l5_orders.go:133", after := #[{ on := 0, ground := Go.Ground.data }], guard := none }) (by kernel_rfl) rfl (fun Ky1 hKy1 => ?_)
        refine step_call (by rfl) 72 #[.slice wa walk.length wc, .int .i64 0] (by go_simp; try rfl) (HH1) ?_
        rintro e w7 ⟨rfl, rfl⟩
        refine ⟨_, rfl, ?_⟩
        have hx7 := X1.out.cells
        refine hKy1 _ _ (fun _ => hx7) ?_
        clear hS
        have hS := hx7
        try simp only [Act.put, List.setIfInBounds_toArray, List.set_cons_zero, List.set_cons_succ]
        refine wpAnyL_take (i := 2) (oi := { dst := some 12, op := Go.Op.move (Go.Operand.tmp 11), type := 4, pos := "l5_orders.go:133", after := #[{ on := 1, ground := Go.Ground.data }, { on := 1, ground := Go.Ground.chain }], guard := none }) (v := ?yv2) rfl (by kernel_rfl) (by kernel_rfl) (by kernel_rfl) (by kernel_rfl) (fun _ _ _ h => h) (Or.inl ⟨by rfl, ?yh2⟩) hS ?yr2
        case yh2 => (intro wS hSw; (try dsimp only at hSw); go_split_ands; go_simp; try with_reducible rfl)
        try simp only [Act.put, List.setIfInBounds_toArray, List.set_cons_zero, List.set_cons_succ]
        refine wpAnyL_take (i := 3) (oi := { dst := some 13, op := Go.Op.load 29 (Go.Operand.tmp 2), type := 29, pos := "l5_orders.go:133", after := #[{ on := 2, ground := Go.Ground.guard }], guard := some (2, true) }) (v := ?yv3) rfl (by kernel_rfl) (by kernel_rfl) (by kernel_rfl) (by kernel_rfl) (fun _ _ _ h => h) (Or.inl ⟨by rfl, ?yh3⟩) hS ?yr3
        case yh3 => (intro wS hSw; (try dsimp only at hSw); go_split_ands; go_simp; try with_reducible rfl)
        try simp only [Act.put, List.setIfInBounds_toArray, List.set_cons_zero, List.set_cons_succ]
        refine wpAnyL_take (i := 4) (oi := { dst := some 14, op := Go.Op.move (Go.Operand.tmp 1), type := 23, pos := "l5_orders.go:133", after := #[{ on := 2, ground := Go.Ground.guard }], guard := some (2, true) }) (v := ?yv4) rfl (by kernel_rfl) (by kernel_rfl) (by kernel_rfl) (by kernel_rfl) (fun _ _ _ h => h) (Or.inl ⟨by rfl, ?yh4⟩) hS ?yr4
        case yh4 => (intro wS hSw; (try dsimp only at hSw); go_split_ands; go_simp; try with_reducible rfl)
        try simp only [Act.put, List.setIfInBounds_toArray, List.set_cons_zero, List.set_cons_succ]
        refine wpAnyL_take (i := 7) (oi := { dst := some 17, op := Go.Op.move (Go.Operand.tmp 1), type := 23, pos := "l5_orders.go:133", after := #[{ on := 2, ground := Go.Ground.guard }], guard := some (2, true) }) (v := ?yv7) rfl (by kernel_rfl) (by kernel_rfl) (by kernel_rfl) (by kernel_rfl) (fun _ _ _ h => h) (Or.inl ⟨by rfl, ?yh7⟩) hS ?yr7
        case yh7 => (intro wS hSw; (try dsimp only at hSw); go_split_ands; go_simp; try with_reducible rfl)
        try simp only [Act.put, List.setIfInBounds_toArray, List.set_cons_zero, List.set_cons_succ]
        refine wpAnyL_one (i := 5) (oi := { dst := some 15, op := Go.Op.call { callee := Go.Callee.value (Go.Operand.func 67), args := #[Go.Operand.tmp 14], argTypes := #[23] }, type := 3, pos := "l5_orders.go:133", after := #[{ on := 4, ground := Go.Ground.data }, { on := 2, ground := Go.Ground.chain }, { on := 2, ground := Go.Ground.guard }], guard := some (2, true) }) (by kernel_rfl) rfl (fun Ky5 hKy5 => ?_)
        refine step_callG (by rfl) 67 #[.slice wa walk.length wc] (by go_simp; try rfl) (HCO.out w1.drew (Below.refl w1.heap.size w1).drew) ?_
        rintro e w7 ⟨rfl, rfl⟩
        refine ⟨_, rfl, ?_⟩
        have hx8 := X1.out.cells
        refine hKy5 _ _ (fun _ => hx8) ?_
        clear hS
        have hS := hx8
        try simp only [Act.put, List.setIfInBounds_toArray, List.set_cons_zero, List.set_cons_succ]
        refine wpAnyL_one (i := 6) (oi := { dst := some 16, op := Go.Op.call { callee := Go.Callee.value (Go.Operand.func 73), args := #[Go.Operand.tmp 13, Go.Operand.tmp 15], argTypes := #[29, 3] }, type := 3, pos := "l5_orders.go:133", after := #[{ on := 3, ground := Go.Ground.data }, { on := 5, ground := Go.Ground.data }, { on := 5, ground := Go.Ground.chain }, { on := 2, ground := Go.Ground.guard }], guard := some (2, true) }) (by kernel_rfl) rfl (fun Ky6 hKy6 => ?_)
        refine step_callG (by rfl) 73 #[.agg #[.int .i64 m.size, .slice a m.doors.length c, .slice b m.keys.length d], .int .i64 (n : Int)] (by go_simp; try rfl) (HL1) ?_
        rintro e w5 ⟨rfl, hb5⟩
        refine ⟨_, rfl, ?_⟩
        have hb5' : Below w1.heap.size w1 w5 := (Below.refl w1.heap.size w1).drew.trans hb5
        have hx9 := (X1.out.below hb5').cells
        refine hKy6 _ _ (fun _ => hx9) ?_
        clear hS
        have hS := hx9
        try simp only [Act.put, List.setIfInBounds_toArray, List.set_cons_zero, List.set_cons_succ]
        refine wpAnyL_one (i := 8) (oi := { dst := some 18, op := Go.Op.call { callee := Go.Callee.value (Go.Operand.func 67), args := #[Go.Operand.tmp 17], argTypes := #[23] }, type := 3, pos := "l5_orders.go:133", after := #[{ on := 7, ground := Go.Ground.data }, { on := 6, ground := Go.Ground.chain }, { on := 2, ground := Go.Ground.guard }], guard := some (2, true) }) (by kernel_rfl) rfl (fun Ky8 hKy8 => ?_)
        refine step_callG (by rfl) 67 #[.slice wa walk.length wc] (by go_simp; try rfl) (HCO.out w5 hb5') ?_
        rintro e w7 ⟨rfl, rfl⟩
        refine ⟨_, rfl, ?_⟩
        have hx10 := hx9
        refine hKy8 _ _ (fun _ => hx10) ?_
        clear hS
        have hS := hx10
        try simp only [Act.put, List.setIfInBounds_toArray, List.set_cons_zero, List.set_cons_succ]
        refine wpAnyL_take (i := 9) (oi := { dst := some 19, op := Go.Op.binOp Go.BinOp.eql 3 (Go.Operand.tmp 16) (Go.Operand.tmp 18) 3, type := 4, pos := "l5_orders.go:133", after := #[{ on := 6, ground := Go.Ground.data }, { on := 8, ground := Go.Ground.data }, { on := 2, ground := Go.Ground.guard }], guard := some (2, true) }) (v := ?yv9) rfl (by kernel_rfl) (by kernel_rfl) (by kernel_rfl) (by kernel_rfl) (fun _ _ _ h => h) (Or.inl ⟨by rfl, ?yh9⟩) hS ?yr9
        case yh9 => (intro wS hSw; (try dsimp only at hSw); go_split_ands; go_simp; try with_reducible rfl)
        try simp only [Act.put, List.setIfInBounds_toArray, List.set_cons_zero, List.set_cons_succ]
        refine wpAnyL_take (i := 10) (oi := { dst := some 20, op := Go.Op.pick (Go.Operand.tmp 12) (Go.Operand.tmp 19) (Go.Operand.const (Go.Value.bool false)), type := 4, pos := "l5_orders.go:133", after := #[{ on := 2, ground := Go.Ground.data }, { on := 9, ground := Go.Ground.data }], guard := none }) (v := ?yv10) rfl (by kernel_rfl) (by kernel_rfl) (by kernel_rfl) (by kernel_rfl) (fun _ _ _ h => h) (Or.inl ⟨by rfl, ?yh10⟩) hS ?yr10
        case yh10 => (intro wS hSw; (try dsimp only at hSw); go_split_ands; go_simp; try with_reducible rfl)
        try simp only [Act.put, List.setIfInBounds_toArray, List.set_cons_zero, List.set_cons_succ]
        refine wpAnyL_take (i := 11) (oi := { dst := some 4, op := Go.Op.assign (Go.Operand.tmp 20), type := 4, pos := "l5_orders.go:133", after := #[{ on := 10, ground := Go.Ground.data }, { on := 8, ground := Go.Ground.chain }, { on := 0, ground := Go.Ground.phase }, { on := 1, ground := Go.Ground.phase }, { on := 2, ground := Go.Ground.phase }, { on := 3, ground := Go.Ground.phase }, { on := 4, ground := Go.Ground.phase }, { on := 5, ground := Go.Ground.phase }, { on := 6, ground := Go.Ground.phase }, { on := 7, ground := Go.Ground.phase }, { on := 8, ground := Go.Ground.phase }, { on := 9, ground := Go.Ground.phase }, { on := 10, ground := Go.Ground.phase }], guard := none }) (v := ?yv11) rfl (by kernel_rfl) (by kernel_rfl) (by kernel_rfl) (by kernel_rfl) (fun _ _ _ h => h) (Or.inl ⟨by rfl, ?yh11⟩) hS ?yr11
        case yh11 => (intro wS hSw; (try dsimp only at hSw); go_split_ands; go_simp; try with_reducible rfl)
        try simp only [Act.put, List.setIfInBounds_toArray, List.set_cons_zero, List.set_cons_succ]
        refine wpAnyL_take (i := 12) (oi := { dst := some 5, op := Go.Op.assign (Go.Operand.const (Go.Value.bool true)), type := 4, pos := "l5_orders.go:133", after := #[{ on := 11, ground := Go.Ground.chain }, { on := 0, ground := Go.Ground.phase }, { on := 1, ground := Go.Ground.phase }, { on := 2, ground := Go.Ground.phase }, { on := 3, ground := Go.Ground.phase }, { on := 4, ground := Go.Ground.phase }, { on := 5, ground := Go.Ground.phase }, { on := 6, ground := Go.Ground.phase }, { on := 7, ground := Go.Ground.phase }, { on := 8, ground := Go.Ground.phase }, { on := 9, ground := Go.Ground.phase }, { on := 10, ground := Go.Ground.phase }, { on := 11, ground := Go.Ground.phase }], guard := none }) (v := ?yv12) rfl (by kernel_rfl) (by kernel_rfl) (by kernel_rfl) (by kernel_rfl) (fun _ _ _ h => h) (Or.inl ⟨by rfl, ?yh12⟩) hS ?yr12
        case yh12 => (intro wS hSw; (try dsimp only at hSw); go_split_ands; go_simp; try with_reducible rfl)
        try simp only [Act.put, List.setIfInBounds_toArray, List.set_cons_zero, List.set_cons_succ]
        refine wpAnyL_done (by kernel_rfl) ?_ _
        go_wp2_with fail
        go_ret2
        rw [HE0.out, HM.out]
        exact ⟨rfl, HB1.out.trans (hb5'.mono (by omega))⟩
      · have HE0 : Hid (M.entSetB m walk = false) := Lib.hid (by rw [HEV.out, hm, decide_eq_false he]; rfl)
        generalize M.bigN m n = t at *
        have heb : ((t : Int) == (n : Int)) = false := by rw [beq_eq_false_iff_ne]; omega
        have hei : ¬ (t : Int) = (n : Int) := by omega
        clear hm he
        go_wp2_with fail
        have HH1 := HHA.out w1.drew (Below.refl w1.heap.size w1).drew
        rw [HMM.out] at HH1
        have HL1 := HLA.out w1.drew (Below.refl w1.heap.size w1).drew
        refine wp_region_late2 (fun (wq : World) => wq.cell? ⟨w.heap.size, 0, none⟩ = some (.int .i64 m.size) ∧ wq.cell? ⟨w.heap.size, 1, none⟩ = some (.slice a m.doors.length c) ∧ wq.cell? ⟨w.heap.size, 2, none⟩ = some (.slice b m.keys.length d)) [] 13 #[false, false, false, false, false, false, false, false, false, false, false, false, false] rfl rfl (by kernel_rfl) ?_
        have hS : (fun (wq : World) => wq.cell? ⟨w.heap.size, 0, none⟩ = some (.int .i64 m.size) ∧ wq.cell? ⟨w.heap.size, 1, none⟩ = some (.slice a m.doors.length c) ∧ wq.cell? ⟨w.heap.size, 2, none⟩ = some (.slice b m.keys.length d)) w1.drew := X1.out.cells
        refine wpAnyL_take (i := 0) (oi := { dst := some 10, op := Go.Op.move (Go.Operand.tmp 1), type := 23, pos := "l5_orders.go:133", after := #[], guard := none }) (v := ?zv0) rfl (by kernel_rfl) (by kernel_rfl) (by kernel_rfl) (by kernel_rfl) (fun _ _ _ h => h) (Or.inl ⟨by rfl, ?zh0⟩) hS ?zr0
        case zh0 => (intro wS hSw; (try dsimp only at hSw); go_split_ands; go_simp; try with_reducible rfl)
        try simp only [Act.put, List.setIfInBounds_toArray, List.set_cons_zero, List.set_cons_succ]
        refine wpAnyL_one (i := 1) (oi := { dst := some 11, op := Go.Op.call { callee := Go.Callee.value (Go.Operand.func 72), args := #[Go.Operand.tmp 10, Go.Operand.const (Go.Value.int Go.IntKind.i64 0)], argTypes := #[23, 3] }, type := 4, pos := "l5_orders.go:133", after := #[{ on := 0, ground := Go.Ground.data }], guard := none }) (by kernel_rfl) rfl (fun Kz1 hKz1 => ?_)
        refine step_call (by rfl) 72 #[.slice wa walk.length wc, .int .i64 0] (by go_simp; try rfl) (HH1) ?_
        rintro e w7 ⟨rfl, rfl⟩
        refine ⟨_, rfl, ?_⟩
        have hx7 := X1.out.cells
        refine hKz1 _ _ (fun _ => hx7) ?_
        clear hS
        have hS := hx7
        try simp only [Act.put, List.setIfInBounds_toArray, List.set_cons_zero, List.set_cons_succ]
        refine wpAnyL_take (i := 2) (oi := { dst := some 12, op := Go.Op.move (Go.Operand.tmp 11), type := 4, pos := "l5_orders.go:133", after := #[{ on := 1, ground := Go.Ground.data }, { on := 1, ground := Go.Ground.chain }], guard := none }) (v := ?zv2) rfl (by kernel_rfl) (by kernel_rfl) (by kernel_rfl) (by kernel_rfl) (fun _ _ _ h => h) (Or.inl ⟨by rfl, ?zh2⟩) hS ?zr2
        case zh2 => (intro wS hSw; (try dsimp only at hSw); go_split_ands; go_simp; try with_reducible rfl)
        try simp only [Act.put, List.setIfInBounds_toArray, List.set_cons_zero, List.set_cons_succ]
        refine wpAnyL_take (i := 3) (oi := { dst := some 13, op := Go.Op.load 29 (Go.Operand.tmp 2), type := 29, pos := "l5_orders.go:133", after := #[{ on := 2, ground := Go.Ground.guard }], guard := some (2, true) }) (v := ?zv3) rfl (by kernel_rfl) (by kernel_rfl) (by kernel_rfl) (by kernel_rfl) (fun _ _ _ h => h) (Or.inl ⟨by rfl, ?zh3⟩) hS ?zr3
        case zh3 => (intro wS hSw; (try dsimp only at hSw); go_split_ands; go_simp; try with_reducible rfl)
        try simp only [Act.put, List.setIfInBounds_toArray, List.set_cons_zero, List.set_cons_succ]
        refine wpAnyL_take (i := 4) (oi := { dst := some 14, op := Go.Op.move (Go.Operand.tmp 1), type := 23, pos := "l5_orders.go:133", after := #[{ on := 2, ground := Go.Ground.guard }], guard := some (2, true) }) (v := ?zv4) rfl (by kernel_rfl) (by kernel_rfl) (by kernel_rfl) (by kernel_rfl) (fun _ _ _ h => h) (Or.inl ⟨by rfl, ?zh4⟩) hS ?zr4
        case zh4 => (intro wS hSw; (try dsimp only at hSw); go_split_ands; go_simp; try with_reducible rfl)
        try simp only [Act.put, List.setIfInBounds_toArray, List.set_cons_zero, List.set_cons_succ]
        refine wpAnyL_take (i := 7) (oi := { dst := some 17, op := Go.Op.move (Go.Operand.tmp 1), type := 23, pos := "l5_orders.go:133", after := #[{ on := 2, ground := Go.Ground.guard }], guard := some (2, true) }) (v := ?zv7) rfl (by kernel_rfl) (by kernel_rfl) (by kernel_rfl) (by kernel_rfl) (fun _ _ _ h => h) (Or.inl ⟨by rfl, ?zh7⟩) hS ?zr7
        case zh7 => (intro wS hSw; (try dsimp only at hSw); go_split_ands; go_simp; try with_reducible rfl)
        try simp only [Act.put, List.setIfInBounds_toArray, List.set_cons_zero, List.set_cons_succ]
        refine wpAnyL_one (i := 5) (oi := { dst := some 15, op := Go.Op.call { callee := Go.Callee.value (Go.Operand.func 67), args := #[Go.Operand.tmp 14], argTypes := #[23] }, type := 3, pos := "l5_orders.go:133", after := #[{ on := 4, ground := Go.Ground.data }, { on := 2, ground := Go.Ground.chain }, { on := 2, ground := Go.Ground.guard }], guard := some (2, true) }) (by kernel_rfl) rfl (fun Kz5 hKz5 => ?_)
        refine step_callG (by rfl) 67 #[.slice wa walk.length wc] (by go_simp; try rfl) (HCO.out w1.drew (Below.refl w1.heap.size w1).drew) ?_
        rintro e w7 ⟨rfl, rfl⟩
        refine ⟨_, rfl, ?_⟩
        have hx8 := X1.out.cells
        refine hKz5 _ _ (fun _ => hx8) ?_
        clear hS
        have hS := hx8
        try simp only [Act.put, List.setIfInBounds_toArray, List.set_cons_zero, List.set_cons_succ]
        refine wpAnyL_one (i := 6) (oi := { dst := some 16, op := Go.Op.call { callee := Go.Callee.value (Go.Operand.func 73), args := #[Go.Operand.tmp 13, Go.Operand.tmp 15], argTypes := #[29, 3] }, type := 3, pos := "l5_orders.go:133", after := #[{ on := 3, ground := Go.Ground.data }, { on := 5, ground := Go.Ground.data }, { on := 5, ground := Go.Ground.chain }, { on := 2, ground := Go.Ground.guard }], guard := some (2, true) }) (by kernel_rfl) rfl (fun Kz6 hKz6 => ?_)
        refine step_callG (by rfl) 73 #[.agg #[.int .i64 m.size, .slice a m.doors.length c, .slice b m.keys.length d], .int .i64 (n : Int)] (by go_simp; try rfl) (HL1) ?_
        rintro e w5 ⟨rfl, hb5⟩
        refine ⟨_, rfl, ?_⟩
        have hb5' : Below w1.heap.size w1 w5 := (Below.refl w1.heap.size w1).drew.trans hb5
        have hx9 := (X1.out.below hb5').cells
        refine hKz6 _ _ (fun _ => hx9) ?_
        clear hS
        have hS := hx9
        try simp only [Act.put, List.setIfInBounds_toArray, List.set_cons_zero, List.set_cons_succ]
        refine wpAnyL_one (i := 8) (oi := { dst := some 18, op := Go.Op.call { callee := Go.Callee.value (Go.Operand.func 67), args := #[Go.Operand.tmp 17], argTypes := #[23] }, type := 3, pos := "l5_orders.go:133", after := #[{ on := 7, ground := Go.Ground.data }, { on := 6, ground := Go.Ground.chain }, { on := 2, ground := Go.Ground.guard }], guard := some (2, true) }) (by kernel_rfl) rfl (fun Kz8 hKz8 => ?_)
        refine step_callG (by rfl) 67 #[.slice wa walk.length wc] (by go_simp; try rfl) (HCO.out w5 hb5') ?_
        rintro e w7 ⟨rfl, rfl⟩
        refine ⟨_, rfl, ?_⟩
        have hx10 := hx9
        refine hKz8 _ _ (fun _ => hx10) ?_
        clear hS
        have hS := hx10
        try simp only [Act.put, List.setIfInBounds_toArray, List.set_cons_zero, List.set_cons_succ]
        refine wpAnyL_take (i := 9) (oi := { dst := some 19, op := Go.Op.binOp Go.BinOp.eql 3 (Go.Operand.tmp 16) (Go.Operand.tmp 18) 3, type := 4, pos := "l5_orders.go:133", after := #[{ on := 6, ground := Go.Ground.data }, { on := 8, ground := Go.Ground.data }, { on := 2, ground := Go.Ground.guard }], guard := some (2, true) }) (v := ?zv9) rfl (by kernel_rfl) (by kernel_rfl) (by kernel_rfl) (by kernel_rfl) (fun _ _ _ h => h) (Or.inl ⟨by rfl, ?zh9⟩) hS ?zr9
        case zh9 => (intro wS hSw; (try dsimp only at hSw); go_split_ands; go_simp; try with_reducible rfl)
        try simp only [Act.put, List.setIfInBounds_toArray, List.set_cons_zero, List.set_cons_succ]
        refine wpAnyL_take (i := 10) (oi := { dst := some 20, op := Go.Op.pick (Go.Operand.tmp 12) (Go.Operand.tmp 19) (Go.Operand.const (Go.Value.bool false)), type := 4, pos := "l5_orders.go:133", after := #[{ on := 2, ground := Go.Ground.data }, { on := 9, ground := Go.Ground.data }], guard := none }) (v := ?zv10) rfl (by kernel_rfl) (by kernel_rfl) (by kernel_rfl) (by kernel_rfl) (fun _ _ _ h => h) (Or.inl ⟨by rfl, ?zh10⟩) hS ?zr10
        case zh10 => (intro wS hSw; (try dsimp only at hSw); go_split_ands; go_simp; try with_reducible rfl)
        try simp only [Act.put, List.setIfInBounds_toArray, List.set_cons_zero, List.set_cons_succ]
        refine wpAnyL_take (i := 11) (oi := { dst := some 4, op := Go.Op.assign (Go.Operand.tmp 20), type := 4, pos := "l5_orders.go:133", after := #[{ on := 10, ground := Go.Ground.data }, { on := 8, ground := Go.Ground.chain }, { on := 0, ground := Go.Ground.phase }, { on := 1, ground := Go.Ground.phase }, { on := 2, ground := Go.Ground.phase }, { on := 3, ground := Go.Ground.phase }, { on := 4, ground := Go.Ground.phase }, { on := 5, ground := Go.Ground.phase }, { on := 6, ground := Go.Ground.phase }, { on := 7, ground := Go.Ground.phase }, { on := 8, ground := Go.Ground.phase }, { on := 9, ground := Go.Ground.phase }, { on := 10, ground := Go.Ground.phase }], guard := none }) (v := ?zv11) rfl (by kernel_rfl) (by kernel_rfl) (by kernel_rfl) (by kernel_rfl) (fun _ _ _ h => h) (Or.inl ⟨by rfl, ?zh11⟩) hS ?zr11
        case zh11 => (intro wS hSw; (try dsimp only at hSw); go_split_ands; go_simp; try with_reducible rfl)
        try simp only [Act.put, List.setIfInBounds_toArray, List.set_cons_zero, List.set_cons_succ]
        refine wpAnyL_take (i := 12) (oi := { dst := some 5, op := Go.Op.assign (Go.Operand.const (Go.Value.bool true)), type := 4, pos := "l5_orders.go:133", after := #[{ on := 11, ground := Go.Ground.chain }, { on := 0, ground := Go.Ground.phase }, { on := 1, ground := Go.Ground.phase }, { on := 2, ground := Go.Ground.phase }, { on := 3, ground := Go.Ground.phase }, { on := 4, ground := Go.Ground.phase }, { on := 5, ground := Go.Ground.phase }, { on := 6, ground := Go.Ground.phase }, { on := 7, ground := Go.Ground.phase }, { on := 8, ground := Go.Ground.phase }, { on := 9, ground := Go.Ground.phase }, { on := 10, ground := Go.Ground.phase }, { on := 11, ground := Go.Ground.phase }], guard := none }) (v := ?zv12) rfl (by kernel_rfl) (by kernel_rfl) (by kernel_rfl) (by kernel_rfl) (fun _ _ _ h => h) (Or.inl ⟨by rfl, ?zh12⟩) hS ?zr12
        case zh12 => (intro wS hSw; (try dsimp only at hSw); go_split_ands; go_simp; try with_reducible rfl)
        try simp only [Act.put, List.setIfInBounds_toArray, List.set_cons_zero, List.set_cons_succ]
        refine wpAnyL_done (by kernel_rfl) ?_ _
        go_wp2_with fail
        go_ret2
        rw [HE0.out, HM.out]
        exact ⟨rfl, HB1.out.trans (hb5'.mono (by omega))⟩
theorem specLe_lw (w : World) (lo hi : Nat) (m : M.Mz) (a b : Option Addr) (c d : Nat) (h : MzIn lo hi w m a c b d) (hz : hi ≤ w.heap.size) (_h1 : m.doors.length ≤ 1048576) (_h2 : m.keys.length ≤ 1048576) (lo' hi' : Nat) (wa : Option Addr) (wc : Nat) (walk : List Int) (hw : RowIn lo' hi' w wa (M.encIs walk)) (hz' : hi' ≤ w.heap.size) (hl : walk.length ≤ 1048576) (_u1 : walk.length ≤ wc) (_u2 : wc ≤ 9223372036854775807) (_u3 : ∀ z ∈ walk, -9223372036854775808 ≤ z ∧ z ≤ 9223372036854775807) :
    Calls Try.prog 41 #[.agg #[.int .i64 m.size, .slice a m.doors.length c, .slice b m.keys.length d], .slice wa walk.length wc] w (IntsOkPost w (M.bigV m walk) (M.bigB m walk)) := by
  obtain ⟨ii0, hi0, hz0, hzz1, hz2⟩ := info_parts infoI
  have H := Lib.hid h
  clear h
  have HW := Lib.hid hw
  clear hw
  go_enter Try.func41, Try.ntmps41
  go_wp2_with fail
  refine named ?_
  intro W hW
  have hb : Below w.heap.size w W := by rw [hW]; exact below_alloc _ _
  have x1 : Box3 W w.heap.size 29 (.int .i64 m.size) (.slice a m.doors.length c) (.slice b m.keys.length d) := by rw [hW]; exact Box3.new _ _ _ _ rfl
  clear hW
  have hzw := hb.size
  refine (l5List_any W lo hi m a b c d (H.out.below hb hz) (by omega) lo' hi' wa wc walk (HW.out.below hb hz') (by omega) hl).mono ?_
  rintro e w1 ⟨rfl, hb1⟩
  have X1 := Lib.hid (x1.below hb1)
  have HB1 := Lib.hid (hb.trans (hb1.mono hzw))
  have hz1 := hb1.size
  have hxl1 := X1.out.lt
  clear hb hb1 x1
  obtain ⟨c0, c1, c2⟩ := X1.out.cells
  cases q0 : M.listB m walk with
  | false =>
    have HM := Lib.hid q0
    clear q0
    go_wp2_with fail
    go_ret2
    rw [M.bigV_no (M.bigB_no HM.out), M.bigB_no HM.out]
    exact intsOk_end (l := []) (ownsRow_empty _ _ _ _ (by omega)) (HB1.out.alloc (by omega) _)
  | true =>
    have HM := Lib.hid q0
    obtain ⟨qm, qr⟩ : M.mazeB m = true ∧ M.riseB m.size walk = true := by unfold M.listB at q0; rwa [Bool.and_eq_true] at q0
    have HV := Lib.hid (M.valid_of qm)
    have v12 := HV.out.size12
    have hr := M.riseB_iff.1 qr
    have HRL := Lib.hid hr.2
    obtain ⟨hn4, _⟩ := M.rise_mk v12 hr
    have HW1 := Lib.hid (HW.out.below HB1.out hz')
    have HHA := Lib.hid (fun W' (hq : Below w1.heap.size w1 W') => l1Has_any W' lo' hi' wa wc walk 0 (HW1.out.below (hq.mono (by omega)) (by omega)) hl)
    have HCO := Lib.hid (fun W' (hq : Below w1.heap.size w1 W') => l5Code_any W' lo' hi' wa wc walk m.size (HW1.out.below (hq.mono (by omega)) (by omega)) v12 HRL.out hl)
    have HLA := Lib.hid (fun W' (hq : Below w1.heap.size w1 W') => l5Largest_any W' lo hi m a b c d (H.out.below (HB1.out.trans (hq.mono (by omega))) hz) (by have := hq.size; omega) HV.out (M.mk walk) hn4)
    have HBB := Lib.hid (M.bigB_yes HM.out)
    have HVY := Lib.hid (fun h => M.bigV_yes (m := m) (l := walk) h)
    have hbn4 : M.bigN m (M.mk walk) < 4096 := by
      unfold M.bigN
      split
      · rename_i h
        exact ((Classical.choose_spec h).1.lt HV.out).1
      · decide
    clear q0 qm qr hr
    generalize M.mk walk = n at *
    cases hm : M.memB walk 0 with
    | false =>
      have HE0 : Hid (M.bigB m walk = false) := Lib.hid (by rw [HBB.out, hm])
      have HMM := Lib.hid hm
      clear hm
      go_wp2_with fail
      refine (HHA.out w1 (Below.refl _ _)).mono ?_
      rintro e w7 ⟨rfl, rfl⟩
      rw [HMM.out]
      go_wp2_with fail
      go_ret2
      rw [M.bigV_no HE0.out, HE0.out]
      exact intsOk_end (l := []) (ownsRow_empty _ _ _ _ (by omega)) (HB1.out.alloc (by omega) _)
    | true =>
      have HE0 : Hid (M.bigB m walk = true) := Lib.hid (by rw [HBB.out, hm])
      have HMM := Lib.hid hm
      have HND := Lib.hid (fun W' => l5Nodes_any (M.bigN m n) hbn4 W')
      clear hm
      generalize M.bigN m n = t at *
      go_wp2_with fail
      refine (HHA.out w1 (Below.refl _ _)).mono ?_
      rintro e w7 ⟨rfl, rfl⟩
      rw [HMM.out]
      go_wp2_with fail
      go_region_with (first
        | (go_at_call 67; refine (HCO.out w1.drew (Below.refl w1.heap.size w1).drew).mono ?_; rintro e w7 ⟨rfl, rfl⟩)
        | (go_at_call 73; refine (HLA.out w1.drew (Below.refl w1.heap.size w1).drew).mono ?_; rintro e w5 ⟨rfl, hb5⟩; have hb5' : Below w1.heap.size w1 w5 := (Below.refl w1.heap.size w1).drew.trans hb5)
        | (go_at_call 76; refine (HND.out w5).mono ?_; rintro e w6 ⟨ra, rc, rfl, ho, hq1, hq2, hb6⟩))
      all_goals
        have hz5 := hb5'.size
        have HB6 := Lib.hid ((HB1.out.trans (hb5'.mono (by omega))).trans (hb6.mono (by omega)))
        go_wp2_with fail
        go_ret2
        rw [HVY.out HE0.out, HE0.out]
        exact ⟨ra, rc, rfl, ho.mono (by omega) (Nat.le_refl _), hq1, hq2, HB6.out⟩
end C
end Go.Proofs.Ytdjmmgfjcchloaa
