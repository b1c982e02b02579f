/-
  CONTRACTS of the model's l9Ask, l9Filling, l9Good, IsFilling; what lay in memory stays. No condition but that the maze and the list read so.
-/
import Derived.Test.YtddpjjdncmokmaaFilM
import Derived.Test.YtddpjjdncmokmaaWHClose
import Derived.Test.YtddpjjdncmokmaaWBDigitsI
import Derived.Deep.DeepCutAuto
namespace Go.Proofs.Ytddpjjdncmokmaa
open Go.RowKit
namespace C
set_option linter.unusedVariables false
set_option maxHeartbeats 3200000
set_option maxRecDepth 20000
theorem ask9_any (w : World) (lo hi : Nat) (m : M.Mz) (a b : Option Addr) (c d : Nat) (s : Int) (h : MzIn lo hi w m a c b d) (hz : hi ≤ w.heap.size) :
    Calls Try.prog 62 #[.agg #[.int .i64 m.size, .slice a m.doors.length c, .slice b m.keys.length d], .int .i64 s] w (BoolPost w (M.askB m s)) := by
  have H := Lib.hid h
  clear h
  go_enter Try.func62, Try.ntmps62
  go_wp2_with fail
  refine named ?_
  intro W hW
  have hb : Below w.heap.size w W := by rw [hW]; exact below_alloc _ _
  clear hW
  have hzw := hb.size
  refine (specMaze_any W lo hi m a b c d (H.out.below hb hz) (by omega)).mono ?_
  rintro e w1 ⟨rfl, hb1⟩
  have HB := Lib.hid (hb.trans (hb1.mono hzw))
  clear hb hb1
  cases hm : M.mazeB m with
  | false =>
    have HF : Hid (M.askB m s = false) := Lib.hid (by unfold M.askB; rw [hm]; rfl)
    clear hm
    go_wp2_with fail
    go_ret
    exact ⟨by rw [HF.out]; rfl, HB.out⟩
  | true =>
    have HF : Hid (M.askB m s = M.setB s) := Lib.hid (by unfold M.askB; rw [hm]; rfl)
    clear hm
    go_wp2_with fail
    refine (l2Set_any _ _).mono ?_
    rintro e w2 ⟨rfl, rfl⟩
    go_wp2_with fail
    go_ret
    exact ⟨by rw [HF.out]; rfl, HB.out⟩
theorem many_call (s : Int) (hs : M.setB s = true) (w : World) : Calls Try.prog 99 #[.int .i64 s] w fun e w' => e = .returned (.int .i64 (M.manyC s : Nat)) ∧ w = w' := by
  have h' := M.setB_iff.1 hs
  have h := l2Many_any ⟨s.toNat, by omega⟩ w
  rw [← M.many_cnt, show (((⟨s.toNat, by omega⟩ : M.St6).val : Nat) : Int) = s from by show ((s.toNat : Nat) : Int) = s; omega] at h
  exact h
theorem fill9_any (w : World) (lo hi : Nat) (m : M.Mz) (a b : Option Addr) (c d : Nat) (h : MzIn lo hi w m a c b d) (hz : hi ≤ w.heap.size) (v1 : 1 ≤ m.size) (v12 : m.size ≤ 12) (s : Int) (hs : M.setB s = true) (lo' hi' : Nat) (fa : Option Addr) (fc : Nat) (fs : List Int) (hf : RowIn lo' hi' w fa (M.encIs fs)) (hz' : hi' ≤ w.heap.size) (hl : fs.length ≤ 1048576) :
    Calls Try.prog 63 #[.agg #[.int .i64 m.size, .slice a m.doors.length c, .slice b m.keys.length d], .int .i64 s, .slice fa fs.length fc] w (BoolPost w (M.fillB m s fs)) := by
  have HF := Lib.hid hf
  have HMC := Lib.hid (fun W => many_call s hs W)
  clear hf h hz
  go_enter Try.func63, Try.ntmps63
  go_wp2_with fail
  refine wp_named ?_
  intro W hW
  have hb : Below w.heap.size w W := by rw [hW]; exact below_alloc _ _
  have x1 : Box3 W w.heap.size 27 (.int .i64 m.size) (.slice a m.doors.length c) (.slice b m.keys.length d) := by rw [hW]; exact Box3.new _ _ _ _ rfl
  clear hW
  have hzw := hb.size
  have HR := Lib.hid (HF.out.below hb hz')
  have HB := Lib.hid hb
  have X1 := Lib.hid x1
  have hw1 : IntKind.i64.wrap (m.size - 1) = m.size - 1 := IntWalk.i64_in _ (by omega)
  clear hb x1
  go_loopw [7] (fun i wr => ∃ (k : Nat), k ≤ fs.length ∧ i = .int .i64 k ∧ Box3 wr w.heap.size 27 (.int .i64 m.size) (.slice a m.doors.length c) (.slice b m.keys.length d) ∧ Below w.heap.size w wr ∧ ∀ j (hj : j < fs.length), j < k → M.inB fs[j] 0 (m.size - 1) = true) (fun i _ => fs.length - (intOf i).toNat)
  case atStart => exact ⟨0, Nat.zero_le _, rfl, X1.out, HB.out, fun j _ h => by omega⟩
  case round =>
    obtain ⟨k, hk, rfl, hx, hlow, hall⟩ := hrel
    have HA := Lib.hid hall
    have X3 := Lib.hid hx
    have LO := Lib.hid hlow
    have hzr := hlow.size
    clear hall hx hlow
    by_cases hlt : k < fs.length
    · obtain ⟨g, off, rfl, _, _, hc0⟩ := (HF.out.below LO.out hz').at_ (k := k) (by rw [M.encIs_len]; exact hlt)
      have hc := hc0 k _ (M.encIs_at hlt)
      have HN := Lib.hid (fun (h : M.inB fs[k] 0 (m.size - 1) = false) => M.all_take_no (f := fun x => M.inB x 0 (m.size - 1)) hlt h)
      have HY := Lib.hid (fun (h : M.inB fs[k] 0 (m.size - 1) = true) (j : Nat) (hj : j < fs.length) (hjk : j < k + 1) => show M.inB fs[j] 0 (m.size - 1) = true from by
        rcases Nat.lt_or_ge j k with h' | h'
        · exact HA.out j hj h'
        · obtain rfl : j = k := by omega
          exact h)
      clear hc0
      have HI := Lib.hid (fun W => l1In_any fs[k] 0 (m.size - 1) W)
      generalize fs[k] = x at *
      obtain ⟨c0, c1, c2⟩ := X3.out.cells
      have hxl := X3.out.lt
      go_wp2_with fail
      refine wp_region_late2 (fun (wq : World) => (wq.cell? ⟨w.heap.size, 0, none⟩ = some (.int .i64 m.size) ∧ wq.cell? ⟨w.heap.size, 1, none⟩ = some (.slice a m.doors.length c) ∧ wq.cell? ⟨w.heap.size, 2, none⟩ = some (.slice b m.keys.length d)) ∧ wq.cell? ⟨g, off + k, none⟩ = some (.int .i64 x)) [] 9 #[false, false, false, false, false, false, false, false, false] rfl rfl (by kernel_rfl) ?_
      have hS : (fun (wq : World) => (wq.cell? ⟨w.heap.size, 0, none⟩ = some (.int .i64 m.size) ∧ wq.cell? ⟨w.heap.size, 1, none⟩ = some (.slice a m.doors.length c) ∧ wq.cell? ⟨w.heap.size, 2, none⟩ = some (.slice b m.keys.length d)) ∧ wq.cell? ⟨g, off + k, none⟩ = some (.int .i64 x)) wr.drew := ⟨⟨c0, c1, c2⟩, hc⟩
      refine wpAnyL_take (i := 0) (oi := { dst := some 14, op := Go.Op.move (Go.Operand.tmp 2), type := 23, pos := "l9_filling.go:11", after := #[], guard := none }) (v := ?pv0) rfl (by kernel_rfl) (by kernel_rfl) (by kernel_rfl) (by kernel_rfl) (fun _ _ _ h => h) (Or.inl ⟨by rfl, ?ph0⟩) hS ?pr0
      case ph0 => (intro wS hSw; (try dsimp only at hSw); go_split_ands; go_simp; try with_reducible rfl)
      try simp only [Act.put, List.setIfInBounds_toArray, List.set_cons_zero, List.set_cons_succ]
      refine wpAnyL_take (i := 1) (oi := { dst := some 15, op := Go.Op.move (Go.Operand.tmp 7), type := 3, pos := "l9_filling.go:11", after := #[], guard := none }) (v := ?pv1) rfl (by kernel_rfl) (by kernel_rfl) (by kernel_rfl) (by kernel_rfl) (fun _ _ _ h => h) (Or.inl ⟨by rfl, ?ph1⟩) hS ?pr1
      case ph1 => (intro wS hSw; (try dsimp only at hSw); go_split_ands; go_simp; try with_reducible rfl)
      try simp only [Act.put, List.setIfInBounds_toArray, List.set_cons_zero, List.set_cons_succ]
      refine wpAnyL_take (i := 2) (oi := { dst := some 16, op := Go.Op.indexAddr 23 (Go.Operand.tmp 14) (Go.Operand.tmp 15), type := 0, pos := "l9_filling.go:11", after := #[{ on := 0, ground := Go.Ground.data }, { on := 1, ground := Go.Ground.data }], guard := none }) (v := ?pv2) rfl (by kernel_rfl) (by kernel_rfl) (by kernel_rfl) (by kernel_rfl) (fun _ _ _ h => h) (Or.inl ⟨by rfl, ?ph2⟩) hS ?pr2
      case ph2 => (intro wS hSw; (try dsimp only at hSw); go_split_ands; go_simp; try with_reducible rfl)
      try simp only [Act.put, List.setIfInBounds_toArray, List.set_cons_zero, List.set_cons_succ]
      refine wpAnyL_take (i := 3) (oi := { dst := some 17, op := Go.Op.load 3 (Go.Operand.tmp 16), type := 3, pos := "l9_filling.go:11", after := #[{ on := 2, ground := Go.Ground.data }], guard := none }) (v := ?pv3) rfl (by kernel_rfl) (by kernel_rfl) (by kernel_rfl) (by kernel_rfl) (fun _ _ _ h => h) (Or.inl ⟨by rfl, ?ph3⟩) hS ?pr3
      case ph3 => (intro wS hSw; (try dsimp only at hSw); go_split_ands; go_simp; try with_reducible rfl)
      try simp only [Act.put, List.setIfInBounds_toArray, List.set_cons_zero, List.set_cons_succ]
      refine wpAnyL_take (i := 4) (oi := { dst := some 18, op := Go.Op.fieldAddr 27 (Go.Operand.tmp 3) 0, type := 0, pos := "l9_filling.go:11", after := #[], guard := none }) (v := ?pv4) rfl (by kernel_rfl) (by kernel_rfl) (by kernel_rfl) (by kernel_rfl) (fun _ _ _ h => h) (Or.inl ⟨by rfl, ?ph4⟩) hS ?pr4
      case ph4 => (intro wS hSw; (try dsimp only at hSw); go_split_ands; go_simp; try with_reducible rfl)
      try simp only [Act.put, List.setIfInBounds_toArray, List.set_cons_zero, List.set_cons_succ]
      refine wpAnyL_take (i := 5) (oi := { dst := some 19, op := Go.Op.load 3 (Go.Operand.tmp 18), type := 3, pos := "l9_filling.go:11", after := #[{ on := 4, ground := Go.Ground.data }], guard := none }) (v := ?pv5) rfl (by kernel_rfl) (by kernel_rfl) (by kernel_rfl) (by kernel_rfl) (fun _ _ _ h => h) (Or.inl ⟨by rfl, ?ph5⟩) hS ?pr5
      case ph5 => (intro wS hSw; (try dsimp only at hSw); go_split_ands; go_simp; try with_reducible rfl)
      try simp only [Act.put, List.setIfInBounds_toArray, List.set_cons_zero, List.set_cons_succ]
      refine wpAnyL_take (i := 6) (oi := { dst := some 20, op := Go.Op.binOp Go.BinOp.sub 3 (Go.Operand.tmp 19) (Go.Operand.const (Go.Value.int Go.IntKind.i64 1)) 3, type := 3, pos := "l9_filling.go:11", after := #[{ on := 5, ground := Go.Ground.data }], guard := none }) (v := ?pv6) rfl (by kernel_rfl) (by kernel_rfl) (by kernel_rfl) (by kernel_rfl) (fun _ _ _ h => h) (Or.inl ⟨by rfl, ?ph6⟩) hS ?pr6
      case ph6 => (intro wS hSw; (try dsimp only at hSw); go_split_ands; go_simp; try with_reducible rfl)
      try simp only [Act.put, List.setIfInBounds_toArray, List.set_cons_zero, List.set_cons_succ]
      refine wpAnyL_one (i := 7) (oi := { dst := some 21, op := Go.Op.call { callee := Go.Callee.value (Go.Operand.func 98), args := #[Go.Operand.tmp 17, Go.Operand.const (Go.Value.int Go.IntKind.i64 0), Go.Operand.tmp 20], argTypes := #[3, 3, 3] }, type := 4, pos := "l9_filling.go:11", after := #[{ on := 3, ground := Go.Ground.data }, { on := 6, ground := Go.Ground.data }], guard := none }) (by kernel_rfl) rfl (fun Kp7 hKp7 => ?_)
      refine step_call (by rfl) 98 #[.int .i64 x, .int .i64 0, .int .i64 (m.size - 1)] (by go_simp; try rfl) (HI.out _) ?_
      rintro e w2 ⟨rfl, rfl⟩
      refine ⟨_, rfl, ?_⟩
      have hx6 : (fun (wq : World) => (wq.cell? ⟨w.heap.size, 0, none⟩ = some (.int .i64 m.size) ∧ wq.cell? ⟨w.heap.size, 1, none⟩ = some (.slice a m.doors.length c) ∧ wq.cell? ⟨w.heap.size, 2, none⟩ = some (.slice b m.keys.length d)) ∧ wq.cell? ⟨g, off + k, none⟩ = some (.int .i64 x)) wr.drew := hS
      refine hKp7 _ _ (fun _ => hx6) ?_
      clear hS
      have hS := hx6
      try simp only [Act.put, List.setIfInBounds_toArray, List.set_cons_zero, List.set_cons_succ]
      refine wpAnyL_take (i := 8) (oi := { dst := some 22, op := Go.Op.unOp Go.UnOp.not 4 (Go.Operand.tmp 21), type := 4, pos := "l9_filling.go:11", after := #[{ on := 7, ground := Go.Ground.data }], guard := none }) (v := ?pv8) rfl (by kernel_rfl) (by kernel_rfl) (by kernel_rfl) (by kernel_rfl) (fun _ _ _ h => h) (Or.inl ⟨by rfl, ?ph8⟩) hS ?pr8
      case ph8 => (intro wS hSw; (try dsimp only at hSw); go_split_ands; go_simp; try with_reducible rfl)
      try simp only [Act.put, List.setIfInBounds_toArray, List.set_cons_zero, List.set_cons_succ]
      refine wpAnyL_done (by kernel_rfl) ?_ _
      cases hin : M.inB x 0 (m.size - 1) with
      | true =>
        have HY' := Lib.hid (HY.out hin)
        clear HY HN hin hS c0 c1 c2
        go_wp2_with fail
        go_roundw
        case rel => exact ⟨k + 1, by omega, by go_num, X3.out, Below.drawnN LO.out 1, HY'.out⟩
        case measure => simp [intOf]; omega
      | false =>
        have HN' : Hid (M.fillB m s fs = false) := Lib.hid (by unfold M.fillB M.nodesB; rw [HN.out hin]; rfl)
        clear HY HN hin hS c0 c1 c2
        go_wp2_with fail
        go_ret
        rw [HN'.out]
        exact ⟨rfl, Below.drawnN LO.out 1⟩
    · obtain rfl : k = fs.length := by omega
      have HE : Hid (M.fillB m s fs = decide (fs.length = M.manyC s)) := Lib.hid (by unfold M.fillB M.nodesB; rw [M.all_of_take fun j hj => HA.out j hj hj]; rfl)
      have hm6 := M.many_le s
      have hdec : ((fs.length : Int) == (M.manyC s : Int)) = decide (fs.length = M.manyC s) := by rw [Bool.eq_iff_iff, beq_iff_eq, decide_eq_true_iff]; omega
      have HD := Lib.hid hdec
      clear hdec hlt
      generalize M.manyC s = mm at *
      go_wp2_with fail
      refine (HMC.out _).mono ?_
      rintro e w' ⟨rfl, rfl⟩
      go_wp2_with fail
      go_ret
      rw [HE.out]
      exact ⟨by first | rfl | (rw [← HD.out]; rfl) | simp [← HD.out], LO.out⟩
theorem good9_any (w : World) (lo hi : Nat) (m : M.Mz) (a b : Option Addr) (c d : Nat) (h : MzIn lo hi w m a c b d) (hz : hi ≤ w.heap.size) (s : Int) (lo' hi' : Nat) (fa : Option Addr) (fc : Nat) (fs : List Int) (hf : RowIn lo' hi' w fa (M.encIs fs)) (hz' : hi' ≤ w.heap.size) (hl : fs.length ≤ 1048576) :
    Calls Try.prog 53 #[.agg #[.int .i64 m.size, .slice a m.doors.length c, .slice b m.keys.length d], .int .i64 s, .slice fa fs.length fc] w (BoolPost w (M.filB m s fs)) := by
  have H := Lib.hid h
  have HF := Lib.hid hf
  clear h hf
  go_enter Try.func53, Try.ntmps53
  go_wp2_with fail
  refine named ?_
  intro W hW
  have hb : Below w.heap.size w W := by rw [hW]; exact below_alloc _ _
  have x1 : Box3 W w.heap.size 27 (.int .i64 m.size) (.slice a m.doors.length c) (.slice b m.keys.length d) := by rw [hW]; exact Box3.new _ _ _ _ rfl
  clear hW
  have hzw := hb.size
  refine (ask9_any W lo hi m a b c d s (H.out.below hb hz) (by omega)).mono ?_
  rintro e w1 ⟨rfl, hb1⟩
  have HB1 := Lib.hid (hb.trans (hb1.mono hzw))
  have X1 := Lib.hid (x1.below hb1)
  have hz1 := hb1.size
  clear hb hb1 x1
  obtain ⟨c0, c1, c2⟩ := X1.out.cells
  have hxl := X1.out.lt
  cases qa : M.askB m s with
  | false =>
    have HN : Hid (M.filB m s fs = false) := Lib.hid (by unfold M.filB; rw [qa]; rfl)
    clear qa
    go_wp2_with fail
    go_ret
    exact ⟨by rw [HN.out]; rfl, HB1.out⟩
  | true =>
    have HN : Hid (M.filB m s fs = M.fillB m s fs) := Lib.hid (by unfold M.filB; rw [qa]; rfl)
    obtain ⟨hv, h0⟩ := M.ask_yes qa
    have v1 := hv.size1
    have v12 := hv.size12
    have hset := M.setB_iff.2 h0
    clear qa hv h0
    go_wp2_with fail
    refine (fill9_any w1 lo hi m a b c d (H.out.below HB1.out hz) (by have := HB1.out.size; omega) v1 v12 s hset lo' hi' fa fc fs (HF.out.below HB1.out hz') (by have := HB1.out.size; omega) hl).mono ?_
    rintro e w2 ⟨rfl, hb2⟩
    have HB2 := Lib.hid (HB1.out.trans (hb2.mono (by omega)))
    clear hb2
    go_wp2_with fail
    go_ret
    exact ⟨by rw [HN.out]; rfl, HB2.out⟩
theorem specIsFil_lw (w : World) (lo hi : Nat) (m : M.Mz) (a b : Option Addr) (c d : Nat) (h : MzIn lo hi w m a c b d) (hz : hi ≤ w.heap.size) (_h1 : m.doors.length ≤ 1048576) (_h2 : m.keys.length ≤ 1048576) (s : Int) (_s1 : -9223372036854775808 ≤ s) (_s2 : s ≤ 9223372036854775807) (lo' hi' : Nat) (fa : Option Addr) (fc : Nat) (fs : List Int) (hf : RowIn lo' hi' w fa (M.encIs fs)) (hz' : hi' ≤ w.heap.size) (hl : fs.length ≤ 1048576) (_u1 : fs.length ≤ fc) (_u2 : fc ≤ 9223372036854775807) (_u3 : ∀ z ∈ fs, -9223372036854775808 ≤ z ∧ z ≤ 9223372036854775807) :
    Calls Try.prog 25 #[.agg #[.int .i64 m.size, .slice a m.doors.length c, .slice b m.keys.length d], .int .i64 s, .slice fa fs.length fc] w (BoolsPost w (M.filB m s fs) (M.askB m s)) := by
  have H := Lib.hid h
  have HF := Lib.hid hf
  clear h hf
  go_enter Try.func25, Try.ntmps25
  go_wp2_with fail
  refine named ?_
  intro W hW
  have hb : Below w.heap.size w W := by rw [hW]; exact below_alloc _ _
  have x1 : Box3 W w.heap.size 27 (.int .i64 m.size) (.slice a m.doors.length c) (.slice b m.keys.length d) := by rw [hW]; exact Box3.new _ _ _ _ rfl
  clear hW
  have hzw := hb.size
  refine (ask9_any W lo hi m a b c d s (H.out.below hb hz) (by omega)).mono ?_
  rintro e w1 ⟨rfl, hb1⟩
  have HB1 := Lib.hid (hb.trans (hb1.mono hzw))
  have X1 := Lib.hid (x1.below hb1)
  have hz1 := hb1.size
  clear hb hb1 x1
  obtain ⟨c0, c1, c2⟩ := X1.out.cells
  have hxl := X1.out.lt
  cases qa : M.askB m s with
  | false =>
    have HN : Hid (M.filB m s fs = false) := Lib.hid (by unfold M.filB; rw [qa]; rfl)
    have HQ := Lib.hid qa
    clear qa
    go_wp2_with fail
    go_ret2
    exact ⟨by rw [HN.out, HQ.out]; rfl, HB1.out⟩
  | true =>
    have HN : Hid (M.filB m s fs = M.fillB m s fs) := Lib.hid (by unfold M.filB; rw [qa]; rfl)
    obtain ⟨hv, h0⟩ := M.ask_yes qa
    have v1 := hv.size1
    have v12 := hv.size12
    have hset := M.setB_iff.2 h0
    have HQ := Lib.hid qa
    clear qa hv h0
    go_wp2_with fail
    refine (fill9_any w1 lo hi m a b c d (H.out.below HB1.out hz) (by have := HB1.out.size; omega) v1 v12 s hset lo' hi' fa fc fs (HF.out.below HB1.out hz') (by have := HB1.out.size; omega) hl).mono ?_
    rintro e w2 ⟨rfl, hb2⟩
    have HB2 := Lib.hid (HB1.out.trans (hb2.mono (by omega)))
    clear hb2
    go_wp2_with fail
    go_ret2
    exact ⟨by rw [HN.out, HQ.out]; rfl, HB2.out⟩
end C
end Go.Proofs.Ytddpjjdncmokmaa
