/-
  CONTRACTS of the model's LayKeys, l9Depth; what lay in memory stays. No condition but that the maze and the list read so (l9Depth: a filling).
-/
import Derived.Test.YtddpjjdncmokmaaLayS
import Derived.Test.YtddpjjdncmokmaaFilS
import Derived.Test.YtddpjjdncmokmaaWHClose
import Derived.Test.YtddpjjdncmokmaaWCBefore
namespace Go.Proofs.Ytddpjjdncmokmaa
open Go.RowKit
namespace C
set_option linter.unusedVariables false
set_option maxHeartbeats 3200000
set_option maxRecDepth 20000
theorem specLay_lw (w : World) (lo hi : Nat) (m : M.Mz) (a b : Option Addr) (c d : Nat) (h : MzIn lo hi w m a c b d) (hz : hi ≤ w.heap.size) (_h1 : m.doors.length ≤ 1048576) (_h2 : m.keys.length ≤ 1048576) (s : Int) (_s1 : -9223372036854775808 ≤ s) (_s2 : s ≤ 9223372036854775807) (lo' hi' : Nat) (fa : Option Addr) (fc : Nat) (fs : List Int) (hf : RowIn lo' hi' w fa (M.encIs fs)) (hz' : hi' ≤ w.heap.size) (hl : fs.length ≤ 1048576) (_u1 : fs.length ≤ fc) (_u2 : fc ≤ 9223372036854775807) (_u3 : ∀ z ∈ fs, -9223372036854775808 ≤ z ∧ z ≤ 9223372036854775807) :
    Calls Try.prog 16 #[.agg #[.int .i64 m.size, .slice a m.doors.length c, .slice b m.keys.length d], .int .i64 s, .slice fa fs.length fc] w (MzOkPost w (M.laidV m s fs) (M.filB m s fs)) := by
  have H := Lib.hid h
  have HF := Lib.hid hf
  clear h hf
  go_enter Try.func16, Try.ntmps16
  go_wp2_with fail
  refine named ?_
  intro W hW
  have hb : Below w.heap.size w W := by rw [hW]; exact (below_alloc _ _).alloc (by simp) _
  have x1 : Box3 W w.heap.size 27 (.int .i64 m.size) (.slice a m.doors.length c) (.slice b m.keys.length d) := by rw [hW]; exact (Box3.new _ _ _ _ rfl).alloc _
  have y1 : Box3 W (w.heap.size + 1) 27 (.int .i64 0) (.slice none 0 0) (.slice none 0 0) := by rw [hW]; exact Box3.new _ _ _ _ (by simp)
  clear hW
  have hzw := hb.size
  have hbl := y1.lt
  refine (good9_any W lo hi m a b c d (H.out.below hb hz) (by omega) s lo' hi' fa fc fs (HF.out.below hb hz') (by omega) hl).mono ?_
  rintro e w1 ⟨rfl, hb1⟩
  have HB1 := Lib.hid (hb.trans (hb1.mono hzw))
  have X1 := Lib.hid (x1.below hb1)
  have Y1 := Lib.hid (y1.below hb1)
  have hz1 := hb1.size
  clear hb hb1 x1 y1
  obtain ⟨c0, c1, c2⟩ := X1.out.cells
  have hxl := X1.out.lt
  have hyl := Y1.out.lt
  cases qf : M.filB m s fs with
  | false =>
    have HV : Hid (M.laidV m s fs = mz0) := Lib.hid (M.laidV_no qf)
    have HQF := Lib.hid qf
    clear qf
    obtain ⟨k0, k1, k2⟩ := Y1.out.cells
    obtain ⟨f0, f1, f2⟩ := Y1.out.free
    obtain ⟨r0, r1, r2⟩ := (Y1.out.setAll (.int .i64 0) (.slice none 0 0) (.slice none 0 0)).cells
    go_wp2_with fail
    refine bodyPost_ret (v := .tuple #[.agg #[.int .i64 0, .slice none 0 0, .slice none 0 0], .bool false]) (by simp [results, Try.results16, go_sem, r0, r1, r2]) rfl ?_
    rw [HV.out, HQF.out]
    exact mzNo_endAt (r := w.heap.size + 1) HB1.out (by omega)
  | true =>
    have HV : Hid (M.laidV m s fs = M.layV m (M.colours s) fs) := Lib.hid (M.laidV_yes qf)
    obtain ⟨ha, hfn, hfl⟩ := M.fil_yes qf
    obtain ⟨V, hs0⟩ := M.ask_yes ha
    have hset := M.setB_iff.2 hs0
    have HVL := Lib.hid (M.layV_colours qf)
    have HKL := Lib.hid V.keysLen
    have v1 := V.size1
    have v12 := V.size12
    have HC6 := Lib.hid (fun x (hx : x ∈ M.colours s) => M.mem_colours hx)
    have HFN := Lib.hid hfn
    have hm6 := M.many_le s
    have hf6 : fs.length ≤ 6 := by omega
    have hcl : fs.length ≤ (M.colours s).length := by unfold M.manyC at hfl; omega
    have hcl6 : (M.colours s).length ≤ 1048576 := by unfold M.manyC at hm6; omega
    have HCL := Lib.hid hcl
    have HCS := Lib.hid (fun W => colours9_any s hset W)
    have HQF := Lib.hid qf
    clear qf ha V hfn hfl hcl
    go_wp2_with fail
    refine wp_region_late2 (fun (wq : World) => (wq.cell? ⟨w.heap.size, 0, none⟩ = some (.int .i64 m.size) ∧ wq.cell? ⟨w.heap.size, 1, none⟩ = some (.slice a m.doors.length c) ∧ wq.cell? ⟨w.heap.size, 2, none⟩ = some (.slice b m.keys.length d))) [] 7 #[false, false, false, false, false, false, false] rfl rfl (by kernel_rfl) ?_
    have hS : (fun (wq : World) => (wq.cell? ⟨w.heap.size, 0, none⟩ = some (.int .i64 m.size) ∧ wq.cell? ⟨w.heap.size, 1, none⟩ = some (.slice a m.doors.length c) ∧ wq.cell? ⟨w.heap.size, 2, none⟩ = some (.slice b m.keys.length d))) w1.drew := ⟨c0, c1, c2⟩
    refine wpAnyL_take (i := 0) (oi := { dst := some 14, op := Go.Op.load 27 (Go.Operand.tmp 3), type := 27, pos := "l9_filling.go:39", after := #[], guard := none }) (v := ?pv0) rfl (by kernel_rfl) (by kernel_rfl) (by kernel_rfl) (by kernel_rfl) (fun _ _ _ h => h) (Or.inl ⟨by rfl, ?ph0⟩) hS ?pr0
    case ph0 => (intro wS hSw; (try dsimp only at hSw); go_split_ands; go_simp; try with_reducible rfl)
    try simp only [Act.put, List.setIfInBounds_toArray, List.set_cons_zero, List.set_cons_succ]
    refine wpAnyL_take (i := 1) (oi := { dst := some 15, op := Go.Op.move (Go.Operand.tmp 1), type := 3, pos := "l9_filling.go:39", after := #[], guard := none }) (v := ?pv1) rfl (by kernel_rfl) (by kernel_rfl) (by kernel_rfl) (by kernel_rfl) (fun _ _ _ h => h) (Or.inl ⟨by rfl, ?ph1⟩) hS ?pr1
    case ph1 => (intro wS hSw; (try dsimp only at hSw); go_split_ands; go_simp; try with_reducible rfl)
    try simp only [Act.put, List.setIfInBounds_toArray, List.set_cons_zero, List.set_cons_succ]
    refine wpAnyL_take (i := 3) (oi := { dst := some 17, op := Go.Op.move (Go.Operand.tmp 2), type := 23, pos := "l9_filling.go:39", after := #[], guard := none }) (v := ?pv3) rfl (by kernel_rfl) (by kernel_rfl) (by kernel_rfl) (by kernel_rfl) (fun _ _ _ h => h) (Or.inl ⟨by rfl, ?ph3⟩) hS ?pr3
    case ph3 => (intro wS hSw; (try dsimp only at hSw); go_split_ands; go_simp; try with_reducible rfl)
    try simp only [Act.put, List.setIfInBounds_toArray, List.set_cons_zero, List.set_cons_succ]
    refine wpAnyL_one (i := 2) (oi := { dst := some 16, op := Go.Op.call { callee := Go.Callee.value (Go.Operand.func 55), args := #[Go.Operand.tmp 15], argTypes := #[3] }, type := 23, pos := "l9_filling.go:39", after := #[{ on := 1, ground := Go.Ground.data }], guard := none }) (by kernel_rfl) rfl (fun Kp2 hKp2 => ?_)
    refine step_call (by rfl) 55 #[.int .i64 s] (by go_simp; try rfl) (HCS.out _) ?_
    rintro e w2 ⟨qa, qc, rfl, hoc, hoc1, hoc2, hb2⟩
    refine ⟨_, rfl, ?_⟩
    have hb2x : Below w1.heap.size w1 w2 := (Below.refl w1.heap.size w1).drew.trans hb2
    have X2 := Lib.hid (X1.out.below hb2x)
    have Y2 := Lib.hid (Y1.out.below hb2x)
    have B2 := Lib.hid (HB1.out.trans (hb2x.mono (by omega)))
    have HOC := Lib.hid hoc
    have hz2 := hb2x.size
    have hx2 : (fun (wq : World) => (wq.cell? ⟨w.heap.size, 0, none⟩ = some (.int .i64 m.size) ∧ wq.cell? ⟨w.heap.size, 1, none⟩ = some (.slice a m.doors.length c) ∧ wq.cell? ⟨w.heap.size, 2, none⟩ = some (.slice b m.keys.length d))) w2 := X2.out.cells
    refine hKp2 _ _ (fun _ => hx2) ?_
    clear hS
    have hS := hx2
    try simp only [Act.put, List.setIfInBounds_toArray, List.set_cons_zero, List.set_cons_succ]
    refine wpAnyL_one (i := 4) (oi := { dst := some 18, op := Go.Op.call { callee := Go.Callee.value (Go.Operand.func 54), args := #[Go.Operand.tmp 14, Go.Operand.tmp 16, Go.Operand.tmp 17], argTypes := #[27, 23, 23] }, type := 27, pos := "l9_filling.go:39", after := #[{ on := 0, ground := Go.Ground.data }, { on := 2, ground := Go.Ground.data }, { on := 3, ground := Go.Ground.data }, { on := 2, ground := Go.Ground.chain }], guard := none }) (by kernel_rfl) rfl (fun Kp4 hKp4 => ?_)
    refine step_call (by rfl) 54 #[.agg #[.int .i64 m.size, .slice a m.doors.length c, .slice b m.keys.length d], .slice qa (M.colours s).length qc, .slice fa fs.length fc] (by go_simp; try rfl) (lay9_any w2 lo hi m a b c d (H.out.below B2.out hz) (by omega) _h1 _h2 HKL.out v12 _ _ qa qc (M.colours s) HOC.out.row (Nat.le_refl _) HC6.out hcl6 lo' hi' fa fc fs (HF.out.below B2.out hz') (by omega) (by omega) HCL.out HFN.out) ?_
    rintro e w3 ⟨ra, rc, rb, rd, rfl, ho3, hb3⟩
    refine ⟨_, rfl, ?_⟩
    have X3 := Lib.hid (X2.out.below hb3)
    have Y3 := Lib.hid (Y2.out.below hb3)
    have B3 := Lib.hid (B2.out.trans (hb3.mono (by omega)))
    have HO3 := Lib.hid ho3
    have hz3 := hb3.size
    have hx3 : (fun (wq : World) => (wq.cell? ⟨w.heap.size, 0, none⟩ = some (.int .i64 m.size) ∧ wq.cell? ⟨w.heap.size, 1, none⟩ = some (.slice a m.doors.length c) ∧ wq.cell? ⟨w.heap.size, 2, none⟩ = some (.slice b m.keys.length d))) w3 := X3.out.cells
    refine hKp4 _ _ (fun _ => hx3) ?_
    clear hS
    have hS := hx3
    try simp only [Act.put, List.setIfInBounds_toArray, List.set_cons_zero, List.set_cons_succ]
    refine wpAnyL_one (i := 5) (oi := { dst := none, op := Go.Op.store 27 (Go.Operand.tmp 6) (Go.Operand.tmp 18), type := 0, pos := "l9_filling.go:39", after := #[{ on := 4, ground := Go.Ground.data }, { on := 4, ground := Go.Ground.chain }, { on := 0, ground := Go.Ground.phase }, { on := 1, ground := Go.Ground.phase }, { on := 2, ground := Go.Ground.phase }, { on := 3, ground := Go.Ground.phase }, { on := 4, ground := Go.Ground.phase }], guard := none }) (by kernel_rfl) rfl (fun Kp5 hKp5 => ?_)
    obtain ⟨k0, k1, k2⟩ := Y3.out.cells
    obtain ⟨f0, f1, f2⟩ := Y3.out.free
    have hyl3 := Y3.out.lt
    go_simp
    have htt := Turned.set3 (w := w3) (w.heap.size + 1) (.int .i64 m.size) (.slice ra m.doors.length rc) (.slice rb m.keys.length rd)
    have X4 := Lib.hid (X3.out.turned htt (.inl (by omega)))
    refine hKp5 _ _ (fun _ => X4.out.cells) ?_
    clear hS
    have hS : (fun (wq : World) => (wq.cell? ⟨w.heap.size, 0, none⟩ = some (.int .i64 m.size) ∧ wq.cell? ⟨w.heap.size, 1, none⟩ = some (.slice a m.doors.length c) ∧ wq.cell? ⟨w.heap.size, 2, none⟩ = some (.slice b m.keys.length d))) _ := X4.out.cells
    try simp only [List.setIfInBounds_toArray, List.set_cons_zero, List.set_cons_succ]
    refine wpAnyL_take (i := 6) (oi := { dst := some 7, op := Go.Op.assign (Go.Operand.const (Go.Value.bool true)), type := 4, pos := "l9_filling.go:39", after := #[{ on := 5, ground := Go.Ground.chain }, { on := 0, ground := Go.Ground.phase }, { on := 1, ground := Go.Ground.phase }, { on := 2, ground := Go.Ground.phase }, { on := 3, ground := Go.Ground.phase }, { on := 4, ground := Go.Ground.phase }, { on := 5, ground := Go.Ground.phase }], guard := none }) (v := ?pv6) rfl (by kernel_rfl) (by kernel_rfl) (by kernel_rfl) (by kernel_rfl) (fun _ _ _ h => h) (Or.inl ⟨by rfl, ?ph6⟩) hS ?pr6
    case ph6 => (intro wS hSw; (try dsimp only at hSw); go_split_ands; go_simp; try with_reducible rfl)
    try simp only [Act.put, List.setIfInBounds_toArray, List.set_cons_zero, List.set_cons_succ]
    refine wpAnyL_done (by kernel_rfl) ?_ _
    obtain ⟨r0, r1, r2⟩ := (Y3.out.setAll (.int .i64 m.size) (.slice ra m.doors.length rc) (.slice rb m.keys.length rd)).cells
    go_wp2_with fail
    refine bodyPost_ret (v := .tuple #[.agg #[.int .i64 m.size, .slice ra m.doors.length rc, .slice rb m.keys.length rd], .bool true]) (by simp [results, Try.results16, go_sem, r0, r1, r2]) rfl ?_
    rw [HV.out, HQF.out]
    exact mzYes_endAt (m := M.layV m (M.colours s) fs) B3.out HO3.out (.inl (by omega)) (by omega) (by omega) (by omega) rfl (layV_keys _ _ _)
theorem nodeRounds_at {m : M.Mz} {s : Int} {k q : Nat} (h : q < (M.nodeRounds m s k).length) : (M.nodeRounds m s k)[q] = ((M.entTo m s k (q : Int) : Nat) : Int) := by simp [M.nodeRounds]
theorem entered9_any (w : World) (lo hi : Nat) (m : M.Mz) (cs fs : List Int) (V : M.Valid (M.layV m cs fs)) (a b : Option Addr) (c d : Nat) (h : MzIn lo hi w (M.layV m cs fs) a c b d) (hz : hi ≤ w.heap.size) (n : Nat) (hn : m.size.toNat = n) :
    Calls Try.prog 105 #[.agg #[.int .i64 m.size, .slice a m.doors.length c, .slice b m.keys.length d], .int .i64 0] w (fun e w' => ∃ a c, e = .returned (.slice a n c) ∧ OwnAt w.heap.size w'.heap.size w' 3 a (M.encIs (M.nodeRounds (M.layV m cs fs) 0 (M.lastK (M.layV m cs fs) 0 + 1))) ∧ n ≤ c ∧ c ≤ 9223372036854775807 ∧ Below w.heap.size w w') := by
  have h0 := entered_any w lo hi (M.layV m cs fs) a b c d h hz V 0 (by decide) (by decide)
  rw [layV_keys] at h0
  refine h0.mono ?_
  rintro e w' ⟨a, c, he, ho, h1, h2, hb⟩
  have hl : (M.nodeRounds (M.layV m cs fs) 0 (M.lastK (M.layV m cs fs) 0 + 1)).length = n := by rw [M.nodeRounds_len]; exact hn
  rw [hl] at he h1
  exact ⟨a, c, he, ho, h1, h2, hb⟩
theorem depth9_any (w : World) (lo hi : Nat) (m : M.Mz) (a b : Option Addr) (c d : Nat) (h : MzIn lo hi w m a c b d) (hz : hi ≤ w.heap.size) (_h1 : m.doors.length ≤ 1048576) (_h2 : m.keys.length ≤ 1048576) (s : Int) (lo' hi' : Nat) (fa : Option Addr) (fc : Nat) (fs : List Int) (hf : RowIn lo' hi' w fa (M.encIs fs)) (hz' : hi' ≤ w.heap.size) (hl : fs.length ≤ 1048576) (hg : M.filB m s fs = true) :
    Calls Try.prog 70 #[.agg #[.int .i64 m.size, .slice a m.doors.length c, .slice b m.keys.length d], .int .i64 s, .slice fa fs.length fc] w (fun e w' => e = .returned (.int .i64 (M.depR m s fs)) ∧ Below w.heap.size w w') := by
  have H := Lib.hid h
  have HF := Lib.hid hf
  clear h hf
  have qf := hg
  obtain ⟨ha, hfn, hfl⟩ := M.fil_yes qf
  obtain ⟨V, hs0⟩ := M.ask_yes ha
  have hset := M.setB_iff.2 hs0
  have HVL := Lib.hid (M.layV_colours qf)
  have HKL := Lib.hid V.keysLen
  have v1 := V.size1
  have v12 := V.size12
  have HC6 := Lib.hid (fun x (hx : x ∈ M.colours s) => M.mem_colours hx)
  have HFN := Lib.hid hfn
  have hm6 := M.many_le s
  have hf6 : fs.length ≤ 6 := by omega
  have hcl : fs.length ≤ (M.colours s).length := by unfold M.manyC at hfl; omega
  have hcl6 : (M.colours s).length ≤ 1048576 := by unfold M.manyC at hm6; omega
  have HCL := Lib.hid hcl
  have HCS := Lib.hid (fun W => colours9_any s hset W)
  obtain ⟨q, hq⟩ : ∃ q : Nat, m.size = (q : Int) + 1 := ⟨m.size.toNat - 1, by omega⟩
  have hw1 : IntKind.i64.wrap (m.size - 1) = (q : Int) := by rw [hq, Int.add_sub_cancel]; exact IntWalk.i64_in _ (by omega)
  obtain ⟨n, hn⟩ : ∃ n : Nat, n = q + 1 := ⟨_, rfl⟩
  have HNL : Hid ((M.nodeRounds (M.layV m (M.colours s) fs) 0 (M.lastK (M.layV m (M.colours s) fs) 0 + 1)).length = n) := Lib.hid (by rw [M.nodeRounds_len]; show m.size.toNat = n; omega)
  have HNV : Hid (∀ h, (M.nodeRounds (M.layV m (M.colours s) fs) 0 (M.lastK (M.layV m (M.colours s) fs) 0 + 1))[q]'h = M.depR m s fs) := Lib.hid (fun h => by
    rw [nodeRounds_at]
    unfold M.depR M.winR
    congr 2
    show (q : Int) = m.size - 1
    omega)
  have HN0 : Hid (m.size.toNat = n) := Lib.hid (by omega)
  have hqn : q < n := by omega
  have hqi : (q : Int) < (n : Int) := by omega
  have hn12 : n ≤ 12 := by omega
  clear qf hg ha V hfn hfl hcl hn hq
  go_enter Try.func70, Try.ntmps70
  go_wp2_with fail
  refine wp_named ?_
  intro W hW
  have hb : Below w.heap.size w W := by rw [hW]; exact below_alloc _ _
  have x1 : Box3 W w.heap.size 27 (.int .i64 m.size) (.slice a m.doors.length c) (.slice b m.keys.length d) := by rw [hW]; exact Box3.new _ _ _ _ rfl
  clear hW
  have hzw := hb.size
  have X1 := Lib.hid x1
  have HB1 := Lib.hid hb
  obtain ⟨c0, c1, c2⟩ := x1.cells
  have hxl := x1.lt
  clear x1 hb
  refine wp_region_late2 (fun (wq : World) => (wq.cell? ⟨w.heap.size, 0, none⟩ = some (.int .i64 m.size) ∧ wq.cell? ⟨w.heap.size, 1, none⟩ = some (.slice a m.doors.length c) ∧ wq.cell? ⟨w.heap.size, 2, none⟩ = some (.slice b m.keys.length d))) [] 12 #[false, false, false, false, false, false, false, false, false, false, false, false] rfl rfl (by kernel_rfl) ?_
  have hS : (fun (wq : World) => (wq.cell? ⟨w.heap.size, 0, none⟩ = some (.int .i64 m.size) ∧ wq.cell? ⟨w.heap.size, 1, none⟩ = some (.slice a m.doors.length c) ∧ wq.cell? ⟨w.heap.size, 2, none⟩ = some (.slice b m.keys.length d))) W.drew := ⟨c0, c1, c2⟩
  refine wpAnyL_take (i := 0) (oi := { dst := some 7, op := Go.Op.load 27 (Go.Operand.tmp 3), type := 27, pos := "l9_filling.go:51", after := #[], guard := none }) (v := ?pv0) rfl (by kernel_rfl) (by kernel_rfl) (by kernel_rfl) (by kernel_rfl) (fun _ _ _ h => h) (Or.inl ⟨by rfl, ?ph0⟩) hS ?pr0
  case ph0 => (intro wS hSw; (try dsimp only at hSw); go_split_ands; go_simp; try with_reducible rfl)
  try simp only [Act.put, List.setIfInBounds_toArray, List.set_cons_zero, List.set_cons_succ]
  refine wpAnyL_take (i := 1) (oi := { dst := some 8, op := Go.Op.move (Go.Operand.tmp 1), type := 3, pos := "l9_filling.go:51", after := #[], guard := none }) (v := ?pv1) rfl (by kernel_rfl) (by kernel_rfl) (by kernel_rfl) (by kernel_rfl) (fun _ _ _ h => h) (Or.inl ⟨by rfl, ?ph1⟩) hS ?pr1
  case ph1 => (intro wS hSw; (try dsimp only at hSw); go_split_ands; go_simp; try with_reducible rfl)
  try simp only [Act.put, List.setIfInBounds_toArray, List.set_cons_zero, List.set_cons_succ]
  refine wpAnyL_take (i := 3) (oi := { dst := some 10, op := Go.Op.move (Go.Operand.tmp 2), type := 23, pos := "l9_filling.go:51", after := #[], guard := none }) (v := ?pv3) rfl (by kernel_rfl) (by kernel_rfl) (by kernel_rfl) (by kernel_rfl) (fun _ _ _ h => h) (Or.inl ⟨by rfl, ?ph3⟩) hS ?pr3
  case ph3 => (intro wS hSw; (try dsimp only at hSw); go_split_ands; go_simp; try with_reducible rfl)
  try simp only [Act.put, List.setIfInBounds_toArray, List.set_cons_zero, List.set_cons_succ]
  refine wpAnyL_take (i := 6) (oi := { dst := some 13, op := Go.Op.fieldAddr 27 (Go.Operand.tmp 3) 0, type := 0, pos := "l9_filling.go:51", after := #[], guard := none }) (v := ?pv6) rfl (by kernel_rfl) (by kernel_rfl) (by kernel_rfl) (by kernel_rfl) (fun _ _ _ h => h) (Or.inl ⟨by rfl, ?ph6⟩) hS ?pr6
  case ph6 => (intro wS hSw; (try dsimp only at hSw); go_split_ands; go_simp; try with_reducible rfl)
  try simp only [Act.put, List.setIfInBounds_toArray, List.set_cons_zero, List.set_cons_succ]
  refine wpAnyL_take (i := 7) (oi := { dst := some 14, op := Go.Op.load 3 (Go.Operand.tmp 13), type := 3, pos := "l9_filling.go:51", after := #[{ on := 6, ground := Go.Ground.data }], guard := none }) (v := ?pv7) rfl (by kernel_rfl) (by kernel_rfl) (by kernel_rfl) (by kernel_rfl) (fun _ _ _ h => h) (Or.inl ⟨by rfl, ?ph7⟩) hS ?pr7
  case ph7 => (intro wS hSw; (try dsimp only at hSw); go_split_ands; go_simp; try with_reducible rfl)
  try simp only [Act.put, List.setIfInBounds_toArray, List.set_cons_zero, List.set_cons_succ]
  refine wpAnyL_take (i := 8) (oi := { dst := some 15, op := Go.Op.binOp Go.BinOp.sub 3 (Go.Operand.tmp 14) (Go.Operand.const (Go.Value.int Go.IntKind.i64 1)) 3, type := 3, pos := "l9_filling.go:51", after := #[{ on := 7, ground := Go.Ground.data }], guard := none }) (v := ?pv8) rfl (by kernel_rfl) (by kernel_rfl) (by kernel_rfl) (by kernel_rfl) (fun _ _ _ h => h) (Or.inl ⟨by rfl, ?ph8⟩) hS ?pr8
  case ph8 => (intro wS hSw; (try dsimp only at hSw); go_split_ands; go_simp; try with_reducible rfl)
  try simp only [Act.put, List.setIfInBounds_toArray, List.set_cons_zero, List.set_cons_succ]
  refine wpAnyL_one (i := 2) (oi := { dst := some 9, op := Go.Op.call { callee := Go.Callee.value (Go.Operand.func 55), args := #[Go.Operand.tmp 8], argTypes := #[3] }, type := 23, pos := "l9_filling.go:51", after := #[{ on := 1, ground := Go.Ground.data }], guard := none }) (by kernel_rfl) rfl (fun Kp2 hKp2 => ?_)
  refine step_call (by rfl) 55 #[.int .i64 s] (by go_simp; try rfl) (HCS.out _) ?_
  rintro e w2 ⟨qa, qc, rfl, hoc, hoc1, hoc2, hb2⟩
  refine ⟨_, rfl, ?_⟩
  have hb2x : Below W.heap.size W w2 := (Below.refl W.heap.size W).drew.trans hb2
  have X2 := Lib.hid (X1.out.below hb2x)
  have B2 := Lib.hid (HB1.out.trans (hb2x.mono (by omega)))
  have HOC := Lib.hid hoc
  have hz2 := hb2x.size
  have hx2 : (fun (wq : World) => (wq.cell? ⟨w.heap.size, 0, none⟩ = some (.int .i64 m.size) ∧ wq.cell? ⟨w.heap.size, 1, none⟩ = some (.slice a m.doors.length c) ∧ wq.cell? ⟨w.heap.size, 2, none⟩ = some (.slice b m.keys.length d))) w2 := X2.out.cells
  refine hKp2 _ _ (fun _ => hx2) ?_
  clear hS
  have hS := hx2
  try simp only [Act.put, List.setIfInBounds_toArray, List.set_cons_zero, List.set_cons_succ]
  refine wpAnyL_one (i := 4) (oi := { dst := some 11, op := Go.Op.call { callee := Go.Callee.value (Go.Operand.func 54), args := #[Go.Operand.tmp 7, Go.Operand.tmp 9, Go.Operand.tmp 10], argTypes := #[27, 23, 23] }, type := 27, pos := "l9_filling.go:51", after := #[{ on := 0, ground := Go.Ground.data }, { on := 2, ground := Go.Ground.data }, { on := 3, ground := Go.Ground.data }, { on := 2, ground := Go.Ground.chain }], guard := none }) (by kernel_rfl) rfl (fun Kp4 hKp4 => ?_)
  refine step_call (by rfl) 54 #[.agg #[.int .i64 m.size, .slice a m.doors.length c, .slice b m.keys.length d], .slice qa (M.colours s).length qc, .slice fa fs.length fc] (by go_simp; try rfl) (lay9_any w2 lo hi m a b c d (H.out.below B2.out hz) (by omega) _h1 _h2 HKL.out v12 _ _ qa qc (M.colours s) HOC.out.row (Nat.le_refl _) HC6.out hcl6 lo' hi' fa fc fs (HF.out.below B2.out hz') (by omega) (by omega) HCL.out HFN.out) ?_
  rintro e w3 ⟨ra, rc, rb, rd, rfl, ho3, hb3⟩
  refine ⟨_, rfl, ?_⟩
  have X3 := Lib.hid (X2.out.below hb3)
  have B3 := Lib.hid (B2.out.trans (hb3.mono (by omega)))
  have HO3 := Lib.hid ho3
  have hz3 := hb3.size
  have hx3 : (fun (wq : World) => (wq.cell? ⟨w.heap.size, 0, none⟩ = some (.int .i64 m.size) ∧ wq.cell? ⟨w.heap.size, 1, none⟩ = some (.slice a m.doors.length c) ∧ wq.cell? ⟨w.heap.size, 2, none⟩ = some (.slice b m.keys.length d))) w3 := X3.out.cells
  refine hKp4 _ _ (fun _ => hx3) ?_
  clear hS
  have hS := hx3
  try simp only [Act.put, List.setIfInBounds_toArray, List.set_cons_zero, List.set_cons_succ]
  refine wpAnyL_one (i := 5) (oi := { dst := some 12, op := Go.Op.call { callee := Go.Callee.value (Go.Operand.func 105), args := #[Go.Operand.tmp 11, Go.Operand.const (Go.Value.int Go.IntKind.i64 0)], argTypes := #[27, 3] }, type := 23, pos := "l9_filling.go:51", after := #[{ on := 4, ground := Go.Ground.data }, { on := 4, ground := Go.Ground.chain }], guard := none }) (by kernel_rfl) rfl (fun Kp5 hKp5 => ?_)
  refine step_call (by rfl) 105 #[.agg #[.int .i64 m.size, .slice ra m.doors.length rc, .slice rb m.keys.length rd], .int .i64 0] (by go_simp; try rfl) (entered9_any w3 _ _ m (M.colours s) fs HVL.out ra rb rc rd HO3.out.mz (Nat.le_refl _) n HN0.out) ?_
  rintro e w4 ⟨ea, ec, rfl, ho4, ho41, ho42, hb4⟩
  refine ⟨_, rfl, ?_⟩
  obtain ⟨eg, eo, rfl, _, _, he0⟩ := ho4.row.at_ (k := q) (by rw [M.encIs_len, HNL.out]; omega)
  have he1 := he0 q _ (M.encIs_at (by rw [HNL.out]; omega))
  rw [HNV.out] at he1
  have X4 := Lib.hid (X3.out.below hb4)
  have B4 := Lib.hid (B3.out.trans (hb4.mono (by omega)))
  clear he0 ho4
  have hx4 : (fun (wq : World) => (wq.cell? ⟨w.heap.size, 0, none⟩ = some (.int .i64 m.size) ∧ wq.cell? ⟨w.heap.size, 1, none⟩ = some (.slice a m.doors.length c) ∧ wq.cell? ⟨w.heap.size, 2, none⟩ = some (.slice b m.keys.length d))) w4 := X4.out.cells
  refine hKp5 _ _ (fun _ => hx4) ?_
  clear hS
  have hS := hx4
  try simp only [Act.put, List.setIfInBounds_toArray, List.set_cons_zero, List.set_cons_succ]
  refine wpAnyL_take (i := 9) (oi := { dst := some 16, op := Go.Op.indexAddr 23 (Go.Operand.tmp 12) (Go.Operand.tmp 15), type := 0, pos := "l9_filling.go:51", after := #[{ on := 5, ground := Go.Ground.data }, { on := 8, ground := Go.Ground.data }], guard := none }) (v := ?pv9) rfl (by kernel_rfl) (by kernel_rfl) (by kernel_rfl) (by kernel_rfl) (fun _ _ _ h => h) (Or.inl ⟨by rfl, ?ph9⟩) hS ?pr9
  case ph9 => (intro wS hSw; (try dsimp only at hSw); go_split_ands; go_simp; try with_reducible rfl)
  try simp only [Act.put, List.setIfInBounds_toArray, List.set_cons_zero, List.set_cons_succ]
  refine wpAnyL_one (i := 10) (oi := { dst := some 17, op := Go.Op.load 3 (Go.Operand.tmp 16), type := 3, pos := "l9_filling.go:51", after := #[{ on := 9, ground := Go.Ground.data }], guard := none }) (by kernel_rfl) rfl (fun Kp10 hKp10 => ?_)
  go_simp
  refine hKp10 _ _ (fun _ => hS) ?_
  try simp only [Act.put, List.setIfInBounds_toArray, List.set_cons_zero, List.set_cons_succ]
  refine wpAnyL_take (i := 11) (oi := { dst := some 6, op := Go.Op.assign (Go.Operand.tmp 17), type := 3, pos := "l9_filling.go:51", after := #[{ on := 10, ground := Go.Ground.data }, { on := 5, ground := Go.Ground.chain }, { on := 0, ground := Go.Ground.phase }, { on := 1, ground := Go.Ground.phase }, { on := 2, ground := Go.Ground.phase }, { on := 3, ground := Go.Ground.phase }, { on := 4, ground := Go.Ground.phase }, { on := 5, ground := Go.Ground.phase }, { on := 6, ground := Go.Ground.phase }, { on := 7, ground := Go.Ground.phase }, { on := 8, ground := Go.Ground.phase }, { on := 9, ground := Go.Ground.phase }, { on := 10, ground := Go.Ground.phase }], guard := none }) (v := ?pv11) rfl (by kernel_rfl) (by kernel_rfl) (by kernel_rfl) (by kernel_rfl) (fun _ _ _ h => h) (Or.inl ⟨by rfl, ?ph11⟩) hS ?pr11
  case ph11 => (intro wS hSw; (try dsimp only at hSw); go_split_ands; go_simp; try with_reducible rfl)
  try simp only [Act.put, List.setIfInBounds_toArray, List.set_cons_zero, List.set_cons_succ]
  refine wpAnyL_done (by kernel_rfl) ?_ _
  go_wp2_with fail
  go_ret
  exact ⟨rfl, B4.out⟩
end C
end Go.Proofs.Ytddpjjdncmokmaa
