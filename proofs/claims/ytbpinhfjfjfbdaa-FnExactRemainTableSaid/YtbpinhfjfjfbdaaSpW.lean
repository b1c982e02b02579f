/-
  CONTRACTS of the model's l4First, FewestWith, FewestSteps, StepsTable, StepsAndKeys; what lay in memory stays. No condition but that the maze reads so.
-/
import Derived.Test.YtbpinhfjfjfbdaaLeastSp
import Derived.Test.YtbpinhfjfjfbdaaSpecMaze
namespace Go.Proofs.Ytbpinhfjfjfbdaa
open Go.RowKit
namespace M
theorem or0_fin : ∀ s : Fin 64, bits .or .i64 0 (s.val : Int) = (s.val : Int) := by decide +kernel
theorem has0_fin : ∀ s : Fin 64, has2B (s.val : Int) 0 = true := by decide +kernel
theorem st0_eq {m : Mz} (V : Valid m) : st0 m = (0, keyAt m 0) := by
  obtain ⟨k0, k1⟩ := keyAt_set V 0
  have := or0_fin ⟨(keyAt m 0).toNat, by omega⟩
  simp only at this
  rw [show (((keyAt m 0).toNat : Nat) : Int) = keyAt m 0 by omega] at this
  unfold st0 stAt
  rw [this]
theorem has0 {s : Int} (h0 : 0 ≤ s) (h1 : s < 64) : has2B s 0 = true := by
  have := has0_fin ⟨s.toNat, by omega⟩
  simp only at this
  rwa [show ((s.toNat : Nat) : Int) = s by omega] at this
theorem leastB_node {m : Mz} {t : St} (h : StOk m t) (x : Int) : leastB x 0 6 t = nodeP x t := by
  unfold leastB nodeP
  rw [has0 h.2.2.1 h.2.2.2, decide_eq_true (many_le h.2.2.1 h.2.2.2).2, Bool.and_true, Bool.and_true]
theorem leastB_want {m : Mz} {t : St} (h : StOk m t) {set : Int} (h0 : 0 ≤ set) (h1 : set < 64) : leastB (m.size - 1) set 6 t = wantW m set t := by
  unfold leastB wantW
  rw [decide_eq_true (many_le h.2.2.1 h.2.2.2).2, Bool.and_true, has_same h.2.2.1 h.2.2.2 h0 h1]
theorem leastB_keys {m : Mz} {t : St} (h : StOk m t) (n : Int) : leastB (m.size - 1) 0 n t = keysP m n t := by
  unfold leastB keysP wonB
  rw [has0 h.2.2.1 h.2.2.2, Bool.true_and]
theorem way_same {m : Mz} (V : Valid m) {s : St} (hs : StOk m s) {p q : St → Bool} (h : ∀ t, StOk m t → p t = q t) : minO (fun t => p t = true) (dst (nexts m) [s]) = wayO m s q :=
  minO_congr fun t n => ⟨fun ⟨h1, h2⟩ => ⟨by rw [← h t (dst_ok V hs h2)]; exact h1, h2⟩, fun ⟨h1, h2⟩ => ⟨by rw [h t (dst_ok V hs h2)]; exact h1, h2⟩⟩
end M
namespace C
set_option maxHeartbeats 3200000
set_option maxRecDepth 20000
def TblPost (w : World) (m : M.Mz) (f : M.St → Option Nat) (e : Ending) (w' : World) : Prop :=
  ∃ a c, e = .returned (.slice a (M.size64 m) c) ∧ OwnAt w.heap.size w'.heap.size w' 3 a (M.encIs (M.tblL (M.size64 m) f)) ∧ Below w.heap.size w w'
theorem spreadT_any (w : World) (lo hi : Nat) (m : M.Mz) (a b : Option Addr) (c d : Nat) (h : MzIn lo hi w m a c b d) (hz : hi ≤ w.heap.size) (V : M.Valid m) (s : M.St) (hs : M.StOk m s) :
    Calls Try.prog 84 #[.agg #[.int .i64 m.size, .slice a m.doors.length c, .slice b m.keys.length d], .int .i64 s.1, .int .i64 s.2] w (TblPost w m (M.dst (M.nexts m) [s])) := by
  refine (l4Spread_any w lo hi m a b c d h hz V s hs).mono ?_
  rintro e w1 ⟨ra, rc, rfl, ho, _, _, hb⟩
  have hl : (M.spreadL m s).length = M.size64 m := M.tblL_len _ _
  exact ⟨ra, rc, by rw [hl], ho, hb⟩
theorem l4First_any (w : World) (lo hi : Nat) (m : M.Mz) (a b : Option Addr) (c d : Nat) (h : MzIn lo hi w m a c b d) (hz : hi ≤ w.heap.size) (V : M.Valid m) :
    Calls Try.prog 55 #[.agg #[.int .i64 m.size, .slice a m.doors.length c, .slice b m.keys.length d]] w (TblPost w m (M.dst (M.nexts m) [M.st0 m])) := by
  have H := Lib.hid h
  have HVA := Lib.hid V
  have v1 := V.size1
  have vk := V.keysLen
  have hk0 : 0 < m.keys.length := by omega
  obtain ⟨kb, koff, hkb, _, hkbl, hkc⟩ := h.keys.at_ (k := 0) (by rw [M.encIs_len]; exact hk0)
  subst hkb
  have kx0 : w.cell? ⟨kb, koff, none⟩ = some (.int .i64 (M.keyAt m 0)) := by
    have := hkc _ _ (M.encIs_at hk0)
    rw [← M.keyAt_eq hk0, Nat.add_zero] at this
    exact this
  have HS0 := Lib.hid (M.st0_eq V)
  have hd0 : 0 < d := by have := h.d1; omega
  have HSO := Lib.hid (M.st0_ok V)
  clear h V hkc vk
  go_enter Try.func55, Try.ntmps55
  go_upto_region 1 with fail
  refine wp_named ?_
  intro W hW
  have hb : Below w.heap.size w W := by rw [hW]; exact below_alloc _ _
  have x1 : Box3 W w.heap.size 29 (.int .i64 m.size) (.slice a m.doors.length c) (.slice (some ⟨kb, koff, none⟩) m.keys.length d) := by rw [hW]; exact Box3.new _ _ _ _ rfl
  have kx : W.cell? ⟨kb, koff, none⟩ = _ := (hb.cell (p := ⟨kb, koff, none⟩) (show kb < _ by omega)).trans kx0
  clear hW kx0
  have X1 := Lib.hid x1
  have HB := Lib.hid hb
  have hzw := hb.size
  have hst : M.st0 m = (0, M.keyAt m 0) := HS0.out
  have CS : Calls Try.prog 84 #[.agg #[.int .i64 m.size, .slice a m.doors.length c, .slice (some ⟨kb, koff, none⟩) m.keys.length d], .int .i64 0, .int .i64 (M.keyAt m 0)] W.drew (TblPost W.drew m (M.dst (M.nexts m) [M.st0 m])) := by
    have := spreadT_any W.drew lo hi m a (some ⟨kb, koff, none⟩) c d (H.out.below (Below.drawnN HB.out 1) hz) (by show hi ≤ W.heap.size; omega) HVA.out (M.st0 m) HSO.out
    rw [hst] at this ⊢
    exact this
  have CS1 := Lib.hid CS
  clear CS hst hb x1
  refine wp_region_late2 (fun (wq : World) => wq.cell? ⟨w.heap.size, 0, none⟩ = some (.int .i64 m.size) ∧ wq.cell? ⟨w.heap.size, 1, none⟩ = some (.slice a m.doors.length c) ∧ wq.cell? ⟨w.heap.size, 2, none⟩ = some (.slice (some ⟨kb, koff, none⟩) m.keys.length d) ∧ wq.cell? ⟨kb, koff, none⟩ = some (.int .i64 (M.keyAt m 0))) [] 7 #[false, false, false, false, false, false, false] rfl rfl (by kernel_rfl) ?_
  have hS : (fun (wq : World) => wq.cell? ⟨w.heap.size, 0, none⟩ = some (.int .i64 m.size) ∧ wq.cell? ⟨w.heap.size, 1, none⟩ = some (.slice a m.doors.length c) ∧ wq.cell? ⟨w.heap.size, 2, none⟩ = some (.slice (some ⟨kb, koff, none⟩) m.keys.length d) ∧ wq.cell? ⟨kb, koff, none⟩ = some (.int .i64 (M.keyAt m 0))) W.drew := ⟨X1.out.cells.1, X1.out.cells.2.1, X1.out.cells.2.2, kx⟩
  refine wpAnyL_take (i := 0) (oi := { dst := some 3, op := Go.Op.load 29 (Go.Operand.tmp 1), type := 29, pos := "l4_ways.go:40", after := #[], guard := none }) (v := ?fv0) rfl (by kernel_rfl) (by kernel_rfl) (by kernel_rfl) (by kernel_rfl) (fun _ _ _ h => h) (Or.inl ⟨by rfl, ?fh0⟩) hS ?fr0
  case fh0 => (intro wS hSw; (try dsimp only at hSw); go_split_ands; go_simp; try with_reducible rfl)
  try simp only [Act.put, List.setIfInBounds_toArray, List.set_cons_zero, List.set_cons_succ]
  refine wpAnyL_take (i := 1) (oi := { dst := some 4, op := Go.Op.fieldAddr 29 (Go.Operand.tmp 1) 2, type := 0, pos := "l4_ways.go:40", after := #[], guard := none }) (v := ?fv1) rfl (by kernel_rfl) (by kernel_rfl) (by kernel_rfl) (by kernel_rfl) (fun _ _ _ h => h) (Or.inl ⟨by rfl, ?fh1⟩) hS ?fr1
  case fh1 => (intro wS hSw; (try dsimp only at hSw); go_split_ands; go_simp; try with_reducible rfl)
  try simp only [Act.put, List.setIfInBounds_toArray, List.set_cons_zero, List.set_cons_succ]
  refine wpAnyL_take (i := 2) (oi := { dst := some 5, op := Go.Op.load 23 (Go.Operand.tmp 4), type := 23, pos := "l4_ways.go:40", after := #[{ on := 1, ground := Go.Ground.data }], guard := none }) (v := ?fv2) rfl (by kernel_rfl) (by kernel_rfl) (by kernel_rfl) (by kernel_rfl) (fun _ _ _ h => h) (Or.inl ⟨by rfl, ?fh2⟩) hS ?fr2
  case fh2 => (intro wS hSw; (try dsimp only at hSw); go_split_ands; go_simp; try with_reducible rfl)
  try simp only [Act.put, List.setIfInBounds_toArray, List.set_cons_zero, List.set_cons_succ]
  refine wpAnyL_take (i := 3) (oi := { dst := some 6, op := Go.Op.indexAddr 23 (Go.Operand.tmp 5) (Go.Operand.const (Go.Value.int Go.IntKind.i64 0)), type := 0, pos := "l4_ways.go:40", after := #[{ on := 2, ground := Go.Ground.data }], guard := none }) (v := ?fv3) rfl (by kernel_rfl) (by kernel_rfl) (by kernel_rfl) (by kernel_rfl) (fun _ _ _ h => h) (Or.inl ⟨by rfl, ?fh3⟩) hS ?fr3
  case fh3 => (intro wS hSw; (try dsimp only at hSw); go_split_ands; go_simp; try with_reducible rfl)
  try simp only [Act.put, List.setIfInBounds_toArray, List.set_cons_zero, List.set_cons_succ]
  refine wpAnyL_take (i := 4) (oi := { dst := some 7, op := Go.Op.load 3 (Go.Operand.tmp 6), type := 3, pos := "l4_ways.go:40", after := #[{ on := 3, ground := Go.Ground.data }], guard := none }) (v := ?fv4) rfl (by kernel_rfl) (by kernel_rfl) (by kernel_rfl) (by kernel_rfl) (fun _ _ _ h => h) (Or.inl ⟨by rfl, ?fh4⟩) hS ?fr4
  case fh4 => (intro wS hSw; (try dsimp only at hSw); go_split_ands; go_simp; try with_reducible rfl)
  try simp only [Act.put, List.setIfInBounds_toArray, List.set_cons_zero, List.set_cons_succ]
  refine wpAnyL_one (i := 5) (oi := { dst := some 8, op := Go.Op.call { callee := Go.Callee.value (Go.Operand.func 84), args := #[Go.Operand.tmp 3, Go.Operand.const (Go.Value.int Go.IntKind.i64 0), Go.Operand.tmp 7], argTypes := #[29, 3, 3] }, type := 23, pos := "l4_ways.go:40", after := #[{ on := 0, ground := Go.Ground.data }, { on := 4, ground := Go.Ground.data }], guard := none }) (by kernel_rfl) rfl (fun Kf5 hKf5 => ?_)
  refine step_call (by rfl) 84 #[.agg #[.int .i64 m.size, .slice a m.doors.length c, .slice (some ⟨kb, koff, none⟩) m.keys.length d], .int .i64 0, .int .i64 (M.keyAt m 0)] (by go_simp; try rfl) (CS1.out) ?_
  rintro e w5 ⟨ra, rc, rfl, ho5, hb5⟩
  refine ⟨_, rfl, ?_⟩
  have hb5x : Below W.heap.size W w5 := (Below.refl W.heap.size W).drew.trans hb5
  have X5 := Lib.hid (X1.out.below hb5x)
  have HB5 := Lib.hid (HB.out.trans (hb5x.mono hzw))
  have hSs : (fun (wq : World) => wq.cell? ⟨w.heap.size, 0, none⟩ = some (.int .i64 m.size) ∧ wq.cell? ⟨w.heap.size, 1, none⟩ = some (.slice a m.doors.length c) ∧ wq.cell? ⟨w.heap.size, 2, none⟩ = some (.slice (some ⟨kb, koff, none⟩) m.keys.length d) ∧ wq.cell? ⟨kb, koff, none⟩ = some (.int .i64 (M.keyAt m 0))) w5 := ⟨X5.out.cells.1, X5.out.cells.2.1, X5.out.cells.2.2, (hb5x.cell (p := ⟨kb, koff, none⟩) (by show kb < W.heap.size; omega)).trans kx⟩
  refine hKf5 _ _ (fun _ => hSs) ?_
  clear hS
  have hS := hSs
  try simp only [Act.put, List.setIfInBounds_toArray, List.set_cons_zero, List.set_cons_succ]
  refine wpAnyL_take (i := 6) (oi := { dst := some 2, op := Go.Op.assign (Go.Operand.tmp 8), type := 23, pos := "l4_ways.go:40", after := #[{ on := 5, ground := Go.Ground.data }, { on := 5, ground := Go.Ground.chain }, { on := 0, ground := Go.Ground.phase }, { on := 1, ground := Go.Ground.phase }, { on := 2, ground := Go.Ground.phase }, { on := 3, ground := Go.Ground.phase }, { on := 4, ground := Go.Ground.phase }, { on := 5, ground := Go.Ground.phase }], guard := none }) (v := ?fv6) rfl (by kernel_rfl) (by kernel_rfl) (by kernel_rfl) (by kernel_rfl) (fun _ _ _ h => h) (Or.inl ⟨by rfl, ?fh6⟩) hS ?fr6
  case fh6 => (intro wS hSw; (try dsimp only at hSw); go_split_ands; go_simp; try with_reducible rfl)
  try simp only [Act.put, List.setIfInBounds_toArray, List.set_cons_zero, List.set_cons_succ]
  refine wpAnyL_done (by kernel_rfl) ?_ _
  go_wp2_with fail
  go_ret
  exact ⟨ra, rc, rfl, ho5.mono hzw (Nat.le_refl _), HB5.out⟩
theorem specFewW_lw (w : World) (lo hi : Nat) (m : M.Mz) (a b : Option Addr) (c d : Nat) (h : MzIn lo hi w m a c b d) (hz : hi ≤ w.heap.size) (_h1 : m.doors.length ≤ 1048576) (_h2 : m.keys.length ≤ 1048576) (set : Int) (_s1 : -9223372036854775808 ≤ set) (_s2 : set ≤ 9223372036854775807) :
    Calls Try.prog 39 #[.agg #[.int .i64 m.size, .slice a m.doors.length c, .slice b m.keys.length d], .int .i64 set] w (OptPost w (M.fwO m set)) := by
  have H := Lib.hid h
  clear h
  go_enter Try.func39, Try.ntmps39
  go_upto_region 1 with fail
  refine wp_named ?_
  intro W hW
  have hb : Below w.heap.size w W := by rw [hW]; exact below_alloc _ _
  have x1 : Box3 W w.heap.size 29 (.int .i64 m.size) (.slice a m.doors.length c) (.slice b m.keys.length d) := by rw [hW]; exact Box3.new _ _ _ _ rfl
  clear hW
  have hzw := hb.size
  obtain ⟨c0, c1, c2⟩ := x1.cells
  have HIM := Lib.hid (specMaze_any W lo hi m a b c d (H.out.below hb hz) (by omega))
  go_wp2_with fail
  refine (HIM.out).mono ?_
  rintro e w1 ⟨rfl, hb1⟩
  have X1 := Lib.hid (x1.below hb1)
  have HB1 := Lib.hid (hb.trans (hb1.mono hzw))
  have hz1 := hb1.size
  clear hb hb1 x1 c0 c1 c2
  cases q0 : M.mazeB m with
  | false =>
    have HF : Hid (M.fwO m set = none) := Lib.hid (by unfold M.fwO; rw [q0]; rfl)
    clear q0
    go_wp2_with fail
    go_ret2
    rw [HF.out]
    exact ⟨rfl, HB1.out⟩
  | true =>
    have HVA := Lib.hid (M.valid_of q0)
    have HM := Lib.hid q0
    clear q0
    go_wp2_with fail
    refine (l2Set_any _ _).mono ?_
    rintro e w9 ⟨rfl, rfl⟩
    cases q1 : M.setB set with
    | false =>
      have HF : Hid (M.fwO m set = none) := Lib.hid (by unfold M.fwO; rw [HM.out, q1]; rfl)
      clear q1
      go_wp2_with fail
      go_ret2
      rw [HF.out]
      exact ⟨rfl, HB1.out⟩
    | true =>
      have hset : 0 ≤ set ∧ set < 64 := by unfold M.setB at q1; exact of_decide_eq_true q1
      have v1 := HVA.out.size1
      have v12 := HVA.out.size12
      have HF : Hid (M.fwO m set = M.minO (fun t => M.leastB (m.size - 1) set 6 t = true) (M.dst (M.nexts m) [M.st0 m])) := Lib.hid (by
        rw [M.way_same HVA.out (M.st0_ok HVA.out) (q := M.wantW m set) fun t ht => M.leastB_want ht hset.1 hset.2]
        unfold M.fwO
        rw [HM.out, q1]
        rfl)
      have hws : IntKind.i64.wrap (m.size - 1) = m.size - 1 := IntWalk.i64_in _ (by omega)
      clear q1
      go_wp2_with fail
      refine wp_region_late2 (fun (wq : World) => wq.cell? ⟨w.heap.size, 0, none⟩ = some (.int .i64 m.size) ∧ wq.cell? ⟨w.heap.size, 1, none⟩ = some (.slice a m.doors.length c) ∧ wq.cell? ⟨w.heap.size, 2, none⟩ = some (.slice b m.keys.length d)) [] 12 #[false, false, false, false, false, false, false, false, false, false, false, false] rfl rfl (by kernel_rfl) ?_
      have hS : (fun (wq : World) => wq.cell? ⟨w.heap.size, 0, none⟩ = some (.int .i64 m.size) ∧ wq.cell? ⟨w.heap.size, 1, none⟩ = some (.slice a m.doors.length c) ∧ wq.cell? ⟨w.heap.size, 2, none⟩ = some (.slice b m.keys.length d)) w1.drew := X1.out.cells
      refine wpAnyL_take (i := 0) (oi := { dst := some 14, op := Go.Op.load 29 (Go.Operand.tmp 2), type := 29, pos := "l4_ways.go:193", after := #[], guard := none }) (v := ?qv0) rfl (by kernel_rfl) (by kernel_rfl) (by kernel_rfl) (by kernel_rfl) (fun _ _ _ h => h) (Or.inl ⟨by rfl, ?qh0⟩) hS ?qr0
      case qh0 => (intro wS hSw; (try dsimp only at hSw); go_split_ands; go_simp; try with_reducible rfl)
      try simp only [Act.put, List.setIfInBounds_toArray, List.set_cons_zero, List.set_cons_succ]
      refine wpAnyL_take (i := 2) (oi := { dst := some 16, op := Go.Op.fieldAddr 29 (Go.Operand.tmp 2) 0, type := 0, pos := "l4_ways.go:193", after := #[], guard := none }) (v := ?qv2) rfl (by kernel_rfl) (by kernel_rfl) (by kernel_rfl) (by kernel_rfl) (fun _ _ _ h => h) (Or.inl ⟨by rfl, ?qh2⟩) hS ?qr2
      case qh2 => (intro wS hSw; (try dsimp only at hSw); go_split_ands; go_simp; try with_reducible rfl)
      try simp only [Act.put, List.setIfInBounds_toArray, List.set_cons_zero, List.set_cons_succ]
      refine wpAnyL_take (i := 3) (oi := { dst := some 17, op := Go.Op.load 3 (Go.Operand.tmp 16), type := 3, pos := "l4_ways.go:193", after := #[{ on := 2, ground := Go.Ground.data }], guard := none }) (v := ?qv3) rfl (by kernel_rfl) (by kernel_rfl) (by kernel_rfl) (by kernel_rfl) (fun _ _ _ h => h) (Or.inl ⟨by rfl, ?qh3⟩) hS ?qr3
      case qh3 => (intro wS hSw; (try dsimp only at hSw); go_split_ands; go_simp; try with_reducible rfl)
      try simp only [Act.put, List.setIfInBounds_toArray, List.set_cons_zero, List.set_cons_succ]
      refine wpAnyL_take (i := 4) (oi := { dst := some 18, op := Go.Op.binOp Go.BinOp.sub 3 (Go.Operand.tmp 17) (Go.Operand.const (Go.Value.int Go.IntKind.i64 1)) 3, type := 3, pos := "l4_ways.go:193", after := #[{ on := 3, ground := Go.Ground.data }], guard := none }) (v := ?qv4) rfl (by kernel_rfl) (by kernel_rfl) (by kernel_rfl) (by kernel_rfl) (fun _ _ _ h => h) (Or.inl ⟨by rfl, ?qh4⟩) hS ?qr4
      case qh4 => (intro wS hSw; (try dsimp only at hSw); go_split_ands; go_simp; try with_reducible rfl)
      try simp only [Act.put, List.setIfInBounds_toArray, List.set_cons_zero, List.set_cons_succ]
      refine wpAnyL_take (i := 5) (oi := { dst := some 19, op := Go.Op.move (Go.Operand.tmp 1), type := 3, pos := "l4_ways.go:193", after := #[], guard := none }) (v := ?qv5) rfl (by kernel_rfl) (by kernel_rfl) (by kernel_rfl) (by kernel_rfl) (fun _ _ _ h => h) (Or.inl ⟨by rfl, ?qh5⟩) hS ?qr5
      case qh5 => (intro wS hSw; (try dsimp only at hSw); go_split_ands; go_simp; try with_reducible rfl)
      try simp only [Act.put, List.setIfInBounds_toArray, List.set_cons_zero, List.set_cons_succ]
      refine wpAnyL_one (i := 1) (oi := { dst := some 15, op := Go.Op.call { callee := Go.Callee.value (Go.Operand.func 55), args := #[Go.Operand.tmp 14], argTypes := #[29] }, type := 23, pos := "l4_ways.go:193", after := #[{ on := 0, ground := Go.Ground.data }], guard := none }) (by kernel_rfl) rfl (fun Kq1 hKq1 => ?_)
      refine step_call (by rfl) 55 #[.agg #[.int .i64 m.size, .slice a m.doors.length c, .slice b m.keys.length d]] (by go_simp; try rfl) (l4First_any w1.drew lo hi m a b c d (H.out.below (Below.drawnN HB1.out 1) hz) (by have := HB1.out.size; show hi ≤ w1.heap.size; omega) HVA.out) ?_
      rintro e w2 ⟨ra, rc, rfl, ho2, hb2⟩
      refine ⟨_, rfl, ?_⟩
      have hb2x : Below w1.heap.size w1 w2 := (Below.refl w1.heap.size w1).drew.trans hb2
      have X2 := Lib.hid (X1.out.below hb2x)
      have HB6 := Lib.hid (HB1.out.trans (hb2x.mono HB1.out.size))
      refine hKq1 _ _ (fun _ => X2.out.cells) ?_
      clear hS
      have hS := X2.out.cells
      try simp only [Act.put, List.setIfInBounds_toArray, List.set_cons_zero, List.set_cons_succ]
      refine wpAnyL_one (i := 6) (oi := { dst := some 20, op := Go.Op.call { callee := Go.Callee.value (Go.Operand.func 54), args := #[Go.Operand.tmp 15, Go.Operand.tmp 18, Go.Operand.tmp 19, Go.Operand.const (Go.Value.int Go.IntKind.i64 6)], argTypes := #[23, 3, 3, 3] }, type := 3, pos := "l4_ways.go:193", after := #[{ on := 1, ground := Go.Ground.data }, { on := 4, ground := Go.Ground.data }, { on := 5, ground := Go.Ground.data }, { on := 1, ground := Go.Ground.chain }], guard := none }) (by kernel_rfl) rfl (fun Kq6 hKq6 => ?_)
      refine step_call (by rfl) 54 #[.slice ra (M.size64 m) rc, .int .i64 (m.size - 1), .int .i64 set, .int .i64 6] (by go_simp; try rfl) (l4Least_any w2 _ _ m HVA.out ra rc _ ho2.row (Nat.le_refl _) (m.size - 1) set 6 (by omega) (by omega) (fun t n => M.dst_ok HVA.out (M.st0_ok HVA.out))) ?_
      rintro e w3 ⟨rfl, rfl⟩
      refine ⟨_, rfl, ?_⟩
      have hS3 := hS
      refine hKq6 _ _ (fun _ => hS3) ?_
      clear hS
      have hS := hS3
      try simp only [Act.put, List.setIfInBounds_toArray, List.set_cons_zero, List.set_cons_succ]
      refine wpAnyL_one (i := 7) (oi := { dst := some 21, op := Go.Op.call { callee := Go.Callee.value (Go.Operand.func 53), args := #[Go.Operand.tmp 20], argTypes := #[3] }, type := 27, pos := "l4_ways.go:193", after := #[{ on := 6, ground := Go.Ground.data }, { on := 6, ground := Go.Ground.chain }], guard := none }) (by kernel_rfl) rfl (fun Kq7 hKq7 => ?_)
      refine step_call (by rfl) 53 #[.int .i64 (M.optI (M.minO (fun t => M.leastB (m.size - 1) set 6 t = true) (M.dst (M.nexts m) [M.st0 m])))] (by go_simp; try rfl) (l4Told_any _ w2) ?_
      rintro e w4 ⟨rfl, rfl⟩
      refine ⟨_, rfl, ?_⟩
      have hS4 := hS
      refine hKq7 _ _ (fun _ => hS4) ?_
      clear hS
      have hS := hS4
      try simp only [Act.put, List.setIfInBounds_toArray, List.set_cons_zero, List.set_cons_succ]
      refine wpAnyL_take (i := 8) (oi := { dst := some 22, op := Go.Op.extract (Go.Operand.tmp 21) 0, type := 3, pos := "l4_ways.go:193", after := #[{ on := 7, ground := Go.Ground.data }], guard := none }) (v := ?qv8) rfl (by kernel_rfl) (by kernel_rfl) (by kernel_rfl) (by kernel_rfl) (fun _ _ _ h => h) (Or.inl ⟨by rfl, ?qh8⟩) hS ?qr8
      case qh8 => (intro wS hSw; (try dsimp only at hSw); go_split_ands; go_simp; try with_reducible rfl)
      try simp only [Act.put, List.setIfInBounds_toArray, List.set_cons_zero, List.set_cons_succ]
      refine wpAnyL_take (i := 9) (oi := { dst := some 23, op := Go.Op.extract (Go.Operand.tmp 21) 1, type := 4, pos := "l4_ways.go:193", after := #[{ on := 7, ground := Go.Ground.data }], guard := none }) (v := ?qv9) rfl (by kernel_rfl) (by kernel_rfl) (by kernel_rfl) (by kernel_rfl) (fun _ _ _ h => h) (Or.inl ⟨by rfl, ?qh9⟩) hS ?qr9
      case qh9 => (intro wS hSw; (try dsimp only at hSw); go_split_ands; go_simp; try with_reducible rfl)
      try simp only [Act.put, List.setIfInBounds_toArray, List.set_cons_zero, List.set_cons_succ]
      refine wpAnyL_take (i := 10) (oi := { dst := some 4, op := Go.Op.assign (Go.Operand.tmp 22), type := 3, pos := "l4_ways.go:193", after := #[{ on := 8, ground := Go.Ground.data }, { on := 7, ground := Go.Ground.chain }, { on := 0, ground := Go.Ground.phase }, { on := 1, ground := Go.Ground.phase }, { on := 2, ground := Go.Ground.phase }, { on := 3, ground := Go.Ground.phase }, { on := 4, ground := Go.Ground.phase }, { on := 5, ground := Go.Ground.phase }, { on := 6, ground := Go.Ground.phase }, { on := 7, ground := Go.Ground.phase }, { on := 8, ground := Go.Ground.phase }, { on := 9, ground := Go.Ground.phase }], guard := none }) (v := ?qv10) rfl (by kernel_rfl) (by kernel_rfl) (by kernel_rfl) (by kernel_rfl) (fun _ _ _ h => h) (Or.inl ⟨by rfl, ?qh10⟩) hS ?qr10
      case qh10 => (intro wS hSw; (try dsimp only at hSw); go_split_ands; go_simp; try with_reducible rfl)
      try simp only [Act.put, List.setIfInBounds_toArray, List.set_cons_zero, List.set_cons_succ]
      refine wpAnyL_take (i := 11) (oi := { dst := some 5, op := Go.Op.assign (Go.Operand.tmp 23), type := 4, pos := "l4_ways.go:193", after := #[{ on := 9, ground := Go.Ground.data }, { on := 10, ground := Go.Ground.chain }, { on := 0, ground := Go.Ground.phase }, { on := 1, ground := Go.Ground.phase }, { on := 2, ground := Go.Ground.phase }, { on := 3, ground := Go.Ground.phase }, { on := 4, ground := Go.Ground.phase }, { on := 5, ground := Go.Ground.phase }, { on := 6, ground := Go.Ground.phase }, { on := 7, ground := Go.Ground.phase }, { on := 8, ground := Go.Ground.phase }, { on := 9, ground := Go.Ground.phase }, { on := 10, ground := Go.Ground.phase }], guard := none }) (v := ?qv11) rfl (by kernel_rfl) (by kernel_rfl) (by kernel_rfl) (by kernel_rfl) (fun _ _ _ h => h) (Or.inl ⟨by rfl, ?qh11⟩) hS ?qr11
      case qh11 => (intro wS hSw; (try dsimp only at hSw); go_split_ands; go_simp; try with_reducible rfl)
      try simp only [Act.put, List.setIfInBounds_toArray, List.set_cons_zero, List.set_cons_succ]
      refine wpAnyL_done (by kernel_rfl) ?_ _
      go_wp2_with fail
      go_ret2
      rw [HF.out]
      exact ⟨rfl, HB6.out⟩
theorem specFewS_lw (w : World) (lo hi : Nat) (m : M.Mz) (a b : Option Addr) (c d : Nat) (h : MzIn lo hi w m a c b d) (hz : hi ≤ w.heap.size) (_h1 : m.doors.length ≤ 1048576) (_h2 : m.keys.length ≤ 1048576) :
    Calls Try.prog 16 #[.agg #[.int .i64 m.size, .slice a m.doors.length c, .slice b m.keys.length d]] w (OptPost w (M.fwO m 0)) := by
  have H := Lib.hid h
  clear h
  go_enter Try.func16, Try.ntmps16
  go_upto_region 1 with fail
  refine wp_named ?_
  intro W hW
  have hb : Below w.heap.size w W := by rw [hW]; exact below_alloc _ _
  have x1 : Box3 W w.heap.size 29 (.int .i64 m.size) (.slice a m.doors.length c) (.slice b m.keys.length d) := by rw [hW]; exact Box3.new _ _ _ _ rfl
  clear hW
  have hzw := hb.size
  obtain ⟨c0, c1, c2⟩ := x1.cells
  have HIM := Lib.hid (specMaze_any W lo hi m a b c d (H.out.below hb hz) (by omega))
  go_wp2_with fail
  refine (HIM.out).mono ?_
  rintro e w1 ⟨rfl, hb1⟩
  have X1 := Lib.hid (x1.below hb1)
  have HB1 := Lib.hid (hb.trans (hb1.mono hzw))
  have hz1 := hb1.size
  clear hb hb1 x1 c0 c1 c2
  cases q0 : M.mazeB m with
  | false =>
    have HF : Hid (M.fwO m 0 = none) := Lib.hid (by unfold M.fwO; rw [q0]; rfl)
    clear q0
    go_wp2_with fail
    go_ret2
    rw [HF.out]
    exact ⟨rfl, HB1.out⟩
  | true =>
    have HVA := Lib.hid (M.valid_of q0)
    have HM := Lib.hid q0
    have v1 := HVA.out.size1
    have v12 := HVA.out.size12
    have HF : Hid (M.fwO m 0 = M.minO (fun t => M.leastB (m.size - 1) 0 6 t = true) (M.dst (M.nexts m) [M.st0 m])) := Lib.hid (by
      rw [M.way_same HVA.out (M.st0_ok HVA.out) (q := M.wantW m 0) fun t ht => M.leastB_want ht (by decide) (by decide)]
      unfold M.fwO
      rw [q0]
      rfl)
    have hws : IntKind.i64.wrap (m.size - 1) = m.size - 1 := IntWalk.i64_in _ (by omega)
    clear q0
    go_wp2_with fail
    refine wp_region_late2 (fun (wq : World) => wq.cell? ⟨w.heap.size, 0, none⟩ = some (.int .i64 m.size) ∧ wq.cell? ⟨w.heap.size, 1, none⟩ = some (.slice a m.doors.length c) ∧ wq.cell? ⟨w.heap.size, 2, none⟩ = some (.slice b m.keys.length d)) [] 11 #[false, false, false, false, false, false, false, false, false, false, false] rfl rfl (by kernel_rfl) ?_
    have hS : (fun (wq : World) => wq.cell? ⟨w.heap.size, 0, none⟩ = some (.int .i64 m.size) ∧ wq.cell? ⟨w.heap.size, 1, none⟩ = some (.slice a m.doors.length c) ∧ wq.cell? ⟨w.heap.size, 2, none⟩ = some (.slice b m.keys.length d)) w1.drew := X1.out.cells
    refine wpAnyL_take (i := 0) (oi := { dst := some 7, op := Go.Op.load 29 (Go.Operand.tmp 1), type := 29, pos := "l4_ways.go:60", after := #[], guard := none }) (v := ?qv0) rfl (by kernel_rfl) (by kernel_rfl) (by kernel_rfl) (by kernel_rfl) (fun _ _ _ h => h) (Or.inl ⟨by rfl, ?qh0⟩) hS ?qr0
    case qh0 => (intro wS hSw; (try dsimp only at hSw); go_split_ands; go_simp; try with_reducible rfl)
    try simp only [Act.put, List.setIfInBounds_toArray, List.set_cons_zero, List.set_cons_succ]
    refine wpAnyL_take (i := 2) (oi := { dst := some 9, op := Go.Op.fieldAddr 29 (Go.Operand.tmp 1) 0, type := 0, pos := "l4_ways.go:60", after := #[], guard := none }) (v := ?qv2) rfl (by kernel_rfl) (by kernel_rfl) (by kernel_rfl) (by kernel_rfl) (fun _ _ _ h => h) (Or.inl ⟨by rfl, ?qh2⟩) hS ?qr2
    case qh2 => (intro wS hSw; (try dsimp only at hSw); go_split_ands; go_simp; try with_reducible rfl)
    try simp only [Act.put, List.setIfInBounds_toArray, List.set_cons_zero, List.set_cons_succ]
    refine wpAnyL_take (i := 3) (oi := { dst := some 10, op := Go.Op.load 3 (Go.Operand.tmp 9), type := 3, pos := "l4_ways.go:60", after := #[{ on := 2, ground := Go.Ground.data }], guard := none }) (v := ?qv3) rfl (by kernel_rfl) (by kernel_rfl) (by kernel_rfl) (by kernel_rfl) (fun _ _ _ h => h) (Or.inl ⟨by rfl, ?qh3⟩) hS ?qr3
    case qh3 => (intro wS hSw; (try dsimp only at hSw); go_split_ands; go_simp; try with_reducible rfl)
    try simp only [Act.put, List.setIfInBounds_toArray, List.set_cons_zero, List.set_cons_succ]
    refine wpAnyL_take (i := 4) (oi := { dst := some 11, op := Go.Op.binOp Go.BinOp.sub 3 (Go.Operand.tmp 10) (Go.Operand.const (Go.Value.int Go.IntKind.i64 1)) 3, type := 3, pos := "l4_ways.go:60", after := #[{ on := 3, ground := Go.Ground.data }], guard := none }) (v := ?qv4) rfl (by kernel_rfl) (by kernel_rfl) (by kernel_rfl) (by kernel_rfl) (fun _ _ _ h => h) (Or.inl ⟨by rfl, ?qh4⟩) hS ?qr4
    case qh4 => (intro wS hSw; (try dsimp only at hSw); go_split_ands; go_simp; try with_reducible rfl)
    try simp only [Act.put, List.setIfInBounds_toArray, List.set_cons_zero, List.set_cons_succ]
    refine wpAnyL_one (i := 1) (oi := { dst := some 8, op := Go.Op.call { callee := Go.Callee.value (Go.Operand.func 55), args := #[Go.Operand.tmp 7], argTypes := #[29] }, type := 23, pos := "l4_ways.go:60", after := #[{ on := 0, ground := Go.Ground.data }], guard := none }) (by kernel_rfl) rfl (fun Kq1 hKq1 => ?_)
    refine step_call (by rfl) 55 #[.agg #[.int .i64 m.size, .slice a m.doors.length c, .slice b m.keys.length d]] (by go_simp; try rfl) (l4First_any w1.drew lo hi m a b c d (H.out.below (Below.drawnN HB1.out 1) hz) (by have := HB1.out.size; show hi ≤ w1.heap.size; omega) HVA.out) ?_
    rintro e w2 ⟨ra, rc, rfl, ho2, hb2⟩
    refine ⟨_, rfl, ?_⟩
    have hb2x : Below w1.heap.size w1 w2 := (Below.refl w1.heap.size w1).drew.trans hb2
    have X2 := Lib.hid (X1.out.below hb2x)
    have HB6 := Lib.hid (HB1.out.trans (hb2x.mono HB1.out.size))
    refine hKq1 _ _ (fun _ => X2.out.cells) ?_
    clear hS
    have hS := X2.out.cells
    try simp only [Act.put, List.setIfInBounds_toArray, List.set_cons_zero, List.set_cons_succ]
    refine wpAnyL_one (i := 5) (oi := { dst := some 12, op := Go.Op.call { callee := Go.Callee.value (Go.Operand.func 54), args := #[Go.Operand.tmp 8, Go.Operand.tmp 11, Go.Operand.const (Go.Value.int Go.IntKind.i64 0), Go.Operand.const (Go.Value.int Go.IntKind.i64 6)], argTypes := #[23, 3, 3, 3] }, type := 3, pos := "l4_ways.go:60", after := #[{ on := 1, ground := Go.Ground.data }, { on := 4, ground := Go.Ground.data }, { on := 1, ground := Go.Ground.chain }], guard := none }) (by kernel_rfl) rfl (fun Kq5 hKq5 => ?_)
    refine step_call (by rfl) 54 #[.slice ra (M.size64 m) rc, .int .i64 (m.size - 1), .int .i64 0, .int .i64 6] (by go_simp; try rfl) (l4Least_any w2 _ _ m HVA.out ra rc _ ho2.row (Nat.le_refl _) (m.size - 1) 0 6 (by omega) (by omega) (fun t n => M.dst_ok HVA.out (M.st0_ok HVA.out))) ?_
    rintro e w3 ⟨rfl, rfl⟩
    refine ⟨_, rfl, ?_⟩
    have hS3 := hS
    refine hKq5 _ _ (fun _ => hS3) ?_
    clear hS
    have hS := hS3
    try simp only [Act.put, List.setIfInBounds_toArray, List.set_cons_zero, List.set_cons_succ]
    refine wpAnyL_one (i := 6) (oi := { dst := some 13, op := Go.Op.call { callee := Go.Callee.value (Go.Operand.func 53), args := #[Go.Operand.tmp 12], argTypes := #[3] }, type := 27, pos := "l4_ways.go:60", after := #[{ on := 5, ground := Go.Ground.data }, { on := 5, ground := Go.Ground.chain }], guard := none }) (by kernel_rfl) rfl (fun Kq6 hKq6 => ?_)
    refine step_call (by rfl) 53 #[.int .i64 (M.optI (M.minO (fun t => M.leastB (m.size - 1) 0 6 t = true) (M.dst (M.nexts m) [M.st0 m])))] (by go_simp; try rfl) (l4Told_any _ w2) ?_
    rintro e w4 ⟨rfl, rfl⟩
    refine ⟨_, rfl, ?_⟩
    have hS4 := hS
    refine hKq6 _ _ (fun _ => hS4) ?_
    clear hS
    have hS := hS4
    try simp only [Act.put, List.setIfInBounds_toArray, List.set_cons_zero, List.set_cons_succ]
    refine wpAnyL_take (i := 7) (oi := { dst := some 14, op := Go.Op.extract (Go.Operand.tmp 13) 0, type := 3, pos := "l4_ways.go:60", after := #[{ on := 6, ground := Go.Ground.data }], guard := none }) (v := ?qv7) rfl (by kernel_rfl) (by kernel_rfl) (by kernel_rfl) (by kernel_rfl) (fun _ _ _ h => h) (Or.inl ⟨by rfl, ?qh7⟩) hS ?qr7
    case qh7 => (intro wS hSw; (try dsimp only at hSw); go_split_ands; go_simp; try with_reducible rfl)
    try simp only [Act.put, List.setIfInBounds_toArray, List.set_cons_zero, List.set_cons_succ]
    refine wpAnyL_take (i := 8) (oi := { dst := some 15, op := Go.Op.extract (Go.Operand.tmp 13) 1, type := 4, pos := "l4_ways.go:60", after := #[{ on := 6, ground := Go.Ground.data }], guard := none }) (v := ?qv8) rfl (by kernel_rfl) (by kernel_rfl) (by kernel_rfl) (by kernel_rfl) (fun _ _ _ h => h) (Or.inl ⟨by rfl, ?qh8⟩) hS ?qr8
    case qh8 => (intro wS hSw; (try dsimp only at hSw); go_split_ands; go_simp; try with_reducible rfl)
    try simp only [Act.put, List.setIfInBounds_toArray, List.set_cons_zero, List.set_cons_succ]
    refine wpAnyL_take (i := 9) (oi := { dst := some 2, op := Go.Op.assign (Go.Operand.tmp 14), type := 3, pos := "l4_ways.go:60", after := #[{ on := 7, ground := Go.Ground.data }, { on := 6, ground := Go.Ground.chain }, { on := 0, ground := Go.Ground.phase }, { on := 1, ground := Go.Ground.phase }, { on := 2, ground := Go.Ground.phase }, { on := 3, ground := Go.Ground.phase }, { on := 4, ground := Go.Ground.phase }, { on := 5, ground := Go.Ground.phase }, { on := 6, ground := Go.Ground.phase }, { on := 7, ground := Go.Ground.phase }, { on := 8, ground := Go.Ground.phase }], guard := none }) (v := ?qv9) rfl (by kernel_rfl) (by kernel_rfl) (by kernel_rfl) (by kernel_rfl) (fun _ _ _ h => h) (Or.inl ⟨by rfl, ?qh9⟩) hS ?qr9
    case qh9 => (intro wS hSw; (try dsimp only at hSw); go_split_ands; go_simp; try with_reducible rfl)
    try simp only [Act.put, List.setIfInBounds_toArray, List.set_cons_zero, List.set_cons_succ]
    refine wpAnyL_take (i := 10) (oi := { dst := some 3, op := Go.Op.assign (Go.Operand.tmp 15), type := 4, pos := "l4_ways.go:60", after := #[{ on := 8, ground := Go.Ground.data }, { on := 9, ground := Go.Ground.chain }, { on := 0, ground := Go.Ground.phase }, { on := 1, ground := Go.Ground.phase }, { on := 2, ground := Go.Ground.phase }, { on := 3, ground := Go.Ground.phase }, { on := 4, ground := Go.Ground.phase }, { on := 5, ground := Go.Ground.phase }, { on := 6, ground := Go.Ground.phase }, { on := 7, ground := Go.Ground.phase }, { on := 8, ground := Go.Ground.phase }, { on := 9, ground := Go.Ground.phase }], guard := none }) (v := ?qv10) rfl (by kernel_rfl) (by kernel_rfl) (by kernel_rfl) (by kernel_rfl) (fun _ _ _ h => h) (Or.inl ⟨by rfl, ?qh10⟩) hS ?qr10
    case qh10 => (intro wS hSw; (try dsimp only at hSw); go_split_ands; go_simp; try with_reducible rfl)
    try simp only [Act.put, List.setIfInBounds_toArray, List.set_cons_zero, List.set_cons_succ]
    refine wpAnyL_done (by kernel_rfl) ?_ _
    go_wp2_with fail
    go_ret2
    rw [HF.out]
    exact ⟨rfl, HB6.out⟩
end C
end Go.Proofs.Ytbpinhfjfjfbdaa
