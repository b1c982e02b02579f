/-
  CONTRACT of impl.Maze.playRound: the nodes that are entered with the colours at hand, and the colours behind; what lay in memory stays. Condition: a valid maze, a set of colours.
-/
import Derived.Test.YtoiapfdlbkncaaaBox2
import Derived.Test.YtoiapfdlbkncaaaSpreadI
import Derived.Test.YtoiapfdlbkncaaaLate
import Derived.Test.YtoiapfdlbkncaaaStep
import Derived.Test.YtoiapfdlbkncaaaGainMath
import Derived.Deep.RegionHeld3
import Derived.Deep.RegionWith
import Derived.Deep.DeepCutAuto
namespace Go.Proofs.Ytoiapfdlbkncaaa
open Go.RowKit
namespace M
/-- the number that spread returns tells the nodes -/
theorem reach_mk {m : Mz} (V : Valid m) {s : Int} {n : Nat} (h : MaskOk m.doors (openTo s) 0 n) (hp : passN (openTo s) n m.doors = n) : n = mk (reachOf m 0 s) := by
  have := reach_mask (x := 0) V (by have := V.size1; omega) h hp
  have hr : digsTo n 12 = reachOf m 0 s := this
  rw [← hr, mk_digs h.2.1]
theorem digs_mk {m : Mz} (V : Valid m) (s : Int) : digsTo (mk (reachOf m 0 s)) 12 = reachOf m 0 s := by
  refine (digsTo_asc _ 12).ext ordI (rchL_asc _ _ _) fun y => ?_
  rw [mem_digsTo]
  constructor
  · rintro ⟨p, rfl, _, hp⟩
    exact (digB_mk (fun _ hx => (reach_node V hx).1) p).1 hp
  · intro hy
    have hn := reach_node V hy
    have := V.size12
    have ey : ((y.toNat : Nat) : Int) = y := by omega
    exact ⟨y.toNat, by omega, by omega, (digB_mk (fun _ hx => (reach_node V hx).1) y.toNat).2 (by rw [ey]; exact hy)⟩
theorem orN (a b : Nat) (ha : a < 64) (hb : b < 64) : bits .or .i64 (a : Int) (b : Int) = ((a ||| b : Nat) : Int) := or_nat ha hb
theorem orS_assoc {s t u : Int} (hs : 0 ≤ s ∧ s < 64) (ht : 0 ≤ t ∧ t < 64) (hu : 0 ≤ u ∧ u < 64) : bits .or .i64 (bits .or .i64 s t) u = bits .or .i64 s (bits .or .i64 t u) := by
  obtain ⟨a, rfl⟩ : ∃ a : Nat, s = a := ⟨s.toNat, by omega⟩
  obtain ⟨b, rfl⟩ : ∃ b : Nat, t = b := ⟨t.toNat, by omega⟩
  obtain ⟨c, rfl⟩ : ∃ c : Nat, u = c := ⟨u.toNat, by omega⟩
  have h1 := or_set hs.1 hs.2 ht.1 ht.2
  have h2 := or_set ht.1 ht.2 hu.1 hu.2
  rw [orN a b (by omega) (by omega)] at h1 ⊢
  rw [orN b c (by omega) (by omega)] at h2 ⊢
  rw [orN _ c (by omega) (by omega), orN a _ (by omega) (by omega), Nat.or_assoc]
theorem orS_zero {t : Int} (ht : 0 ≤ t ∧ t < 64) : bits .or .i64 0 t = t ∧ bits .or .i64 t 0 = t := by
  obtain ⟨b, rfl⟩ : ∃ b : Nat, t = b := ⟨t.toNat, by omega⟩
  have h1 := orN 0 b (by decide) (by omega)
  have h2 := orN b 0 (by omega) (by decide)
  rw [Nat.zero_or] at h1
  rw [Nat.or_zero] at h2
  exact ⟨h1, h2⟩
/-- gathered apart and put together -/
theorem gath_apart {m : Mz} (V : Valid m) : ∀ (l : List Int) (s : Int), 0 ≤ s ∧ s < 64 → gath m l s = bits .or .i64 s (gath m l 0)
  | [], s, h => (orS_zero h).2.symm
  | x :: l, s, h => by
    have hk := key_set V x.toNat
    have ho := or_set h.1 h.2 hk.1 hk.2
    have hg := (gath_set V l 0 ⟨by decide, by decide⟩).1
    show gath m l (bits .or .i64 s (m.keys.getD x.toNat 0)) = bits .or .i64 s (gath m l (bits .or .i64 0 (m.keys.getD x.toNat 0)))
    rw [(orS_zero hk).1, gath_apart V l _ ho, gath_apart V l _ hk, orS_assoc h hk hg]
theorem next_apart {m : Mz} (V : Valid m) {s : Int} (h : 0 ≤ s ∧ s < 64) : nextC m s = bits .or .i64 s (keysN m (mk (reachOf m 0 s))) := by
  unfold nextC keysN
  rw [digs_mk V, gath_apart V _ s h]
end M
namespace C
set_option maxHeartbeats 3200000
set_option maxRecDepth 20000
theorem playRound_any (w : World) (lo hi : Nat) (m : M.Mz) (a b : Option Addr) (c d : Nat) (h : MzIn lo hi w m a c b d) (hz : hi ≤ w.heap.size) (V : M.Valid m) (n0 s : Int) (hs : 0 ≤ s ∧ s < 64) :
    Calls Try.prog 112 #[.agg #[.int .i64 m.size, .slice a m.doors.length c, .slice b m.keys.length d], .agg #[.int .i64 n0, .int .i64 s]] w fun e w' => e = .returned (.agg #[.int .i64 (M.mk (M.reachOf m 0 s) : Nat), .int .i64 (M.nextC m s)]) ∧ Below w.heap.size w w' := by
  have H := Lib.hid h
  have HVA := Lib.hid V
  have v12 := V.size12
  have v1 := V.size1
  have HNX := Lib.hid (M.next_apart V hs)
  have hn4 := M.mk_lt (l := M.reachOf m 0 s) (fun x hx => by have := M.reach_node V hx; omega)
  have HNK := Lib.hid (show ∀ p, M.digB (M.mk (M.reachOf m 0 s)) p = true → (p : Int) < m.size from fun p hp => (M.reach_node V ((M.digB_mk (fun _ hx => (M.reach_node V hx).1) p).1 hp)).2)
  have HRM := Lib.hid (fun n h1 h2 => M.reach_mk (s := s) (n := n) V h1 h2)
  have hst : M.MaskOk m.doors (M.openTo s) 0 1 := M.MaskOk.start (x := 0) (by decide)
  clear h V
  go_enter Try.func112, Try.ntmps112
  go_upto_region 1 with fail
  refine wp_named ?_
  intro W hW
  have HB := Lib.hid (show Below w.heap.size w W by rw [hW]; exact ((below_alloc _ _).alloc (by simp) _).alloc (by simp; omega) _)
  have X1 := Lib.hid (show Box3 W w.heap.size 29 (.int .i64 m.size) (.slice a m.doors.length c) (.slice b m.keys.length d) by rw [hW]; exact ((Box3.new _ _ _ _ rfl).alloc _).alloc _)
  have Y1 := Lib.hid (show Box2 W (w.heap.size + 1) 65 (.int .i64 n0) (.int .i64 s) by rw [hW]; exact (Box2.new _ _ _ (by simp)).alloc _)
  have Z1 := Lib.hid (show Box2 W (w.heap.size + 1 + 1) 65 (.int .i64 0) (.int .i64 0) by rw [hW]; exact Box2.new _ _ _ (by simp))
  clear hW
  have hzw := HB.out.size
  have hzl := Z1.out.lt
  obtain ⟨d0, d1, d2⟩ := X1.out.cells
  obtain ⟨d3, d4⟩ := Y1.out.cells
  go_upto_region 2 with (go_at_call 68; refine (spread_any W lo hi m a b c d (H.out.below HB.out hz) (by omega) HVA.out 1 s (M.MaskOk m.doors (M.openTo s) 0) hst (fun n e he hn => by
    obtain ⟨j, hj, rfl⟩ := List.mem_iff_getElem.1 he
    obtain ⟨p1, p2, p3, p4, _⟩ := HVA.out.door j hj
    exact hn.step (List.getElem_mem hj) p1 (by omega) p3 (by omega)) (fun n hn => hn.2.1)).mono ?_; rintro e w5 ⟨n, rfl, hmk, hps, hb5⟩)
  have hn := HRM.out n hmk hps
  subst hn
  have X5 := Lib.hid (X1.out.below hb5)
  have Y5 := Lib.hid (Y1.out.below hb5)
  have Z5 := Lib.hid (Z1.out.below hb5)
  have B5 := Lib.hid (HB.out.trans (hb5.mono hzw))
  have hz5 := hb5.size
  clear hb5 hmk hps d0 d1 d2 d3 d4 hst
  generalize hnn : M.mk (M.reachOf m 0 s) = nn at *
  have hnx := HNX.out
  have HNN := Lib.hid hnn
  clear hnn
  have hnx' : bits .or .i64 s (M.keysN m nn) = M.nextC m s := hnx.symm
  clear hnx
  refine wp_region_late2 (fun (wq : World) => wq.cell? ⟨w.heap.size, 0, none⟩ = some (.int .i64 m.size) ∧ wq.cell? ⟨w.heap.size, 1, none⟩ = some (.slice a m.doors.length c) ∧ wq.cell? ⟨w.heap.size, 2, none⟩ = some (.slice b m.keys.length d) ∧ wq.cell? ⟨w.heap.size + 1, 1, none⟩ = some (.int .i64 s)) [] 9 #[false, false, false, false, false, false, false, false, false] rfl rfl (by kernel_rfl) ?_
  have hS : (fun (wq : World) => wq.cell? ⟨w.heap.size, 0, none⟩ = some (.int .i64 m.size) ∧ wq.cell? ⟨w.heap.size, 1, none⟩ = some (.slice a m.doors.length c) ∧ wq.cell? ⟨w.heap.size, 2, none⟩ = some (.slice b m.keys.length d) ∧ wq.cell? ⟨w.heap.size + 1, 1, none⟩ = some (.int .i64 s)) w5.drew := (by obtain ⟨d0, d1, d2⟩ := X5.out.cells; obtain ⟨_, d4⟩ := Y5.out.cells; exact ⟨d0, d1, d2, d4⟩)
  refine wpAnyL_take (i := 0) (oi := { dst := some 10, op := Go.Op.move (Go.Operand.tmp 5), type := 3, pos := "l3_reaching.go:16", after := #[], guard := none }) (v := ?pv0) rfl (by kernel_rfl) (by kernel_rfl) (by kernel_rfl) (by kernel_rfl) (fun _ _ _ h => h) (Or.inl ⟨by rfl, ?ph0⟩) hS ?pr0
  case ph0 => (intro wS hSw; (try dsimp only at hSw); go_split_ands; go_simp; try with_reducible rfl)
  try simp only [Act.put, List.setIfInBounds_toArray, List.set_cons_zero, List.set_cons_succ]
  refine wpAnyL_take (i := 1) (oi := { dst := some 11, op := Go.Op.fieldAddr 65 (Go.Operand.tmp 3) 1, type := 0, pos := "l3_reaching.go:16", after := #[], guard := none }) (v := ?pv1) rfl (by kernel_rfl) (by kernel_rfl) (by kernel_rfl) (by kernel_rfl) (fun _ _ _ h => h) (Or.inl ⟨by rfl, ?ph1⟩) hS ?pr1
  case ph1 => (intro wS hSw; (try dsimp only at hSw); go_split_ands; go_simp; try with_reducible rfl)
  try simp only [Act.put, List.setIfInBounds_toArray, List.set_cons_zero, List.set_cons_succ]
  refine wpAnyL_take (i := 2) (oi := { dst := some 12, op := Go.Op.load 3 (Go.Operand.tmp 11), type := 3, pos := "l3_reaching.go:16", after := #[{ on := 1, ground := Go.Ground.data }], guard := none }) (v := ?pv2) rfl (by kernel_rfl) (by kernel_rfl) (by kernel_rfl) (by kernel_rfl) (fun _ _ _ h => h) (Or.inl ⟨by rfl, ?ph2⟩) hS ?pr2
  case ph2 => (intro wS hSw; (try dsimp only at hSw); go_split_ands; go_simp; try with_reducible rfl)
  try simp only [Act.put, List.setIfInBounds_toArray, List.set_cons_zero, List.set_cons_succ]
  refine wpAnyL_take (i := 3) (oi := { dst := some 13, op := Go.Op.load 29 (Go.Operand.tmp 2), type := 29, pos := "l3_reaching.go:16", after := #[], guard := none }) (v := ?pv3) rfl (by kernel_rfl) (by kernel_rfl) (by kernel_rfl) (by kernel_rfl) (fun _ _ _ h => h) (Or.inl ⟨by rfl, ?ph3⟩) hS ?pr3
  case ph3 => (intro wS hSw; (try dsimp only at hSw); go_split_ands; go_simp; try with_reducible rfl)
  try simp only [Act.put, List.setIfInBounds_toArray, List.set_cons_zero, List.set_cons_succ]
  refine wpAnyL_take (i := 4) (oi := { dst := some 14, op := Go.Op.move (Go.Operand.tmp 5), type := 3, pos := "l3_reaching.go:16", after := #[], guard := none }) (v := ?pv4) rfl (by kernel_rfl) (by kernel_rfl) (by kernel_rfl) (by kernel_rfl) (fun _ _ _ h => h) (Or.inl ⟨by rfl, ?ph4⟩) hS ?pr4
  case ph4 => (intro wS hSw; (try dsimp only at hSw); go_split_ands; go_simp; try with_reducible rfl)
  try simp only [Act.put, List.setIfInBounds_toArray, List.set_cons_zero, List.set_cons_succ]
  refine wpAnyL_one (i := 5) (oi := { dst := some 15, op := Go.Op.call { callee := Go.Callee.value (Go.Operand.func 131), args := #[Go.Operand.tmp 13, Go.Operand.tmp 14], argTypes := #[29, 3] }, type := 3, pos := "l3_reaching.go:16", after := #[{ on := 3, ground := Go.Ground.data }, { on := 4, ground := Go.Ground.data }], guard := none }) (by kernel_rfl) rfl (fun Kp5 hKp5 => ?_)
  refine step_call (by rfl) 131 #[.agg #[.int .i64 m.size, .slice a m.doors.length c, .slice b m.keys.length d], .int .i64 ((nn : Nat) : Int)] (by go_simp; try rfl) (keysAt_any w5.drew lo hi m a b c d (H.out.below (Below.drawnN B5.out 1) hz) (by have := B5.out.size; show hi ≤ w5.heap.size; omega) HVA.out nn hn4 HNK.out) ?_
  rintro e w6 ⟨rfl, hb6⟩
  refine ⟨_, rfl, ?_⟩
  have hb6x : Below w5.heap.size w5 w6 := (Below.refl w5.heap.size w5).drew.trans hb6
  have X6 := Lib.hid (X5.out.below hb6x)
  have Y6 := Lib.hid (Y5.out.below hb6x)
  have Z6 := Lib.hid (Z5.out.below hb6x)
  have B6 := Lib.hid (B5.out.trans (hb6x.mono B5.out.size))
  have hx6 : (fun (wq : World) => wq.cell? ⟨w.heap.size, 0, none⟩ = some (.int .i64 m.size) ∧ wq.cell? ⟨w.heap.size, 1, none⟩ = some (.slice a m.doors.length c) ∧ wq.cell? ⟨w.heap.size, 2, none⟩ = some (.slice b m.keys.length d) ∧ wq.cell? ⟨w.heap.size + 1, 1, none⟩ = some (.int .i64 s)) w6 := (by obtain ⟨d0, d1, d2⟩ := X6.out.cells; obtain ⟨_, d4⟩ := Y6.out.cells; exact ⟨d0, d1, d2, d4⟩)
  refine hKp5 _ _ (fun _ => hx6) ?_
  clear hS
  have hS := hx6
  try simp only [Act.put, List.setIfInBounds_toArray, List.set_cons_zero, List.set_cons_succ]
  refine wpAnyL_take (i := 6) (oi := { dst := some 16, op := Go.Op.binOp Go.BinOp.or 3 (Go.Operand.tmp 12) (Go.Operand.tmp 15) 3, type := 3, pos := "l3_reaching.go:16", after := #[{ on := 2, ground := Go.Ground.data }, { on := 5, ground := Go.Ground.data }], guard := none }) (v := ?pv6) rfl (by kernel_rfl) (by kernel_rfl) (by kernel_rfl) (by kernel_rfl) (fun _ _ _ h => h) (Or.inl ⟨by rfl, ?ph6⟩) hS ?pr6
  case ph6 => (intro wS hSw; (try dsimp only at hSw); go_split_ands; go_simp; try with_reducible rfl)
  try simp only [Act.put, List.setIfInBounds_toArray, List.set_cons_zero, List.set_cons_succ]
  refine wpAnyL_take (i := 7) (oi := { dst := some 17, op := Go.Op.build 65 #[(0, Go.Operand.tmp 10), (1, Go.Operand.tmp 16)], type := 65, pos := "l3_reaching.go:16", after := #[{ on := 0, ground := Go.Ground.data }, { on := 6, ground := Go.Ground.data }], guard := none }) (v := ?pv7) rfl (by kernel_rfl) (by kernel_rfl) (by kernel_rfl) (by kernel_rfl) (fun _ _ _ h => h) (Or.inl ⟨by rfl, ?ph7⟩) hS ?pr7
  case ph7 => (intro wS hSw; (try dsimp only at hSw); go_split_ands; go_simp; try with_reducible rfl)
  try simp only [Act.put, List.setIfInBounds_toArray, List.set_cons_zero, List.set_cons_succ]
  refine wpAnyL_one (i := 8) (oi := { dst := none, op := Go.Op.store 65 (Go.Operand.tmp 4) (Go.Operand.tmp 17), type := 0, pos := "l3_reaching.go:16", after := #[{ on := 7, ground := Go.Ground.data }, { on := 5, ground := Go.Ground.chain }, { on := 0, ground := Go.Ground.phase }, { on := 1, ground := Go.Ground.phase }, { on := 2, ground := Go.Ground.phase }, { on := 3, ground := Go.Ground.phase }, { on := 4, ground := Go.Ground.phase }, { on := 5, ground := Go.Ground.phase }, { on := 6, ground := Go.Ground.phase }, { on := 7, ground := Go.Ground.phase }], guard := none }) (by kernel_rfl) rfl (fun Kp8 hKp8 => ?_)
  obtain ⟨k0, k1⟩ := Z6.out.cells
  obtain ⟨f0, f1⟩ := Z6.out.free
  have hl6 := Z6.out.lt
  go_simp
  have htt := Turned.set2 (w := w6) (w.heap.size + 1 + 1) (.int .i64 ((nn : Nat) : Int)) (.int .i64 (M.nextC m s))
  have X7 := Lib.hid (X6.out.turned htt (.inl (by omega)))
  have Y7 := Lib.hid (Y6.out.turned htt (.inl (by omega)))
  have Z7 := Lib.hid (Z6.out.setAll (.int .i64 ((nn : Nat) : Int)) (.int .i64 (M.nextC m s)))
  have B7 := Lib.hid (Below.thenTurned B6.out htt (by omega) B6.out.size)
  refine hKp8 _ _ (fun _ => (by obtain ⟨d0, d1, d2⟩ := X7.out.cells; obtain ⟨_, d4⟩ := Y7.out.cells; exact ⟨d0, d1, d2, d4⟩)) ?_
  clear hS
  have hS := trivial
  try simp only [List.setIfInBounds_toArray, List.set_cons_zero, List.set_cons_succ]
  refine wpAnyL_done (by kernel_rfl) ?_ _
  go_wp2_with fail
  obtain ⟨r0, r1⟩ := Z7.out.cells
  refine bodyPost_ret (v := .agg #[.int .i64 ((nn : Nat) : Int), .int .i64 (M.nextC m s)]) (by simp [results, Try.results112, go_sem, r0, r1]) rfl ?_
  exact ⟨by rw [HNN.out], B7.out⟩
end C
end Go.Proofs.Ytoiapfdlbkncaaa
