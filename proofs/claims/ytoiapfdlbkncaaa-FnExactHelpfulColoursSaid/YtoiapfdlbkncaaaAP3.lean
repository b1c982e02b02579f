/-
  CONTRACT of impl.Maze.playRound: the nodes that are entered with the colours at hand, and the colours behind; what lay in memory stays. Condition: a valid maze, a set of colours.
  CONTRACT of impl.Maze.gainsOf: the pairs of nodes and colours that one has at first and behind each round that changes them, in a new list; what lay in memory stays. Condition: a valid maze, a set of colours.
  CONTRACT of slices.IndexFunc at ints: the first place at which a predicate holds, or -1; what lay in memory stays. Condition: at most 1048576 of them; the predicate answers p and leaves memory as it is.
  CONTRACT of slices.IndexFunc at gains: the first place at which a predicate holds, or -1; what lay in memory stays. Condition: at most 1048576 of them; the predicate answers p and leaves memory as it is.
  CONTRACT of impl.roundOf: the round in which a node is entered, told by the program's pairs, or 0; what lay in memory stays. Condition: the pairs of a valid maze, a node.
  CONTRACT of spec.l2Close: the colours that one has at last, and the nodes that are entered with them, in a new list; what lay in memory stays. Condition: a valid maze, a set of colours.
  CONTRACT of spec.l3Rounds: the sets that one has at first and behind each round that brings a colour, in a new list; what lay in memory stays. Condition: a valid maze, a set of colours.
  CONTRACT of spec.l3Entered: for each node the round in which it is entered, or 0, in a new list; what lay in memory stays. Condition: a valid maze, a set of colours.
  CONTRACTS of the model's RoundsOf, GainAtLast, l3Wins, CanWin, NodeRounds, WinRound; what lay in memory stays. No condition but that the maze reads so.
  CONTRACTS of the program's GainAtLast, canBeWon, CanWin, NodeRounds, WinRound; what lay in memory stays. No condition but that the maze reads so.
-/
import Derived.Test.YtoiapfdlbkncaaaBox2
import Derived.Test.YtoiapfdlbkncaaaASpr
import Derived.Test.YtoiapfdlbkncaaaLate
import Derived.Test.YtoiapfdlbkncaaaStep
import Derived.Test.YtoiapfdlbkncaaaGainMath
import Derived.Deep.RegionHeld3
import Derived.Deep.RegionWith
import Derived.Deep.DeepCutAuto
import Derived.Test.YtoiapfdlbkncaaaOwnMaz3
import Derived.Laws.StructEq
import Derived.ProofKit
import Derived.Test.YtoiapfdlbkncaaaNode
import Derived.Test.YtoiapfdlbkncaaaReachS
import Derived.Test.YtoiapfdlbkncaaaEntMath
import Derived.Test.YtoiapfdlbkncaaaMzEnd
import Derived.OwnWalk
import Derived.Test.YtoiapfdlbkncaaaAsk
import Derived.IntWalk
import Derived.Test.YtoiapfdlbkncaaaDigitsI
namespace Go.Proofs.Ytoiapfdlbkncaaa
open Go.RowKit
namespace M
/-- the number that spread returns tells the nodes -/
theorem reach_mk {m : Mz} (V : Valid m) {s : Int} {n : Nat} (h : MaskOk m.doors (openTo s) 0 n) (hp : passN (openTo s) n m.doors = n) : n = mk (reachOf m 0 s) := by
  have := reach_mask (x := 0) V (by have := V.size1; omega) h hp
  have hr : digsTo n 12 = reachOf m 0 s := this
  rw [← hr, mk_digs h.2.1]
theorem digs_mk {m : Mz} (V : Valid m) (s : Int) : digsTo (mk (reachOf m 0 s)) 12 = reachOf m 0 s := by
  refine (digsTo_asc _ 12).ext ordI (rchL_asc _ _ _) fun y => ?_
  rw [mem_digsTo]
  constructor
  · rintro ⟨p, rfl, _, hp⟩
    exact (digB_mk (fun _ hx => (reach_node V hx).1) p).1 hp
  · intro hy
    have hn := reach_node V hy
    have := V.size12
    have ey : ((y.toNat : Nat) : Int) = y := by omega
    exact ⟨y.toNat, by omega, by omega, (digB_mk (fun _ hx => (reach_node V hx).1) y.toNat).2 (by rw [ey]; exact hy)⟩
theorem orN (a b : Nat) (ha : a < 64) (hb : b < 64) : bits .or .i64 (a : Int) (b : Int) = ((a ||| b : Nat) : Int) := or_nat ha hb
theorem orS_assoc {s t u : Int} (hs : 0 ≤ s ∧ s < 64) (ht : 0 ≤ t ∧ t < 64) (hu : 0 ≤ u ∧ u < 64) : bits .or .i64 (bits .or .i64 s t) u = bits .or .i64 s (bits .or .i64 t u) := by
  obtain ⟨a, rfl⟩ : ∃ a : Nat, s = a := ⟨s.toNat, by omega⟩
  obtain ⟨b, rfl⟩ : ∃ b : Nat, t = b := ⟨t.toNat, by omega⟩
  obtain ⟨c, rfl⟩ : ∃ c : Nat, u = c := ⟨u.toNat, by omega⟩
  have h1 := or_set hs.1 hs.2 ht.1 ht.2
  have h2 := or_set ht.1 ht.2 hu.1 hu.2
  rw [orN a b (by omega) (by omega)] at h1 ⊢
  rw [orN b c (by omega) (by omega)] at h2 ⊢
  rw [orN _ c (by omega) (by omega), orN a _ (by omega) (by omega), Nat.or_assoc]
theorem orS_zero {t : Int} (ht : 0 ≤ t ∧ t < 64) : bits .or .i64 0 t = t ∧ bits .or .i64 t 0 = t := by
  obtain ⟨b, rfl⟩ : ∃ b : Nat, t = b := ⟨t.toNat, by omega⟩
  have h1 := orN 0 b (by decide) (by omega)
  have h2 := orN b 0 (by omega) (by decide)
  rw [Nat.zero_or] at h1
  rw [Nat.or_zero] at h2
  exact ⟨h1, h2⟩
/-- gathered apart and put together -/
theorem gath_apart {m : Mz} (V : Valid m) : ∀ (l : List Int) (s : Int), 0 ≤ s ∧ s < 64 → gath m l s = bits .or .i64 s (gath m l 0)
  | [], s, h => (orS_zero h).2.symm
  | x :: l, s, h => by
    have hk := key_set V x.toNat
    have ho := or_set h.1 h.2 hk.1 hk.2
    have hg := (gath_set V l 0 ⟨by decide, by decide⟩).1
    show gath m l (bits .or .i64 s (m.keys.getD x.toNat 0)) = bits .or .i64 s (gath m l (bits .or .i64 0 (m.keys.getD x.toNat 0)))
    rw [(orS_zero hk).1, gath_apart V l _ ho, gath_apart V l _ hk, orS_assoc h hk hg]
theorem next_apart {m : Mz} (V : Valid m) {s : Int} (h : 0 ≤ s ∧ s < 64) : nextC m s = bits .or .i64 s (keysN m (mk (reachOf m 0 s))) := by
  unfold nextC keysN
  rw [digs_mk V, gath_apart V _ s h]
end M
namespace C
set_option maxHeartbeats 3200000
set_option maxRecDepth 20000
theorem playRound_any (w : World) (lo hi : Nat) (m : M.Mz) (a b : Option Addr) (c d : Nat) (h : MzIn lo hi w m a c b d) (hz : hi ≤ w.heap.size) (V : M.Valid m) (n0 s : Int) (hs : 0 ≤ s ∧ s < 64) :
    Calls Try.prog 112 #[.agg #[.int .i64 m.size, .slice a m.doors.length c, .slice b m.keys.length d], .agg #[.int .i64 n0, .int .i64 s]] w fun e w' => e = .returned (.agg #[.int .i64 (M.mk (M.reachOf m 0 s) : Nat), .int .i64 (M.nextC m s)]) ∧ Below w.heap.size w w' := by
  have H := Lib.hid h
  have HVA := Lib.hid V
  have v12 := V.size12
  have v1 := V.size1
  have HNX := Lib.hid (M.next_apart V hs)
  have hn4 := M.mk_lt (l := M.reachOf m 0 s) (fun x hx => by have := M.reach_node V hx; omega)
  have HNK := Lib.hid (show ∀ p, M.digB (M.mk (M.reachOf m 0 s)) p = true → (p : Int) < m.size from fun p hp => (M.reach_node V ((M.digB_mk (fun _ hx => (M.reach_node V hx).1) p).1 hp)).2)
  have HRM := Lib.hid (fun n h1 h2 => M.reach_mk (s := s) (n := n) V h1 h2)
  have hst : M.MaskOk m.doors (M.openTo s) 0 1 := M.MaskOk.start (x := 0) (by decide)
  clear h V
  go_enter Try.func112, Try.ntmps112
  go_upto_region 1 with fail
  refine wp_named ?_
  intro W hW
  have HB := Lib.hid (show Below w.heap.size w W by rw [hW]; exact ((below_alloc _ _).alloc (by simp) _).alloc (by simp; omega) _)
  have X1 := Lib.hid (show Box3 W w.heap.size 29 (.int .i64 m.size) (.slice a m.doors.length c) (.slice b m.keys.length d) by rw [hW]; exact ((Box3.new _ _ _ _ rfl).alloc _).alloc _)
  have Y1 := Lib.hid (show Box2 W (w.heap.size + 1) 65 (.int .i64 n0) (.int .i64 s) by rw [hW]; exact (Box2.new _ _ _ (by simp)).alloc _)
  have Z1 := Lib.hid (show Box2 W (w.heap.size + 1 + 1) 65 (.int .i64 0) (.int .i64 0) by rw [hW]; exact Box2.new _ _ _ (by simp))
  clear hW
  have hzw := HB.out.size
  have hzl := Z1.out.lt
  obtain ⟨d0, d1, d2⟩ := X1.out.cells
  obtain ⟨d3, d4⟩ := Y1.out.cells
  go_upto_region 2 with (go_at_call 68; refine (spread_any W lo hi m a b c d (H.out.below HB.out hz) (by omega) HVA.out 1 s (M.MaskOk m.doors (M.openTo s) 0) hst (fun n e he hn => by
    obtain ⟨j, hj, rfl⟩ := List.mem_iff_getElem.1 he
    obtain ⟨p1, p2, p3, p4, _⟩ := HVA.out.door j hj
    exact hn.step (List.getElem_mem hj) p1 (by omega) p3 (by omega)) (fun n hn => hn.2.1)).mono ?_; rintro e w5 ⟨n, rfl, hmk, hps, hb5⟩)
  have hn := HRM.out n hmk hps
  subst hn
  have X5 := Lib.hid (X1.out.below hb5)
  have Y5 := Lib.hid (Y1.out.below hb5)
  have Z5 := Lib.hid (Z1.out.below hb5)
  have B5 := Lib.hid (HB.out.trans (hb5.mono hzw))
  have hz5 := hb5.size
  clear hb5 hmk hps d0 d1 d2 d3 d4 hst
  generalize hnn : M.mk (M.reachOf m 0 s) = nn at *
  have hnx := HNX.out
  have HNN := Lib.hid hnn
  clear hnn
  have hnx' : bits .or .i64 s (M.keysN m nn) = M.nextC m s := hnx.symm
  clear hnx
  refine wp_region_late2 (fun (wq : World) => wq.cell? ⟨w.heap.size, 0, none⟩ = some (.int .i64 m.size) ∧ wq.cell? ⟨w.heap.size, 1, none⟩ = some (.slice a m.doors.length c) ∧ wq.cell? ⟨w.heap.size, 2, none⟩ = some (.slice b m.keys.length d) ∧ wq.cell? ⟨w.heap.size + 1, 1, none⟩ = some (.int .i64 s)) [] 9 #[false, false, false, false, false, false, false, false, false] rfl rfl (by kernel_rfl) ?_
  have hS : (fun (wq : World) => wq.cell? ⟨w.heap.size, 0, none⟩ = some (.int .i64 m.size) ∧ wq.cell? ⟨w.heap.size, 1, none⟩ = some (.slice a m.doors.length c) ∧ wq.cell? ⟨w.heap.size, 2, none⟩ = some (.slice b m.keys.length d) ∧ wq.cell? ⟨w.heap.size + 1, 1, none⟩ = some (.int .i64 s)) w5.drew := (by obtain ⟨d0, d1, d2⟩ := X5.out.cells; obtain ⟨_, d4⟩ := Y5.out.cells; exact ⟨d0, d1, d2, d4⟩)
  refine wpAnyL_take (i := 0) (oi := { dst := some 10, op := Go.Op.move (Go.Operand.tmp 5), type := 3, pos := "l3_reaching.go:16", after := #[], guard := none }) (v := ?pv0) rfl (by kernel_rfl) (by kernel_rfl) (by kernel_rfl) (by kernel_rfl) (fun _ _ _ h => h) (Or.inl ⟨by rfl, ?ph0⟩) hS ?pr0
  case ph0 => (intro wS hSw; (try dsimp only at hSw); go_split_ands; go_simp; try with_reducible rfl)
  try simp only [Act.put, List.setIfInBounds_toArray, List.set_cons_zero, List.set_cons_succ]
  refine wpAnyL_take (i := 1) (oi := { dst := some 11, op := Go.Op.fieldAddr 65 (Go.Operand.tmp 3) 1, type := 0, pos := "l3_reaching.go:16", after := #[], guard := none }) (v := ?pv1) rfl (by kernel_rfl) (by kernel_rfl) (by kernel_rfl) (by kernel_rfl) (fun _ _ _ h => h) (Or.inl ⟨by rfl, ?ph1⟩) hS ?pr1
  case ph1 => (intro wS hSw; (try dsimp only at hSw); go_split_ands; go_simp; try with_reducible rfl)
  try simp only [Act.put, List.setIfInBounds_toArray, List.set_cons_zero, List.set_cons_succ]
  refine wpAnyL_take (i := 2) (oi := { dst := some 12, op := Go.Op.load 3 (Go.Operand.tmp 11), type := 3, pos := "l3_reaching.go:16", after := #[{ on := 1, ground := Go.Ground.data }], guard := none }) (v := ?pv2) rfl (by kernel_rfl) (by kernel_rfl) (by kernel_rfl) (by kernel_rfl) (fun _ _ _ h => h) (Or.inl ⟨by rfl, ?ph2⟩) hS ?pr2
  case ph2 => (intro wS hSw; (try dsimp only at hSw); go_split_ands; go_simp; try with_reducible rfl)
  try simp only [Act.put, List.setIfInBounds_toArray, List.set_cons_zero, List.set_cons_succ]
  refine wpAnyL_take (i := 3) (oi := { dst := some 13, op := Go.Op.load 29 (Go.Operand.tmp 2), type := 29, pos := "l3_reaching.go:16", after := #[], guard := none }) (v := ?pv3) rfl (by kernel_rfl) (by kernel_rfl) (by kernel_rfl) (by kernel_rfl) (fun _ _ _ h => h) (Or.inl ⟨by rfl, ?ph3⟩) hS ?pr3
  case ph3 => (intro wS hSw; (try dsimp only at hSw); go_split_ands; go_simp; try with_reducible rfl)
  try simp only [Act.put, List.setIfInBounds_toArray, List.set_cons_zero, List.set_cons_succ]
  refine wpAnyL_take (i := 4) (oi := { dst := some 14, op := Go.Op.move (Go.Operand.tmp 5), type := 3, pos := "l3_reaching.go:16", after := #[], guard := none }) (v := ?pv4) rfl (by kernel_rfl) (by kernel_rfl) (by kernel_rfl) (by kernel_rfl) (fun _ _ _ h => h) (Or.inl ⟨by rfl, ?ph4⟩) hS ?pr4
  case ph4 => (intro wS hSw; (try dsimp only at hSw); go_split_ands; go_simp; try with_reducible rfl)
  try simp only [Act.put, List.setIfInBounds_toArray, List.set_cons_zero, List.set_cons_succ]
  refine wpAnyL_one (i := 5) (oi := { dst := some 15, op := Go.Op.call { callee := Go.Callee.value (Go.Operand.func 131), args := #[Go.Operand.tmp 13, Go.Operand.tmp 14], argTypes := #[29, 3] }, type := 3, pos := "l3_reaching.go:16", after := #[{ on := 3, ground := Go.Ground.data }, { on := 4, ground := Go.Ground.data }], guard := none }) (by kernel_rfl) rfl (fun Kp5 hKp5 => ?_)
  refine step_call (by rfl) 131 #[.agg #[.int .i64 m.size, .slice a m.doors.length c, .slice b m.keys.length d], .int .i64 ((nn : Nat) : Int)] (by go_simp; try rfl) (keysAt_any w5.drew lo hi m a b c d (H.out.below (Below.drawnN B5.out 1) hz) (by have := B5.out.size; show hi ≤ w5.heap.size; omega) HVA.out nn hn4 HNK.out) ?_
  rintro e w6 ⟨rfl, hb6⟩
  refine ⟨_, rfl, ?_⟩
  have hb6x : Below w5.heap.size w5 w6 := (Below.refl w5.heap.size w5).drew.trans hb6
  have X6 := Lib.hid (X5.out.below hb6x)
  have Y6 := Lib.hid (Y5.out.below hb6x)
  have Z6 := Lib.hid (Z5.out.below hb6x)
  have B6 := Lib.hid (B5.out.trans (hb6x.mono B5.out.size))
  have hx6 : (fun (wq : World) => wq.cell? ⟨w.heap.size, 0, none⟩ = some (.int .i64 m.size) ∧ wq.cell? ⟨w.heap.size, 1, none⟩ = some (.slice a m.doors.length c) ∧ wq.cell? ⟨w.heap.size, 2, none⟩ = some (.slice b m.keys.length d) ∧ wq.cell? ⟨w.heap.size + 1, 1, none⟩ = some (.int .i64 s)) w6 := (by obtain ⟨d0, d1, d2⟩ := X6.out.cells; obtain ⟨_, d4⟩ := Y6.out.cells; exact ⟨d0, d1, d2, d4⟩)
  refine hKp5 _ _ (fun _ => hx6) ?_
  clear hS
  have hS := hx6
  try simp only [Act.put, List.setIfInBounds_toArray, List.set_cons_zero, List.set_cons_succ]
  refine wpAnyL_take (i := 6) (oi := { dst := some 16, op := Go.Op.binOp Go.BinOp.or 3 (Go.Operand.tmp 12) (Go.Operand.tmp 15) 3, type := 3, pos := "l3_reaching.go:16", after := #[{ on := 2, ground := Go.Ground.data }, { on := 5, ground := Go.Ground.data }], guard := none }) (v := ?pv6) rfl (by kernel_rfl) (by kernel_rfl) (by kernel_rfl) (by kernel_rfl) (fun _ _ _ h => h) (Or.inl ⟨by rfl, ?ph6⟩) hS ?pr6
  case ph6 => (intro wS hSw; (try dsimp only at hSw); go_split_ands; go_simp; try with_reducible rfl)
  try simp only [Act.put, List.setIfInBounds_toArray, List.set_cons_zero, List.set_cons_succ]
  refine wpAnyL_take (i := 7) (oi := { dst := some 17, op := Go.Op.build 65 #[(0, Go.Operand.tmp 10), (1, Go.Operand.tmp 16)], type := 65, pos := "l3_reaching.go:16", after := #[{ on := 0, ground := Go.Ground.data }, { on := 6, ground := Go.Ground.data }], guard := none }) (v := ?pv7) rfl (by kernel_rfl) (by kernel_rfl) (by kernel_rfl) (by kernel_rfl) (fun _ _ _ h => h) (Or.inl ⟨by rfl, ?ph7⟩) hS ?pr7
  case ph7 => (intro wS hSw; (try dsimp only at hSw); go_split_ands; go_simp; try with_reducible rfl)
  try simp only [Act.put, List.setIfInBounds_toArray, List.set_cons_zero, List.set_cons_succ]
  refine wpAnyL_one (i := 8) (oi := { dst := none, op := Go.Op.store 65 (Go.Operand.tmp 4) (Go.Operand.tmp 17), type := 0, pos := "l3_reaching.go:16", after := #[{ on := 7, ground := Go.Ground.data }, { on := 5, ground := Go.Ground.chain }, { on := 0, ground := Go.Ground.phase }, { on := 1, ground := Go.Ground.phase }, { on := 2, ground := Go.Ground.phase }, { on := 3, ground := Go.Ground.phase }, { on := 4, ground := Go.Ground.phase }, { on := 5, ground := Go.Ground.phase }, { on := 6, ground := Go.Ground.phase }, { on := 7, ground := Go.Ground.phase }], guard := none }) (by kernel_rfl) rfl (fun Kp8 hKp8 => ?_)
  obtain ⟨k0, k1⟩ := Z6.out.cells
  obtain ⟨f0, f1⟩ := Z6.out.free
  have hl6 := Z6.out.lt
  go_simp
  have htt := Turned.set2 (w := w6) (w.heap.size + 1 + 1) (.int .i64 ((nn : Nat) : Int)) (.int .i64 (M.nextC m s))
  have X7 := Lib.hid (X6.out.turned htt (.inl (by omega)))
  have Y7 := Lib.hid (Y6.out.turned htt (.inl (by omega)))
  have Z7 := Lib.hid (Z6.out.setAll (.int .i64 ((nn : Nat) : Int)) (.int .i64 (M.nextC m s)))
  have B7 := Lib.hid (Below.thenTurned B6.out htt (by omega) B6.out.size)
  refine hKp8 _ _ (fun _ => (by obtain ⟨d0, d1, d2⟩ := X7.out.cells; obtain ⟨_, d4⟩ := Y7.out.cells; exact ⟨d0, d1, d2, d4⟩)) ?_
  clear hS
  have hS := trivial
  try simp only [List.setIfInBounds_toArray, List.set_cons_zero, List.set_cons_succ]
  refine wpAnyL_done (by kernel_rfl) ?_ _
  go_wp2_with fail
  obtain ⟨r0, r1⟩ := Z7.out.cells
  refine bodyPost_ret (v := .agg #[.int .i64 ((nn : Nat) : Int), .int .i64 (M.nextC m s)]) (by simp [results, Try.results112, go_sem, r0, r1]) rfl ?_
  exact ⟨by rw [HNN.out], B7.out⟩
end C
end Go.Proofs.Ytoiapfdlbkncaaa
namespace Go.Proofs.Ytoiapfdlbkncaaa
open Go.RowKit
namespace M
abbrev Gn := Int × Int
def encG (p : Gn) : List Value := [.int .i64 p.1, .int .i64 p.2]
def encGs (l : List Gn) : List Value := l.flatMap encG
theorem encGs_len (l : List Gn) : (encGs l).length = l.length * 2 := by
  unfold encGs; induction l with
  | nil => rfl
  | cons d l ih => simp [encG, ih]; omega
theorem encGs_cons (d : Gn) (l : List Gn) : encGs (d :: l) = encG d ++ encGs l := by simp [encGs]
theorem encGs_append (a b : List Gn) : encGs (a ++ b) = encGs a ++ encGs b := by simp [encGs]
theorem encGs_at {l : List Gn} {k : Nat} (h : k < l.length) (j : Nat) (hj : j < 2) : (encGs l)[k * 2 + j]? = (encG l[k])[j]? := by
  induction l generalizing k with
  | nil => simp at h
  | cons d l ih =>
    rw [encGs_cons]
    cases k with
    | zero =>
      rw [Nat.zero_mul, Nat.zero_add, List.getElem?_append_left (by simp [encG]; omega)]
      rfl
    | succ k =>
      rw [List.getElem?_append_right (by simp [encG]; omega)]
      have e : (k + 1) * 2 + j - (encG d).length = k * 2 + j := by simp [encG]; omega
      rw [e, ih (by simpa using h)]
      simp
theorem encGs_at0 {l : List Gn} {k : Nat} (h : k < l.length) : (encGs l)[k * 2]? = some (.int .i64 l[k].1) := encGs_at h 0 (by omega)
theorem encGs_at1 {l : List Gn} {k : Nat} (h : k < l.length) : (encGs l)[k * 2 + 1]? = some (.int .i64 l[k].2) := encGs_at h 1 (by omega)
theorem encGs_one (l : List Gn) : ∀ x ∈ encGs l, x.oneCell' = true := by
  intro x hx
  unfold encGs at hx
  obtain ⟨p, _, hp⟩ := List.mem_flatMap.1 hx
  simp [encG] at hp
  rcases hp with rfl | rfl <;> rfl
/-- the program's pairs -/
noncomputable def pairAt (m : Mz) (s : Int) (i : Nat) : Gn := ((gn m s i : Nat), it m s i)
noncomputable def gainsTo (m : Mz) (s : Int) (k : Nat) : List Gn := (List.range (k + 1)).map (pairAt m s)
theorem gainsTo_succ (m : Mz) (s : Int) (k : Nat) : gainsTo m s (k + 1) = gainsTo m s k ++ [pairAt m s (k + 1)] := by unfold gainsTo; rw [List.range_succ (n := k + 1), List.map_append]; rfl
theorem gainsTo_len (m : Mz) (s : Int) (k : Nat) : (gainsTo m s k).length = k + 1 := by unfold gainsTo; simp
theorem gainsTo_at (m : Mz) (s : Int) {k i : Nat} (h : i < (gainsTo m s k).length) : (gainsTo m s k)[i]'h = pairAt m s i := by
  have h' := h
  rw [gainsTo_len] at h'
  have : (gainsTo m s k)[i]? = some (pairAt m s i) := by unfold gainsTo; rw [List.getElem?_map, List.getElem?_range h']; rfl
  rw [List.getElem?_eq_getElem h] at this
  exact Option.some.inj this
end M
namespace C
set_option maxHeartbeats 3200000
set_option maxRecDepth 20000
theorem eqTG : Try.prog.eqGuardType Try.prog.depth 65 = false := by kernel_rfl
theorem eqG (a b c d : Int) (w : World) : (Op.equalIn 10000 65 (.agg #[.int .i64 a, .int .i64 b]) (.agg #[.int .i64 c, .int .i64 d])).run Try.prog w = .ok (a == c && b == d) w := by
  have u3 := Try.underlying3
  have a3 := Try.isAgg3
  have z3 := Try.sizeOf3
  rw [show (10000 : Nat) = 9999 + 1 from rfl, run_equalIn_agg (P := Try.prog) w 9999 65 _ _ (by kernel_rfl) (by kernel_rfl)]
  simp only [Program.fieldsOf, Try.underlying65]
  go_simp
  by_cases h1 : a = c <;> by_cases h2 : b = d <;> simp [h1, h2]
theorem infoG : (Try.prog.info? 65).map (fun i => (i.zero, i.size, i.bytes)) = some (some (.agg #[.int .i64 0, .int .i64 0]), 2, 16) := by kernel_rfl
def sliceLen : Value → Nat
  | .slice _ n _ => n
  | _ => 0
def GainsPost (w : World) (l : List M.Gn) (e : Ending) (w' : World) : Prop :=
  ∃ a c, e = .returned (.slice a l.length c) ∧ OwnAt w.heap.size w'.heap.size w' 65 a (M.encGs l) ∧ l.length ≤ c ∧ c ≤ 9223372036854775807 ∧ Below w.heap.size w w'
theorem gains_end {w w' : World} {l : List M.Gn} {n : Nat} {v : Value} (h : w'.ownsRow w.heap.size 65 2 v n (M.encGs l)) (hn : n = l.length) (hb : Below w.heap.size w w') : GainsPost w l (.returned v) w' := by
  subst hn
  have h0 := h
  obtain ⟨a, c, rfl, h1, h2, _⟩ := own_slice h
  exact ⟨a, c, rfl, OwnAt.of_own h0, h1, h2, hb⟩
theorem newsG {w : World} {g : Nat} {x y : Value} (h : Box2 w g 65 x y) : ∀ j u, ([x, y])[j]? = some u → w.cell? ((⟨g, 0, none⟩ : Addr).add j) = some u := World.news_of_block h
theorem ownsRow_gain (w : World) (B : Nat) (x y : Value) (hB : B ≤ w.heap.size) : (w.alloc (.cells #[x, y] 65)).ownsRow B 65 2 (.slice (some ⟨w.heap.size, 0, none⟩) 1 1) 1 [x, y] :=
  ⟨by simp, .inr ⟨w.heap.size, 1, #[x, y], rfl, hB, heap_alloc_new w _, Nat.le_refl _, by unfold maxLen; omega, by simp, by simp⟩⟩
theorem gainsOf_any (w : World) (lo hi : Nat) (m : M.Mz) (a b : Option Addr) (c d : Nat) (h : MzIn lo hi w m a c b d) (hz : hi ≤ w.heap.size) (V : M.Valid m) (s : Int) (h0 : 0 ≤ s) (h1 : s < 64) :
    Calls Try.prog 73 #[.agg #[.int .i64 m.size, .slice a m.doors.length c, .slice b m.keys.length d], .int .i64 s] w (GainsPost w (M.gainsTo m s (M.lastG m s))) := by
  obtain ⟨i0, hi0, hz0, hz1, hz2⟩ := info_parts infoG
  have H := Lib.hid h
  have HVA := Lib.hid V
  have hlg := M.lastG_le m s
  have HLI := Lib.hid (fun (k : Nat) (hk : k ≤ M.lastG m s) => M.lastG_iff V ⟨h0, h1⟩ hk)
  clear h V
  go_enter Try.func73, Try.ntmps73
  go_wp2_with fail
  refine wp_named ?_
  intro W hW
  have hb : Below w.heap.size w W := by rw [hW]; exact (below_alloc _ _).alloc (by simp) _
  have x1 : Box3 W w.heap.size 29 (.int .i64 m.size) (.slice a m.doors.length c) (.slice b m.keys.length d) := by rw [hW]; exact (Box3.new _ _ _ _ rfl).alloc _
  have o1 : W.ownsRow w.heap.size 65 2 (.slice (some ⟨w.heap.size + 1, 0, none⟩) 1 1) 1 (M.encGs (M.gainsTo m s 0)) := by
    rw [hW]
    have := ownsRow_gain (w.alloc (.cells #[.int .i64 m.size, .slice a m.doors.length c, .slice b m.keys.length d] 29)) w.heap.size (.int .i64 0) (.int .i64 s) (by simp)
    rw [World.size_alloc] at this
    exact this
  clear hW
  have X1 := Lib.hid x1
  have O1 := Lib.hid o1
  have HB := Lib.hid hb
  clear x1 o1 hb
  go_loopw [5] (fun v5 wr => ∃ (k : Nat), k ≤ M.lastG m s ∧ wr.ownsRow w.heap.size 65 2 v5 (k + 1) (M.encGs (M.gainsTo m s k)) ∧ Box3 wr w.heap.size 29 (.int .i64 m.size) (.slice a m.doors.length c) (.slice b m.keys.length d) ∧ Below w.heap.size w wr) (fun v5 _ => 70 - sliceLen v5)
  case atStart => exact ⟨0, Nat.zero_le _, O1.out, X1.out, HB.out⟩
  case round =>
    obtain ⟨k, hk, ho, hx, hlow⟩ := hrel
    obtain ⟨la, lc, hv, hl1, hl2, hlr⟩ := own_slice ho
    subst hv
    have HO := Lib.hid ho
    have X7 := Lib.hid hx
    have B7 := Lib.hid hlow
    have hzr := hlow.size
    obtain ⟨lb, loff, hla, hlb1, hlb2, hlc⟩ := hlr.row.at_ (k := k * 2) (by rw [M.encGs_len, M.gainsTo_len]; omega)
    have hkl : k < (M.gainsTo m s k).length := by rw [M.gainsTo_len]; omega
    have gx0 := hlc _ _ (M.encGs_at0 hkl)
    have gx1 : wr.cell? ⟨lb, loff + k * 2 + 1, none⟩ = _ := hlc _ _ (M.encGs_at1 hkl)
    rw [M.gainsTo_at] at gx0 gx1
    have hgi := HLI.out k hk
    subst hla
    obtain ⟨c0, c1, c2⟩ := hx.cells
    have hbl := hx.lt
    clear ho hx hlow hlr hlc
    have e1 : (M.pairAt m s k).1 = ((M.gn m s k : Nat) : Int) := rfl
    have e2 : (M.pairAt m s k).2 = M.it m s k := rfl
    have e3 : M.nextC m (M.it m s k) = M.it m s (k + 1) := rfl
    have e4 : ((M.mk (M.reachOf m 0 (M.it m s k)) : Nat) : Int) = ((M.gn m s (k + 1) : Nat) : Int) := rfl
    rw [e1] at gx0
    rw [e2] at gx1
    clear e1 e2
    have HP := Lib.hid (fun W' (hq : Below wr.heap.size wr W') => playRound_any W' lo hi m a b c d (H.out.below (B7.out.trans (hq.mono hzr)) hz) (by have := hq.size; omega) HVA.out (M.gn m s k : Nat) (M.it m s k) (M.it_set HVA.out ⟨h0, h1⟩ k))
    rw [e3, e4] at HP
    clear e3 e4
    have HGS := Lib.hid (M.gainsTo_succ m s k)
    have hpe : M.pairAt m s (k + 1) = (((M.gn m s (k + 1) : Nat) : Int), M.it m s (k + 1)) := rfl
    rw [hpe] at HGS
    clear hpe
    generalize M.gn m s k = n0 at *
    generalize M.it m s k = s0 at *
    generalize M.gn m s (k + 1) = n1 at *
    generalize M.it m s (k + 1) = s1 at *
    go_wp2_with fail
    refine (HP.out _ (below_alloc _ _)).mono ?_
    rintro e w5 ⟨rfl, hb5⟩
    have hbw5 : Below wr.heap.size wr w5 := (below_alloc wr _).trans (hb5.mono (by simp))
    have n5 := (Box2.new (w := wr) (g := wr.heap.size) 65 (.int .i64 (n0 : Nat)) (.int .i64 s0) rfl).below hb5
    have N5 := Lib.hid n5
    have X5 := Lib.hid (X7.out.below hbw5)
    have O5 := Lib.hid (own_below HO.out hbw5)
    have B5 := Lib.hid (B7.out.trans (hbw5.mono hzr))
    have hz5 := hbw5.size
    have hn5l := n5.lt
    clear hb5 hbw5 n5 c0 c1 c2 gx0 gx1
    have n6 := (N5.out.alloc (.cells #[.int .i64 (n1 : Nat), .int .i64 s1] 65)).cells
    obtain ⟨u0, u1⟩ := n6
    obtain ⟨u2, u3⟩ := (Box2.new (w := w5) (g := w5.heap.size) 65 (.int .i64 (n1 : Nat)) (.int .i64 s1) rfl).cells
    have t3 := eqTG
    have HPC := Lib.hid hgi
    clear hgi
    by_cases hkk : k = M.lastG m s
    · obtain ⟨q1, q2⟩ := HPC.out.2 hkk
      have q3 : ∀ w, (Op.equalIn 10000 65 (.agg #[.int .i64 (n1 : Nat), .int .i64 s1]) (.agg #[.int .i64 (n0 : Nat), .int .i64 s0])).run Try.prog w = .ok true w := fun w => by rw [eqG, q1, q2]; simp
      have HK := Lib.hid hkk
      clear q1 q2 hkk
      go_wp2_with fail
      go_ret
      rw [← HK.out]
      exact gains_end (O5.out.alloc _) (M.gainsTo_len m s k).symm (B5.out.alloc (by omega) _)
    · have hne : ¬ (n1 = n0 ∧ s1 = s0) := fun h => hkk (HPC.out.1 h)
      have q3 : ∀ w, (Op.equalIn 10000 65 (.agg #[.int .i64 (n1 : Nat), .int .i64 s1]) (.agg #[.int .i64 (n0 : Nat), .int .i64 s0])).run Try.prog w = .ok false w := fun w => by
        rw [eqG]
        congr 1
        rw [Bool.eq_false_iff]
        intro hh
        simp only [Bool.and_eq_true, beq_iff_eq] at hh
        exact hne ⟨by omega, hh.2⟩
      have HK := Lib.hid hkk
      clear hne hkk
      have hne2 := own_ne_box O5.out X5.out (by decide)
      have HNE := Lib.hid hne2
      clear hne2
      go_wp2_with (at_builtin; refine wpList_append_own _ rfl _ _ 62 rfl w.heap.size 65 i0 (.agg #[.int .i64 0, .int .i64 0]) 2 16 Try.underlying62 hi0 hz0 hz1 hz2 rfl (by decide) _ _ _ rfl ((O5.out.alloc _).alloc _) ⟨w5.heap.size + 1, 0, none⟩ 1 1 [.int .i64 (n1 : Nat), .int .i64 s1] rfl rfl (newsG (Box2.new _ _ _ (by simp))) (fun x hx => by simp at hx; rcases hx with rfl | rfl <;> rfl) (by unfold maxLen; omega) (by omega) (by simp; omega) ?_; intro v' w7 hown' hgrow7 hnil7)
      obtain ⟨va, vc, hva, _, _, _⟩ := own_slice hown'
      subst hva
      refine ⟨⟨k + 1, by have := HK.out; omega, ?_, ((X5.out.alloc _).alloc _).grown hgrow7 HNE.out, ((B5.out.alloc (by omega) _).alloc (by simp; omega) _).grown hgrow7 (by simp; omega) (own_base O5.out)⟩, by simp [sliceLen]; omega⟩
      rw [HGS.out, M.encGs_append]
      exact hown'
end C
end Go.Proofs.Ytoiapfdlbkncaaa
namespace Go.Proofs.Ytoiapfdlbkncaaa
open Go.RowKit
namespace M
/-- the first place at which p holds, or -1 -/
def IsIdx {α : Type} (p : α → Bool) (l : List α) (i : Int) : Prop :=
  (∃ (k : Nat) (h : k < l.length), i = k ∧ p l[k] = true ∧ ∀ j (hj : j < l.length), j < k → p l[j] = false) ∨ (i = -1 ∧ ∀ j (hj : j < l.length), p l[j] = false)
end M
namespace C
set_option maxHeartbeats 1600000
set_option maxRecDepth 20000
def PredIOk (g : Nat) (lb : Array Value) (p : Int → Bool) (w : World) : Prop :=
  ∀ W x, Below w.heap.size w W → Calls Try.prog g (#[.int .i64 x] ++ lb) W fun e w' => e = .returned (.bool (p x)) ∧ Below W.heap.size W w'
theorem indexI_any (g : Nat) (lb : Array Value) (p : Int → Bool) (eg : ∀ args w, (callFunc g args).run Try.prog w = .ok (.enter g args) w) (w : World) (lo hi : Nat) (a : Option Addr) (c : Nat) (l : List Int)
    (hp : PredIOk g lb p w) (h : RowIn lo hi w a (M.encIs l)) (hz : hi ≤ w.heap.size) (hl : l.length ≤ 1048576) :
    Calls Try.prog 116 #[.slice a l.length c, .func (.func g) #[] lb] w fun e w' => (∃ i : Int, e = .returned (.int .i64 i) ∧ M.IsIdx p l i) ∧ Below w.heap.size w w' := by
  have h' := Lib.hid h
  have HP := Lib.hid hp
  clear h hp
  go_enter Try.func116, Try.ntmps116
  go_wp2_with fail
  go_loopw [5, 8] (fun _ i wr => ∃ (k : Nat), k ≤ l.length ∧ i = .int .i64 k ∧ (∀ j (hj : j < l.length), j < k → p l[j] = false) ∧ Below w.heap.size w wr) (fun _ i _ => l.length - (intOf i).toNat)
  case atStart => exact ⟨0, Nat.zero_le _, rfl, fun j _ h => by omega, Below.refl _ _⟩
  case round =>
    obtain ⟨k, hk, rfl, hall, hnx⟩ := hrel
    have HA := Lib.hid hall
    have HN := Lib.hid hnx
    have hzr := hnx.size
    clear hall hnx
    by_cases hlt : k < l.length
    · obtain ⟨b, off, rfl, _, hb, hc0⟩ := h'.out.at_ (k := k) (by rw [M.encIs_len]; omega)
      have hx0 : wr.cell? ⟨b, off + k, none⟩ = some (.int .i64 l[k]) := (HN.out.cell (p := ⟨b, off + k, none⟩) (Nat.lt_of_lt_of_le hb hz)).trans (hc0 _ _ (M.encIs_at hlt))
      clear hc0
      have CP := Lib.hid (HP.out wr l[k] HN.out)
      cases hq : p l[k] with
      | true =>
        rw [hq] at CP
        have HQ := Lib.hid hq
        clear hq
        go_wp2_with (go_at_fn g; refine (CP.out).mono ?_; rintro e w' ⟨rfl, hb2⟩)
        go_ret
        exact ⟨⟨k, rfl, .inl ⟨k, hlt, rfl, HQ.out, fun j hj hjk => HA.out j hj hjk⟩⟩, HN.out.trans (hb2.mono hzr)⟩
      | false =>
        rw [hq] at CP
        have HQ := Lib.hid hq
        clear hq
        go_wp2_with (go_at_fn g; refine (CP.out).mono ?_; rintro e w' ⟨rfl, hb2⟩)
        go_roundw
        case rel => exact ⟨k + 1, by omega, by go_num, fun j hj hjk => by
            rcases Nat.lt_or_ge j k with h | h
            · exact HA.out j hj h
            · obtain rfl : j = k := by omega
              exact HQ.out, HN.out.trans (hb2.mono hzr)⟩
        case measure => simp [intOf]; omega
    · obtain rfl : k = l.length := by omega
      go_wp2_with fail
      go_ret
      exact ⟨⟨-1, rfl, .inr ⟨rfl, fun j hj => HA.out j hj hj⟩⟩, HN.out⟩
end C
end Go.Proofs.Ytoiapfdlbkncaaa
namespace Go.Proofs.Ytoiapfdlbkncaaa
open Go.RowKit
namespace C
set_option maxHeartbeats 1600000
set_option maxRecDepth 20000
def PredGOk (g : Nat) (lb : Array Value) (p : M.Gn → Bool) (w : World) : Prop :=
  ∀ W x, Below w.heap.size w W → Calls Try.prog g (#[.agg #[.int .i64 x.1, .int .i64 x.2]] ++ lb) W fun e w' => e = .returned (.bool (p x)) ∧ Below W.heap.size W w'
theorem indexG_any (g : Nat) (lb : Array Value) (p : M.Gn → Bool) (eg : ∀ args w, (callFunc g args).run Try.prog w = .ok (.enter g args) w) (w : World) (lo hi : Nat) (a : Option Addr) (c : Nat) (l : List M.Gn)
    (hp : PredGOk g lb p w) (h : RowIn lo hi w a (M.encGs l)) (hz : hi ≤ w.heap.size) (hl : l.length ≤ 1048576) :
    Calls Try.prog 113 #[.slice a l.length c, .func (.func g) #[] lb] w fun e w' => (∃ i : Int, e = .returned (.int .i64 i) ∧ M.IsIdx p l i) ∧ Below w.heap.size w w' := by
  have h' := Lib.hid h
  have HP := Lib.hid hp
  clear h hp
  go_enter Try.func113, Try.ntmps113
  go_wp2_with fail
  go_loopw [5, 8] (fun _ i wr => ∃ (k : Nat), k ≤ l.length ∧ i = .int .i64 k ∧ (∀ j (hj : j < l.length), j < k → p l[j] = false) ∧ Below w.heap.size w wr) (fun _ i _ => l.length - (intOf i).toNat)
  case atStart => exact ⟨0, Nat.zero_le _, rfl, fun j _ h => by omega, Below.refl _ _⟩
  case round =>
    obtain ⟨k, hk, rfl, hall, hnx⟩ := hrel
    have HA := Lib.hid hall
    have HN := Lib.hid hnx
    have hzr := hnx.size
    clear hall hnx
    by_cases hlt : k < l.length
    · obtain ⟨b, off, rfl, _, hb, hc0⟩ := h'.out.at_ (k := k * 2) (by rw [M.encGs_len]; omega)
      have hx0 : wr.cell? ⟨b, off + k * 2, none⟩ = some (.int .i64 l[k].1) := (HN.out.cell (p := ⟨b, off + k * 2, none⟩) (Nat.lt_of_lt_of_le hb hz)).trans (hc0 _ _ (M.encGs_at0 hlt))
      have hx1 : wr.cell? ⟨b, off + k * 2 + 1, none⟩ = some (.int .i64 l[k].2) := (HN.out.cell (p := ⟨b, off + k * 2 + 1, none⟩) (Nat.lt_of_lt_of_le hb hz)).trans (hc0 _ _ (M.encGs_at1 hlt))
      clear hc0
      have CP := Lib.hid (HP.out wr l[k] HN.out)
      cases hq : p l[k] with
      | true =>
        rw [hq] at CP
        have HQ := Lib.hid hq
        clear hq
        go_wp2_with (go_at_fn g; refine (CP.out).mono ?_; rintro e w' ⟨rfl, hb2⟩)
        go_ret
        exact ⟨⟨k, rfl, .inl ⟨k, hlt, rfl, HQ.out, fun j hj hjk => HA.out j hj hjk⟩⟩, HN.out.trans (hb2.mono hzr)⟩
      | false =>
        rw [hq] at CP
        have HQ := Lib.hid hq
        clear hq
        go_wp2_with (go_at_fn g; refine (CP.out).mono ?_; rintro e w' ⟨rfl, hb2⟩)
        go_roundw
        case rel => exact ⟨k + 1, by omega, by go_num, fun j hj hjk => by
            rcases Nat.lt_or_ge j k with h | h
            · exact HA.out j hj h
            · obtain rfl : j = k := by omega
              exact HQ.out, HN.out.trans (hb2.mono hzr)⟩
        case measure => simp [intOf]; omega
    · obtain rfl : k = l.length := by omega
      go_wp2_with fail
      go_ret
      exact ⟨⟨-1, rfl, .inr ⟨rfl, fun j hj => HA.out j hj hj⟩⟩, HN.out⟩
end C
end Go.Proofs.Ytoiapfdlbkncaaa
namespace Go.Proofs.Ytoiapfdlbkncaaa
open Go.RowKit
namespace M
def bitB (x : Nat) (q : Gn) : Bool := bits .and .i64 (q.1 / 2 ^ x) 1 == 1
theorem bit_pair {m : Mz} (V : Valid m) (s : Int) (i x : Nat) : bitB x (pairAt m s i) = digB (gn m s i) x := bit_test (gn_lt V s i)
theorem idx_ent {m : Mz} (V : Valid m) (s : Int) (G x : Nat) {i : Int} (h : IsIdx (bitB x) (gainsTo m s G) i) : (i = -1 ∧ entTo m s G x = 0) ∨ ∃ k : Nat, i = (k : Int) ∧ entTo m s G x = k ∧ k ≤ G := by
  have key : ∀ j, digB (gn m s (j + 1)) x = false → (x : Int) ∉ reachOf m 0 (it m s j) := fun j hf hm => by
    rw [(digB_gn V s j x).2 hm] at hf
    cases hf
  rcases h with ⟨k, hk, rfl, hp, hn⟩ | ⟨rfl, hn⟩
  · right
    rw [gainsTo_len] at hk
    refine ⟨k, rfl, ?_, by omega⟩
    rw [gainsTo_at, bit_pair V] at hp
    rcases k with _ | r
    · simp [gn, digB] at hp
    · rw [entTo_pos]
      refine ⟨by omega, (digB_gn V s r x).1 hp, fun j hj => key j ?_⟩
      have := hn (j + 1) (by rw [gainsTo_len]; omega) (by omega)
      rwa [gainsTo_at, bit_pair V] at this
  · left
    refine ⟨rfl, entTo_zero.2 fun j hj => key j ?_⟩
    have := hn (j + 1) (by rw [gainsTo_len]; omega)
    rwa [gainsTo_at, bit_pair V] at this
end M
namespace C
set_option maxHeartbeats 1600000
set_option maxRecDepth 20000
theorem roundOf1_any (B : Nat) (x : Nat) (q : M.Gn) (w : World) (hc : w.cell? ⟨B, 0, none⟩ = some (.int .i64 (x : Int))) (hB : B < w.heap.size) (hx : x < 64) :
    Calls Try.prog 114 (#[.agg #[.int .i64 q.1, .int .i64 q.2]] ++ #[.pointer (some ⟨B, 0, none⟩)]) w fun e w' => e = .returned (.bool (M.bitB x q)) ∧ Below w.heap.size w w' := by
  show Calls Try.prog 114 #[.agg #[.int .i64 q.1, .int .i64 q.2], .pointer (some ⟨B, 0, none⟩)] w _
  have hx0 : ¬ ((x : Nat) : Int) < 0 := by omega
  have hc2 : (w.alloc (.cells #[.int .i64 q.1, .int .i64 q.2] 65)).cell? ⟨B, 0, none⟩ = some (.int .i64 (x : Int)) := ((below_alloc w _).cell (p := ⟨B, 0, none⟩) hB).trans hc
  go_enter Try.func114, Try.ntmps114
  go_wp2_with fail
  go_ret
  exact ⟨by unfold M.bitB; simp, below_alloc _ _⟩
theorem roundOf_any (w : World) (lo hi : Nat) (m : M.Mz) (V : M.Valid m) (s : Int) (G x : Nat) (a : Option Addr) (c : Nat) (h : RowIn lo hi w a (M.encGs (M.gainsTo m s G))) (hz : hi ≤ w.heap.size) (hG : G ≤ 1000) (hx : x < 64) :
    Calls Try.prog 79 #[.slice a (G + 1) c, .int .i64 (x : Int)] w fun e w' => e = .returned (.int .i64 (M.entTo m s G x : Nat)) ∧ Below w.heap.size w w' := by
  have H := Lib.hid h
  have HIE := Lib.hid (fun i hi => M.idx_ent V s G x (i := i) hi)
  clear h V
  go_enter Try.func79, Try.ntmps79
  go_wp2_with fail
  refine named ?_
  intro W hW
  have hb : Below w.heap.size w W := by rw [hW]; exact below_alloc _ _
  have hc : W.cell? ⟨w.heap.size, 0, none⟩ = some (.int .i64 (x : Int)) := by rw [hW]; exact cell_one_new w (.int .i64 x) 3 0 _ rfl
  have hlt : w.heap.size < W.heap.size := by rw [hW]; simp
  clear hW
  have hzw := hb.size
  have HB := Lib.hid hb
  have hg := M.gainsTo_len m s G
  have CI := indexG_any 114 #[.pointer (some ⟨w.heap.size, 0, none⟩)] (M.bitB x) (enters_of Try.func114 (by kernel_rfl) rfl) W lo hi a c (M.gainsTo m s G) (fun W' q hb' => roundOf1_any w.heap.size x q W' ((hb'.cell (p := ⟨w.heap.size, 0, none⟩) hlt).trans hc) (Nat.lt_of_lt_of_le hlt hb'.size) hx) (H.out.below hb hz) (by omega) (by omega)
  rw [hg] at CI
  refine CI.mono ?_
  rintro e w2 ⟨⟨i, rfl, hi⟩, hb2⟩
  have HB2 := Lib.hid (HB.out.trans (hb2.mono hzw))
  clear hb2 hb CI
  rcases HIE.out i hi with ⟨rfl, he⟩ | ⟨k, rfl, he, hk⟩
  · have HE := Lib.hid he
    clear hi he
    go_wp2_with fail
    go_ret
    exact ⟨by rw [HE.out]; rfl, HB2.out⟩
  · have HE := Lib.hid he
    clear hi he
    go_wp2_with fail
    all_goals
      go_ret
      exact ⟨by rw [HE.out]; simp; try omega, HB2.out⟩
end C
end Go.Proofs.Ytoiapfdlbkncaaa
namespace Go.Proofs.Ytoiapfdlbkncaaa
open Go.RowKit
namespace C
set_option maxHeartbeats 3200000
set_option maxRecDepth 20000
def ClosePost (w : World) (s : Int) (l : List Int) (e : Ending) (w' : World) : Prop :=
  ∃ a c, e = .returned (.tuple #[.int .i64 s, .slice a l.length c]) ∧ OwnAt w.heap.size w'.heap.size w' 3 a (M.encIs l) ∧ l.length ≤ c ∧ c ≤ 9223372036854775807 ∧ Below w.heap.size w w'
theorem close_any (w : World) (lo hi : Nat) (m : M.Mz) (a b : Option Addr) (c d : Nat) (h : MzIn lo hi w m a c b d) (hz : hi ≤ w.heap.size) (V : M.Valid m) (s : Int) (h0 : 0 ≤ s) (h1 : s < 64) :
    Calls Try.prog 75 #[.agg #[.int .i64 m.size, .slice a m.doors.length c, .slice b m.keys.length d], .int .i64 s] w (ClosePost w (M.finC m s) (M.reachOf m 0 (M.finC m s))) := by
  have H := Lib.hid h
  have HVA := Lib.hid V
  have hkl := V.keysLen
  have v12 := V.size12
  have v1 := V.size1
  have hlk := M.lastK_le m s
  have HLI := Lib.hid (fun (k : Nat) (hk : k ≤ M.lastK m s) => M.last_iff V ⟨h0, h1⟩ hk)
  have HIT := Lib.hid (fun k => M.it_set V ⟨h0, h1⟩ k)
  clear h V
  go_enter Try.func75, Try.ntmps75
  go_wp2_with fail
  go_loopw [1, 6, 7, 8] (fun v1 _ _ _ wr => ∃ (k : Nat), k ≤ M.lastK m s ∧ v1 = .int .i64 (M.it m s k) ∧ Box3 wr w.heap.size 29 (.int .i64 m.size) (.slice a m.doors.length c) (.slice b m.keys.length d) ∧ Below w.heap.size w wr) (fun v1 _ _ _ _ => 64 - (intOf v1).toNat)
  case atStart => exact ⟨0, Nat.zero_le _, rfl, Box3.new _ _ _ _ rfl, below_alloc _ _⟩
  case round =>
    obtain ⟨k, hk, rfl, hx, hlow⟩ := hrel
    have X7 := Lib.hid hx
    have B7 := Lib.hid hlow
    have hzr := hlow.size
    have hbl := hx.lt
    obtain ⟨c0, c1, c2⟩ := hx.cells
    obtain ⟨i0, i1⟩ := HIT.out k
    obtain ⟨j0, j1⟩ := HIT.out (k + 1)
    have HPC := Lib.hid (HLI.out k hk)
    have HNX : Hid (M.gath m (M.reachOf m 0 (M.it m s k)) (M.it m s k) = M.it m s (k + 1)) := Lib.hid rfl
    have hle := M.it_le HVA.out ⟨h0, h1⟩ k
    have HFC : Hid (k = M.lastK m s → M.it m s k = M.finC m s) := Lib.hid (fun e => by unfold M.finC; rw [← e])
    clear hx hlow
    generalize hs0 : M.it m s k = s0 at *
    have HS0 := Lib.hid hs0
    clear hs0
    go_wp2_with fail
    refine (reach_any wr lo hi m a b c d (H.out.below B7.out hz) (by omega) HVA.out 0 s0 (Int.le_refl _) (by omega) i0 i1).mono ?_
    rintro e w1 ⟨ra, rc, rfl, ho, ho1, ho2, hb1⟩
    have HN := Lib.hid (fun y hy => M.reach_node HVA.out (s := s0) (y := y) hy)
    have hlen : (M.reachOf m 0 s0).length ≤ 12 := M.rchL_len _ _ _
    generalize hLL : M.reachOf m 0 s0 = L at *
    have HLL := Lib.hid hLL
    have HO := Lib.hid ho
    have X8 := Lib.hid (X7.out.below hb1)
    have B8 := Lib.hid (B7.out.trans (hb1.mono hzr))
    have hz1 := hb1.size
    clear hLL ho hb1 c0 c1 c2
    go_wp2_with fail
    go_loopw [7, 8] (fun v7 v8 wr => ∃ (i : Nat), i ≤ L.length ∧ v8 = .int .i64 i ∧ v7 = .int .i64 (M.gath m (L.take i) s0) ∧ Below w1.heap.size w1 wr) (fun _ v8 _ => L.length - (intOf v8).toNat)
    case atStart => exact ⟨0, Nat.zero_le _, rfl, rfl, Below.refl _ _⟩
    case round =>
      obtain ⟨i, hi', rfl, rfl, hni⟩ := hrel
      have HI := Lib.hid hni
      have hzi := hni.size
      clear hni
      by_cases hil : i < L.length
      · obtain ⟨lb, loff, hla, hlb1, hlb2, hlc⟩ := (HO.out.below HI.out (Nat.le_refl _)).row.at_ (k := i) (by rw [M.encIs_len]; exact hil)
        have lx := hlc _ _ (M.encIs_at hil)
        obtain ⟨y0, y1⟩ := HN.out L[i] (List.getElem_mem hil)
        obtain ⟨j, hj⟩ : ∃ j : Nat, L[i] = (j : Int) := ⟨L[i].toNat, by omega⟩
        have hjl : j < m.keys.length := by omega
        obtain ⟨ib, ioff, hib, _, hib2, hic⟩ := H.out.keys.at_ (k := j) (by rw [M.encIs_len]; exact hjl)
        subst hib
        have kx : wr.cell? ⟨ib, ioff + j, none⟩ = some (.int .i64 m.keys[j]) := ((B8.out.trans (HI.out.mono B8.out.size)).cell (p := ⟨ib, ioff + j, none⟩) (show ib < w.heap.size by omega)).trans (hic _ _ (M.encIs_at hjl))
        have hgt : Hid (M.gath m (L.take (i + 1)) s0 = bits .or .i64 (M.gath m (L.take i) s0) m.keys[j]) := Lib.hid (by rw [M.gath_take hil, hj, Int.toNat_natCast, List.getD_eq_getElem?_getD, List.getElem?_eq_getElem hjl]; rfl)
        rw [hj] at lx
        subst hla
        have hjd : j < d := by have := H.out.d1; omega
        have x9 := X8.out.below HI.out
        obtain ⟨c0, c1, c2⟩ := x9.cells
        have hbl9 := x9.lt
        have E2 := cell_grown hbl9 c2
        have E3 := cell_grown (a := ⟨lb, loff + i, none⟩) (show lb < wr.heap.size by omega) lx
        have E4 := cell_grown (a := ⟨ib, ioff + j, none⟩) (show ib < wr.heap.size by omega) kx
        clear hlc hic y0 y1 hj x9
        have mixed : Try.prog.follows .mixedOrders = true := by kernel_rfl
        have hil' : ((i : Nat) : Int) < ((L.length : Nat) : Int) := by omega
        go_wp2_with fail
        refine wp_region_quiet_grown (by assumption) (by kernel_rfl) ?_
        repeat (first | go_big_quiet_step (fail) | quiet_step (fail))
        refine wpQuiet_nil ?_
        intro _ hw'
        obtain ⟨⟨nq, osq⟩, hw''⟩ := hw'
        subst hw''
        go_wp2_with fail
        go_roundw
        case rel => exact ⟨i + 1, by omega, by go_num, by rw [hgt.out], HI.out.trans ((below_grown wr nq osq).mono hzi)⟩
        case measure => simp [intOf]; omega
      · obtain rfl : i = L.length := by omega
        rw [List.take_of_length_le (Nat.le_refl _), HNX.out]
        by_cases hkk : k = M.lastK m s
        · have hEQ : Hid (M.it m s (k + 1) = s0) := Lib.hid (by rw [HPC.out.2 hkk])
          have HF := Lib.hid (HFC.out hkk)
          rw [hEQ.out]
          clear hkk
          go_wp2_with fail
          go_ret2
          rw [← HF.out, HLL.out]
          exact ⟨_, _, rfl, ((HO.out.below HI.out (Nat.le_refl _)).mono (by omega) hzi), ho1, ho2, B8.out.trans (HI.out.mono B8.out.size)⟩
        · have hne : (M.it m s (k + 1) == s0) = false := by rw [beq_eq_false_iff_ne]; exact fun e => hkk (HPC.out.1 e)
          have hne2 : ¬ M.it m s (k + 1) = s0 := fun e => hkk (HPC.out.1 e)
          go_wp2_with fail
          go_roundw
          case rel => exact ⟨k + 1, by omega, rfl, X8.out.below HI.out, B8.out.trans (HI.out.mono B8.out.size)⟩
          case measure => simp [intOf]; omega
end C
end Go.Proofs.Ytoiapfdlbkncaaa
namespace Go.Proofs.Ytoiapfdlbkncaaa
open Go.RowKit
namespace C
def sliceL : Value → Nat
  | .slice _ n _ => n
  | _ => 0
set_option maxHeartbeats 3200000
set_option maxRecDepth 20000
theorem rounds_any (w : World) (lo hi : Nat) (m : M.Mz) (a b : Option Addr) (c d : Nat) (h : MzIn lo hi w m a c b d) (hz : hi ≤ w.heap.size) (V : M.Valid m) (s : Int) (h0 : 0 ≤ s) (h1 : s < 64) :
    Calls Try.prog 72 #[.agg #[.int .i64 m.size, .slice a m.doors.length c, .slice b m.keys.length d], .int .i64 s] w (IntsPost w (M.setsTo m s (M.lastK m s))) := by
  obtain ⟨ii0, hi0, hz0, hzz1, hz2⟩ := info_parts infoI
  have H := Lib.hid h
  have HVA := Lib.hid V
  have hkl := V.keysLen
  have v12 := V.size12
  have v1 := V.size1
  have hlk := M.lastK_le m s
  have HLI := Lib.hid (fun (k : Nat) (hk : k ≤ M.lastK m s) => M.last_iff V ⟨h0, h1⟩ hk)
  have HIT := Lib.hid (fun k => M.it_set V ⟨h0, h1⟩ k)
  clear h V
  go_enter Try.func72, Try.ntmps72
  go_wp2_with fail
  refine wp_named ?_
  intro W hW
  have hb : Below w.heap.size w W := by rw [hW]; exact (below_alloc _ _).alloc (by simp) _
  have x1 : Box3 W w.heap.size 29 (.int .i64 m.size) (.slice a m.doors.length c) (.slice b m.keys.length d) := by rw [hW]; exact (Box3.new _ _ _ _ rfl).alloc _
  have o1 : W.ownsRow w.heap.size 3 1 (.slice (some ⟨w.heap.size + 1, 0, none⟩) 1 1) 1 (M.encIs (M.setsTo m s 0)) := by
    rw [hW]
    have := ownsRow_one (w.alloc (.cells #[.int .i64 m.size, .slice a m.doors.length c, .slice b m.keys.length d] 29)) w.heap.size 3 (.int .i64 s) (by simp)
    rw [World.size_alloc] at this
    exact this
  clear hW
  have X1 := Lib.hid x1
  have O1 := Lib.hid o1
  have HB := Lib.hid hb
  clear x1 o1 hb
  go_loopw [5, 6, 7, 8, 9] (fun v5 _ _ _ _ wr => ∃ (k : Nat), k ≤ M.lastK m s ∧ wr.ownsRow w.heap.size 3 1 v5 (k + 1) (M.encIs (M.setsTo m s k)) ∧ Box3 wr w.heap.size 29 (.int .i64 m.size) (.slice a m.doors.length c) (.slice b m.keys.length d) ∧ Below w.heap.size w wr) (fun v5 _ _ _ _ _ => 70 - sliceL v5)
  case atStart => exact ⟨0, Nat.zero_le _, O1.out, X1.out, HB.out⟩
  case round =>
    obtain ⟨k, hk, hso, hx, hlow⟩ := hrel
    obtain ⟨la, lc, hv, hl1, hl2, hlr⟩ := own_slice hso
    subst hv
    have SO := Lib.hid hso
    obtain ⟨sb, soff, hsa, _, _, hsc⟩ := hlr.row.at_ (k := k) (by rw [M.encIs_len, M.setsTo_len]; omega)
    have sx : wr.cell? ⟨sb, soff + k, none⟩ = some (.int .i64 (M.it m s k)) := hsc _ _ (by unfold M.encIs; rw [List.getElem?_map, M.setsTo_at (by omega)]; rfl)
    subst hsa
    have X7 := Lib.hid hx
    have B7 := Lib.hid hlow
    have hzr := hlow.size
    have hbl := hx.lt
    obtain ⟨c0, c1, c2⟩ := hx.cells
    obtain ⟨i0, i1⟩ := HIT.out k
    obtain ⟨j0, j1⟩ := HIT.out (k + 1)
    have HPC := Lib.hid (HLI.out k hk)
    have HNX : Hid (M.gath m (M.reachOf m 0 (M.it m s k)) (M.it m s k) = M.it m s (k + 1)) := Lib.hid rfl
    clear hso hx hlow hlr hsc
    generalize hs0 : M.it m s k = s0 at *
    have HS0 := Lib.hid hs0
    clear hs0
    go_wp2_with fail
    refine (reach_any wr lo hi m a b c d (H.out.below B7.out hz) (by omega) HVA.out 0 s0 (Int.le_refl _) (by omega) i0 i1).mono ?_
    rintro e w1 ⟨ra, rc, rfl, ho, ho1, ho2, hb1⟩
    have SO8 := Lib.hid (own_below SO.out hb1)
    have HN := Lib.hid (fun y hy => M.reach_node HVA.out (s := s0) (y := y) hy)
    have hlen : (M.reachOf m 0 s0).length ≤ 12 := M.rchL_len _ _ _
    generalize hLL : M.reachOf m 0 s0 = L at *
    have HLL := Lib.hid hLL
    have HO := Lib.hid ho
    have X8 := Lib.hid (X7.out.below hb1)
    have B8 := Lib.hid (B7.out.trans (hb1.mono hzr))
    have hz1 := hb1.size
    clear hLL ho hb1 c0 c1 c2 sx
    go_wp2_with fail
    go_loopw [8, 9] (fun v7 v8 wr => ∃ (i : Nat), i ≤ L.length ∧ v8 = .int .i64 i ∧ v7 = .int .i64 (M.gath m (L.take i) s0) ∧ Below w1.heap.size w1 wr) (fun _ v8 _ => L.length - (intOf v8).toNat)
    case atStart => exact ⟨0, Nat.zero_le _, rfl, rfl, Below.refl _ _⟩
    case round =>
      obtain ⟨i, hi', rfl, rfl, hni⟩ := hrel
      have HI := Lib.hid hni
      have hzi := hni.size
      clear hni
      by_cases hil : i < L.length
      · obtain ⟨lb, loff, hla, hlb1, hlb2, hlc⟩ := (HO.out.below HI.out (Nat.le_refl _)).row.at_ (k := i) (by rw [M.encIs_len]; exact hil)
        have lx := hlc _ _ (M.encIs_at hil)
        obtain ⟨y0, y1⟩ := HN.out L[i] (List.getElem_mem hil)
        obtain ⟨j, hj⟩ : ∃ j : Nat, L[i] = (j : Int) := ⟨L[i].toNat, by omega⟩
        have hjl : j < m.keys.length := by omega
        obtain ⟨ib, ioff, hib, _, hib2, hic⟩ := H.out.keys.at_ (k := j) (by rw [M.encIs_len]; exact hjl)
        subst hib
        have kx : wr.cell? ⟨ib, ioff + j, none⟩ = some (.int .i64 m.keys[j]) := ((B8.out.trans (HI.out.mono B8.out.size)).cell (p := ⟨ib, ioff + j, none⟩) (show ib < w.heap.size by omega)).trans (hic _ _ (M.encIs_at hjl))
        have hgt : Hid (M.gath m (L.take (i + 1)) s0 = bits .or .i64 (M.gath m (L.take i) s0) m.keys[j]) := Lib.hid (by rw [M.gath_take hil, hj, Int.toNat_natCast, List.getD_eq_getElem?_getD, List.getElem?_eq_getElem hjl]; rfl)
        rw [hj] at lx
        subst hla
        have hjd : j < d := by have := H.out.d1; omega
        have x9 := X8.out.below HI.out
        obtain ⟨c0, c1, c2⟩ := x9.cells
        have hbl9 := x9.lt
        have E2 := cell_grown hbl9 c2
        have E3 := cell_grown (a := ⟨lb, loff + i, none⟩) (show lb < wr.heap.size by omega) lx
        have E4 := cell_grown (a := ⟨ib, ioff + j, none⟩) (show ib < wr.heap.size by omega) kx
        clear hlc hic y0 y1 hj x9
        have mixed : Try.prog.follows .mixedOrders = true := by kernel_rfl
        have hil' : ((i : Nat) : Int) < ((L.length : Nat) : Int) := by omega
        go_wp2_with fail
        refine wp_region_quiet_grown (by assumption) (by kernel_rfl) ?_
        repeat (first | go_big_quiet_step (fail) | quiet_step (fail))
        refine wpQuiet_nil ?_
        intro _ hw'
        obtain ⟨⟨nq, osq⟩, hw''⟩ := hw'
        subst hw''
        go_wp2_with fail
        go_roundw
        case rel => exact ⟨i + 1, by omega, by go_num, by rw [hgt.out], HI.out.trans ((below_grown wr nq osq).mono hzi)⟩
        case measure => simp [intOf]; omega
      · obtain rfl : i = L.length := by omega
        rw [List.take_of_length_le (Nat.le_refl _), HNX.out]
        have SO9 := Lib.hid (own_below SO8.out HI.out)
        have X9 := Lib.hid (X8.out.below HI.out)
        have B9 := Lib.hid (B8.out.trans (HI.out.mono B8.out.size))
        by_cases hkk : k = M.lastK m s
        · have hEQ : Hid (M.it m s (k + 1) = s0) := Lib.hid (by rw [HPC.out.2 hkk])
          have HK := Lib.hid hkk
          rw [hEQ.out]
          clear hkk
          go_wp2_with fail
          go_ret
          rw [← HK.out]
          have hfin := SO9.out
          have hsl := M.setsTo_len m s k
          rw [← hsl] at hfin ⊢
          exact ints_end hfin B9.out
        · have hne : (M.it m s (k + 1) == s0) = false := by rw [beq_eq_false_iff_ne]; exact fun e => hkk (HPC.out.1 e)
          have hne2 : ¬ M.it m s (k + 1) = s0 := fun e => hkk (HPC.out.1 e)
          have HK := Lib.hid hkk
          have HNE := Lib.hid (own_ne_box SO9.out X9.out (by decide))
          have HGS := Lib.hid (M.setsTo_succ m s k)
          clear hkk
          generalize M.it m s (k + 1) = s1 at *
          go_wp2_with (at_builtin; refine wpList_append_own _ rfl _ _ 23 rfl w.heap.size 3 ii0 (.int .i64 0) 1 8 Try.underlying23 hi0 hz0 hzz1 hz2 rfl (by decide) _ _ _ rfl (SO9.out.alloc _) ⟨wr.heap.size, 0, none⟩ 1 1 [.int .i64 s1] rfl rfl (cell_one_new _ _ _) (fun x hx => by simp at hx; subst hx; rfl) (by unfold maxLen; omega) (by omega) (by simp; omega) ?_; intro v' w3 hown' hgrow3 hnil3)
          obtain ⟨va, vc, hva, _, _, _⟩ := own_slice hown'
          subst hva
          refine ⟨⟨k + 1, by have := HK.out; omega, ?_, (X9.out.alloc _).grown hgrow3 HNE.out, (B9.out.alloc (by have := B9.out.size; omega) _).grown hgrow3 (by have := B9.out.size; simp; omega) (own_base SO9.out)⟩, by simp [sliceL]; omega⟩
          rw [HGS.out, M.encIs_append]
          exact hown'
end C
end Go.Proofs.Ytoiapfdlbkncaaa
namespace Go.Proofs.Ytoiapfdlbkncaaa
open Go.RowKit
namespace C
set_option maxHeartbeats 3200000
set_option maxRecDepth 20000
theorem made_zero (n : Nat) : (madeCells (Value.int .i64 0).cells (n * 1)).toList = M.encIs (List.replicate n 0) := by
  refine List.ext_getElem? fun k => ?_
  unfold madeCells M.encIs
  rcases Nat.lt_or_ge k n with h | h
  · simp [h, Value.cells, Nat.mod_one]
  · simp [h]
theorem make_run {i : TypeInfo} (hi : Try.prog.info? 3 = some i) (hz : i.zero = some (.int .i64 0)) (hs : i.size = 1) (hb : i.bytes = 8) {x : Int} {n : Nat} (hx : x = (n : Int)) (hn : n ≤ 1000) : ∃ zs : Array Value, zs.size = n ∧ zs.toList = M.encIs (List.replicate n 0) ∧ ∀ w : World,
    (Instr.makeSlice 23 (.int .i64 x) (.int .i64 x)).run Try.prog w = .ok (.slice (some ⟨w.heap.size, 0, none⟩) n n) (w.alloc (.cells zs 3)) := by
  subst hx
  refine ⟨madeCells (Value.int .i64 0).cells (n * 1), by rw [size_madeCells]; omega, made_zero n, fun w => ?_⟩
  have := run_make (P := Try.prog) w 23 3 i (.int .i64 0) Try.underlying23 hi hz .i64 .i64 n n (by omega) (Int.le_refl _) (by rw [hb]; omega) (by omega)
  rw [Int.toNat_natCast, hs] at this
  exact this
theorem own_made {w : World} {B n : Nat} {zs : Array Value} (hs : zs.size = n) (hn : n ≤ 1000) (hB : B ≤ w.heap.size) : (w.alloc (.cells zs 3)).ownsRow B 3 1 (.slice (some ⟨w.heap.size, 0, none⟩) n n) n zs.toList :=
  ⟨by simp [hs], .inr ⟨w.heap.size, n, zs, rfl, hB, heap_alloc_new w _, Nat.le_refl _, by unfold maxLen; omega, by simp [hs], by rw [List.take_of_length_le (by simp [hs])]⟩⟩
/-- a row at its block's head lies in that block -/
theorem OwnAt.of_own0 {w : World} {base size n c g : Nat} {T : TypeId} {xs : List Value} (h : w.ownsRow base T size (.slice (some ⟨g, 0, none⟩) n c) n xs) : OwnAt g (g + 1) w T (some ⟨g, 0, none⟩) xs := by
  rcases OwnAt.of_own h with h | ⟨b, off, cur, ha, _, _, hh, hc⟩
  · exact .inl h
  · injection ha with ha
    injection ha with e1 e2 _
    subst e1; subst e2
    exact .inr ⟨g, 0, cur, rfl, Nat.le_refl _, Nat.lt_succ_self _, hh, hc⟩
theorem entered_any (w : World) (lo hi : Nat) (m : M.Mz) (a b : Option Addr) (c d : Nat) (h : MzIn lo hi w m a c b d) (hz : hi ≤ w.heap.size) (V : M.Valid m) (s : Int) (h0 : 0 ≤ s) (h1 : s < 64) :
    Calls Try.prog 78 #[.agg #[.int .i64 m.size, .slice a m.doors.length c, .slice b m.keys.length d], .int .i64 s] w (IntsPost w (M.nodeRounds m s (M.lastK m s + 1))) := by
  obtain ⟨ii0, hi0, hz0, hzz1, hz2⟩ := info_parts infoI
  have H := Lib.hid h
  have HVA := Lib.hid V
  have hkl := V.keysLen
  have v12 := V.size12
  have v1 := V.size1
  have hlk := M.lastK_le m s
  have HIT := Lib.hid (fun k => M.it_set V ⟨h0, h1⟩ k)
  clear h V
  obtain ⟨n, hn⟩ : ∃ n : Nat, m.size = (n : Int) := ⟨m.size.toNat, by omega⟩
  have hn12 : n ≤ 12 := by omega
  have HNS := Lib.hid hn
  clear hn
  go_enter Try.func78, Try.ntmps78
  go_upto_region 1 with fail
  refine wp_named ?_
  intro W hW
  have hb : Below w.heap.size w W := by rw [hW]; exact below_alloc _ _
  have x1 : Box3 W w.heap.size 29 (.int .i64 m.size) (.slice a m.doors.length c) (.slice b m.keys.length d) := by rw [hW]; exact Box3.new _ _ _ _ rfl
  clear hW
  have hzw := hb.size
  have HB := Lib.hid hb
  have X1 := Lib.hid x1
  have HRO := Lib.hid (fun W' (hq : Below W.heap.size W W') => rounds_any W' lo hi m a b c d (H.out.below (HB.out.trans (hq.mono (by omega))) hz) (by have := hq.size; omega) HVA.out s h0 h1)
  obtain ⟨d0, d1, d2⟩ := x1.cells
  obtain ⟨zs, hzs1, hzs2, hmr⟩ := make_run hi0 hz0 hzz1 hz2 HNS.out (by omega)
  clear hb x1
  go_cut [5, 6] (fun s5 s6 wx => ∃ g lo2 hi2 ra rc, s5 = .slice (some ⟨g, 0, none⟩) n n ∧ s6 = .slice ra (M.lastK m s + 1) rc ∧ OwnAt g (g + 1) wx 3 (some ⟨g, 0, none⟩) (M.encIs (M.nodeRounds m s 0)) ∧ OwnAt lo2 hi2 wx 3 ra (M.encIs (M.setsTo m s (M.lastK m s))) ∧ (g < lo2 ∨ hi2 ≤ g) ∧ hi2 ≤ wx.heap.size ∧ g < wx.heap.size ∧ W.heap.size ≤ g ∧ W.heap.size ≤ lo2 ∧ M.lastK m s + 1 ≤ rc ∧ rc ≤ 9223372036854775807 ∧ Below W.heap.size W wx)
  case first =>
    go_region_held3 (fun wq => wq.cell? ⟨w.heap.size, 0, none⟩ = some (.int .i64 m.size) ∧ wq.cell? ⟨w.heap.size, 1, none⟩ = some (.slice a m.doors.length c) ∧ wq.cell? ⟨w.heap.size, 2, none⟩ = some (.slice b m.keys.length d)) (first | exact ⟨d0, d1, d2⟩ | go_keep) (first
      | (go_at_call 72; refine (HRO.out W.drew (Below.refl W.heap.size W).drew).mono ?_; rintro e w5 ⟨ra, rc, rfl, ho, ho1, ho2, hb5⟩; have hb5' : Below W.heap.size W w5 := (Below.refl W.heap.size W).drew.trans hb5; obtain ⟨d0, d1, d2⟩ := (X1.out.below hb5').cells; have hz5 := hb5'.size)
      | (go_at_call 72; refine (HRO.out (W.drew.alloc (.cells zs 3)) ((Below.refl W.heap.size W).drew.alloc (Nat.le_refl _) _)).mono ?_; rintro e w5 ⟨ra, rc, rfl, ho, ho1, ho2, hb5⟩; have hb5' : Below W.heap.size W w5 := ((Below.refl W.heap.size W).drew.alloc (Nat.le_refl _) _).trans (hb5.mono (by simp)); obtain ⟨d0, d1, d2⟩ := (X1.out.below hb5').cells; have hz5 := hb5'.size))
    all_goals
      go_wp2_with fail
      go_meet
      rw [M.setsTo_len] at ho1
      have hnr : M.encIs (M.nodeRounds m s 0) = zs.toList := by rw [hzs2, M.nodeRounds0 HNS.out]
      rw [hnr]
      first
        | exact ⟨W.heap.size, W.heap.size + 1, w5.heap.size, ra, rc, rfl, by rw [M.setsTo_len], ((OwnAt.of_own0 (own_made (w := W.drew) (B := 0) hzs1 (by omega) (Nat.zero_le _))).mono (Nat.le_refl _) (by simp)).below hb5 (by simp), ho.mono (by simp) (Nat.le_refl _), .inl (Nat.lt_succ_self _), Nat.le_refl _, by have := hb5.size; simp at this; omega, Nat.le_refl _, Nat.le_succ _, ho1, ho2, hb5'⟩
        | exact ⟨w5.heap.size, W.heap.size, w5.heap.size, ra, rc, rfl, by rw [M.setsTo_len], (OwnAt.of_own0 (own_made (w := w5) (B := 0) hzs1 (by omega) (Nat.zero_le _))).mono (Nat.le_refl _) (Nat.le_refl _), ((ho.mono (by simp) (Nat.le_refl _)).below (below_alloc _ _) (Nat.le_refl _)), .inr (Nat.le_refl _), by simp, by simp, hz5, Nat.le_refl _, ho1, ho2, hb5'.alloc hz5 _⟩
  case rest =>
    obtain ⟨g, lo2, hi2, ra, rc, rfl, rfl, hout, hset, hdis, hhi, hgl, hgW, hlW, hrc1, hrc2, hbc⟩ := hcut
    have X2 := Lib.hid (X1.out.below hbc)
    have HBC := Lib.hid hbc
    have hwc := hbc.size
    have OUT := Lib.hid hout
    have SET := Lib.hid hset
    have hwl := X1.out.lt
    clear hbc hout hset d0 d1 d2 hmr hzs2
    go_wp2_with fail
    go_loopw [7, 8, 9] (fun v7 _ _ wr => ∃ (r : Nat), r ≤ M.lastK m s + 1 ∧ v7 = .int .i64 r ∧ OwnAt g (g + 1) wr 3 (some ⟨g, 0, none⟩) (M.encIs (M.nodeRounds m s r)) ∧ OwnAt lo2 hi2 wr 3 ra (M.encIs (M.setsTo m s (M.lastK m s))) ∧ Box3 wr w.heap.size 29 (.int .i64 m.size) (.slice a m.doors.length c) (.slice b m.keys.length d) ∧ Below W.heap.size W wr ∧ wc.heap.size ≤ wr.heap.size) (fun v7 _ _ _ => M.lastK m s + 1 - (intOf v7).toNat)
    case atStart => exact ⟨0, Nat.zero_le _, rfl, OUT.out, SET.out, X2.out, HBC.out, Nat.le_refl _⟩
    case round =>
      obtain ⟨r, hr, rfl, ho3, hs3, hx3, hb3, hsz3⟩ := hrel
      have O3 := Lib.hid ho3
      have S3 := Lib.hid hs3
      have X3 := Lib.hid hx3
      have B3 := Lib.hid hb3
      clear ho3 hs3 hx3 hb3
      by_cases hrl : r < M.lastK m s + 1
      · obtain ⟨sb, soff, hsa, hsb1, hsb2, hsc⟩ := S3.out.row.at_ (k := r) (by rw [M.encIs_len, M.setsTo_len]; exact hrl)
        have sx : wr.cell? ⟨sb, soff + r, none⟩ = some (.int .i64 (M.it m s r)) := hsc _ _ (by unfold M.encIs; rw [List.getElem?_map, M.setsTo_at hrl]; rfl)
        subst hsa
        obtain ⟨c0, c1, c2⟩ := X3.out.cells
        obtain ⟨i0, i1⟩ := HIT.out r
        have hmA := M.midR_all m s r
        have HMA := Lib.hid hmA
        have HMN := Lib.hid (M.midR_nil m s r)
        have hsb3 : sb < wr.heap.size := by omega
        clear hsc hmA
        generalize hs0 : M.it m s r = s0 at *
        have HRE := Lib.hid (fun W' (hq : Below wr.heap.size wr W') => reach_any W' lo hi m a b c d (H.out.below (HB.out.trans ((B3.out.trans (hq.mono (by omega))).mono hzw)) hz) (by have := hq.size; omega) HVA.out 0 s0 (Int.le_refl _) (by omega) i0 i1)
        have HN := Lib.hid (fun y hy => M.reach_node HVA.out (s := s0) (y := y) hy)
        have hlen : (M.reachOf m 0 s0).length ≤ 12 := M.rchL_len _ _ _
        generalize M.reachOf m 0 s0 = L at *
        clear hs0
        go_wp2_with fail
        go_cut [8] (fun s8 wx => ∃ qa qc, s8 = .slice qa L.length qc ∧ OwnAt wr.heap.size wx.heap.size wx 3 qa (M.encIs L) ∧ L.length ≤ qc ∧ qc ≤ 9223372036854775807 ∧ Below wr.heap.size wr wx)
        case first =>
          go_region_held3 (fun wq => wq.cell? ⟨w.heap.size, 0, none⟩ = some (.int .i64 m.size) ∧ wq.cell? ⟨w.heap.size, 1, none⟩ = some (.slice a m.doors.length c) ∧ wq.cell? ⟨w.heap.size, 2, none⟩ = some (.slice b m.keys.length d) ∧ wq.cell? ⟨sb, soff + r, none⟩ = some (.int .i64 s0)) (first | exact ⟨c0, c1, c2, sx⟩ | go_keep) (first
            | (go_at_call 62; refine (HRE.out wr.drew (Below.refl wr.heap.size wr).drew).mono ?_; rintro e w5 ⟨qa, qc, rfl, hq, hq1, hq2, hb5⟩; have hb5' : Below wr.heap.size wr w5 := (Below.refl wr.heap.size wr).drew.trans hb5; obtain ⟨c0, c1, c2⟩ := (X3.out.below hb5').cells; have sx := (hb5'.cell (p := ⟨sb, soff + r, none⟩) hsb3).trans sx))
          all_goals
            go_wp2_with fail
            go_meet
            exact ⟨qa, qc, rfl, hq, hq1, hq2, hb5'⟩
        case rest =>
          obtain ⟨qa, qc, rfl, hq, hq1, hq2, hb4⟩ := hcut
          have hz4 := hb4.size
          have Q4 := Lib.hid hq
          have O4 := Lib.hid (show OwnAt g (g + 1) wc 3 (some ⟨g, 0, none⟩) (M.encIs (M.midR m s r (L.take 0))) from by rw [List.take_zero, HMN.out]; exact O3.out.below hb4 (by omega))
          have S4 := Lib.hid (S3.out.below hb4 (by omega))
          have X4 := Lib.hid (X3.out.below hb4)
          have B4 := Lib.hid (B3.out.trans (hb4.mono B3.out.size))
          clear hq hb4 c0 c1 c2 sx
          have hmn : m.size.toNat = n := by rw [HNS.out]; rfl
          go_wp2_with fail
          go_loopw [9] (fun v9 wx => ∃ (i : Nat), i ≤ L.length ∧ v9 = .int .i64 i ∧ OwnAt g (g + 1) wx 3 (some ⟨g, 0, none⟩) (M.encIs (M.midR m s r (L.take i))) ∧ Turned g (g + 1) wc wx) (fun v9 _ => L.length - (intOf v9).toNat)
          case atStart => exact ⟨0, Nat.zero_le _, rfl, O4.out, Turned.refl _ _ _⟩
          case round =>
            obtain ⟨i, hi', rfl, hox, htx⟩ := hrel
            have OX := Lib.hid hox
            have TX := Lib.hid htx
            have htz := htx.size
            clear hox htx
            by_cases hil : i < L.length
            · obtain ⟨lb, loff, hla, hlb1, hlb2, hlc⟩ := (Q4.out.turned TX.out (Nat.le_refl _) (.inr (by omega))).row.at_ (k := i) (by rw [M.encIs_len]; exact hil)
              have lx := hlc _ _ (M.encIs_at hil)
              obtain ⟨y0, y1⟩ := HN.out L[i] (List.getElem_mem hil)
              obtain ⟨j, hj⟩ : ∃ j : Nat, L[i] = (j : Int) := ⟨L[i].toNat, by omega⟩
              have hjn : j < n := by have := HNS.out; omega
              have hjs : j < m.size.toNat := by omega
              have HJ := Lib.hid hj
              rw [hj] at lx
              subst hla
              obtain ⟨u, hu, ox, fx⟩ := OX.out.cell0 (k := j) (by rw [M.encIs_len, M.midR_len]; exact hjs)
              have hue : u = .int .i64 (M.vR m s r (L.take i) j) := by
                unfold M.encIs at hu
                rw [List.getElem?_map, M.midR_at hjs] at hu
                injection hu with hu
                exact hu.symm
              subst hue
              clear hlc y0 y1 hj hu
              by_cases hv : M.vR m s r (L.take i) j = 0
              · have hst := OX.out.set0 j (.int .i64 ((r : Int) + 1))
                rw [← encIs_set, show ((r : Int) + 1) = ((r + 1 : Nat) : Int) by omega, ← M.mid_yes hil HJ.out hjs hv] at hst
                rw [show ((r + 1 : Nat) : Int) = (r : Int) + 1 by omega] at hst
                have HST := Lib.hid hst
                rw [hv] at ox
                clear hst hv
                go_wp2_with fail
                go_roundw
                case rel => exact ⟨i + 1, by omega, by go_num, HST.out, TX.out.trans (Turned.setCell _ _ _ _ (Nat.le_refl _) (Nat.lt_succ_self _))⟩
                case measure => simp [intOf]; omega
              · have HM := Lib.hid (M.mid_no hil HJ.out hv)
                have hvb : (M.vR m s r (L.take i) j == 0) = false := by rw [beq_eq_false_iff_ne]; exact hv
                generalize M.vR m s r (L.take i) j = vv at *
                go_wp2_with fail
                go_roundw
                case rel => exact ⟨i + 1, by omega, by go_num, by rw [HM.out]; exact OX.out, TX.out⟩
                case measure => simp [intOf]; omega
            · obtain rfl : i = L.length := by omega
              go_wp2_with fail
              go_roundw
              case rel =>
                refine ⟨r + 1, by omega, by go_num, ?_, S4.out.turned TX.out (by omega) (by omega), X4.out.turned TX.out (.inl (by omega)), Below.thenTurned B4.out TX.out (by omega) B4.out.size, by omega⟩
                rw [← HMA.out]
                have := OX.out
                rw [List.take_of_length_le (Nat.le_refl _)] at this
                exact this
              case measure => simp [intOf]; omega
      · obtain rfl : r = M.lastK m s + 1 := by omega
        have hln := M.nodeRounds_len m s (M.lastK m s + 1)
        have hmn : m.size.toNat = n := by rw [HNS.out]; rfl
        rw [hmn] at hln
        have HL := Lib.hid hln
        clear hln hmn
        go_wp2_with fail
        go_ret
        exact ⟨_, _, by rw [HL.out]; rfl, O3.out.mono (by omega) (by omega), by rw [HL.out]; exact Nat.le_refl _, by omega, HB.out.trans (B3.out.mono hzw)⟩
end C
end Go.Proofs.Ytoiapfdlbkncaaa
namespace Go.Proofs.Ytoiapfdlbkncaaa
open Go.RowKit
namespace C
set_option maxHeartbeats 1600000
set_option maxRecDepth 20000
def BoolsPost (w : World) (r ok : Bool) (e : Ending) (w' : World) : Prop := e = .returned (.tuple #[.bool r, .bool ok]) ∧ Below w.heap.size w w'
def GainPost (w : World) (s : Int) (l : List Int) (ok : Bool) (e : Ending) (w' : World) : Prop :=
  ∃ a c, e = .returned (.tuple #[.int .i64 s, .slice a l.length c, .bool ok]) ∧ OwnAt w.heap.size w'.heap.size w' 3 a (M.encIs l) ∧ l.length ≤ c ∧ c ≤ 9223372036854775807 ∧ Below w.heap.size w w'
theorem wins_any (w : World) (lo hi : Nat) (m : M.Mz) (a b : Option Addr) (c d : Nat) (h : MzIn lo hi w m a c b d) (hz : hi ≤ w.heap.size) (V : M.Valid m) (s : Int) (h0 : 0 ≤ s) (h1 : s < 64) :
    Calls Try.prog 76 #[.agg #[.int .i64 m.size, .slice a m.doors.length c, .slice b m.keys.length d], .int .i64 s] w (BoolPost w (M.canB m s)) := by
  have H := Lib.hid h
  have HVA := Lib.hid V
  have v1 := V.size1
  have v12 := V.size12
  clear h V
  go_enter Try.func76, Try.ntmps76
  go_wp2_with fail
  refine named ?_
  intro W hW
  have hb : Below w.heap.size w W := by rw [hW]; exact below_alloc _ _
  have x1 : Box3 W w.heap.size 29 (.int .i64 m.size) (.slice a m.doors.length c) (.slice b m.keys.length d) := by rw [hW]; exact Box3.new _ _ _ _ rfl
  clear hW
  have hzw := hb.size
  refine (close_any W lo hi m a b c d (H.out.below hb hz) (by omega) HVA.out s h0 h1).mono ?_
  rintro e w1 ⟨ra, rc, rfl, ho, ho1, ho2, hb1⟩
  have X1 := Lib.hid (x1.below hb1)
  have HB1 := Lib.hid (hb.trans (hb1.mono hzw))
  have HO := Lib.hid ho
  have hl := M.rchL_len m.doors (M.openTo (M.finC m s)) 0
  have hlen : (M.reachOf m 0 (M.finC m s)).length ≤ 1048576 := by unfold M.reachOf; omega
  obtain ⟨c0, c1, c2⟩ := X1.out.cells
  have HCB : Hid (M.memB (M.reachOf m 0 (M.finC m s)) (m.size - 1) = M.canB m s) := Lib.hid rfl
  clear hb hb1 x1 ho hl
  generalize M.reachOf m 0 (M.finC m s) = L at *
  go_wp2_with fail
  refine (l1Has_any w1 _ _ ra rc L (m.size - 1) HO.out.row hlen).mono ?_
  rintro e w2 ⟨rfl, rfl⟩
  go_wp2_with fail
  go_ret
  exact ⟨by rw [← HCB.out]; rfl, HB1.out⟩
theorem specRounds_lw (w : World) (lo hi : Nat) (m : M.Mz) (a b : Option Addr) (c d : Nat) (h : MzIn lo hi w m a c b d) (hz : hi ≤ w.heap.size) (_h1 : m.doors.length ≤ 1048576) (_h2 : m.keys.length ≤ 1048576) (s : Int) (_s1 : -9223372036854775808 ≤ s) (_s2 : s ≤ 9223372036854775807) :
    Calls Try.prog 24 #[.agg #[.int .i64 m.size, .slice a m.doors.length c, .slice b m.keys.length d], .int .i64 s] w (IntsOkPost w (M.roundsV m s) (M.askB m s)) := by
  have H := Lib.hid h
  clear h
  go_enter Try.func24, Try.ntmps24
  go_wp2_with fail
  refine named ?_
  intro W hW
  have hb : Below w.heap.size w W := by rw [hW]; exact below_alloc _ _
  have x1 : Box3 W w.heap.size 29 (.int .i64 m.size) (.slice a m.doors.length c) (.slice b m.keys.length d) := by rw [hW]; exact Box3.new _ _ _ _ rfl
  clear hW
  have hzw := hb.size
  refine (ask_any W lo hi m a b c d s (H.out.below hb hz) (by omega)).mono ?_
  rintro e w1 ⟨rfl, hb1⟩
  have X1 := Lib.hid (x1.below hb1)
  have HB1 := Lib.hid (hb.trans (hb1.mono hzw))
  have hz1 := hb1.size
  have hbl := X1.out.lt
  clear hb hb1 x1
  obtain ⟨c0, c1, c2⟩ := X1.out.cells
  cases q0 : M.askB m s with
  | false =>
    have HF := Lib.hid q0
    clear q0
    go_wp2_with fail
    go_ret2
    have HV : Hid (M.roundsV m s = []) := Lib.hid (M.ifAsk_no HF.out _ _)
    rw [HF.out, HV.out]
    exact intsOk_end (l := []) (ownsRow_empty _ _ _ _ (by omega)) (HB1.out.alloc (by omega) _)
  | true =>
    have HF := Lib.hid q0
    have HVA := Lib.hid (M.ask_yes q0).1
    obtain ⟨_, s0, s64⟩ := M.ask_yes q0
    have v1 := HVA.out.size1
    have v12 := HVA.out.size12
    clear q0
    go_wp2_with fail
    refine (rounds_any w1 lo hi m a b c d (H.out.below HB1.out hz) (by omega) HVA.out s s0 s64).mono ?_
    rintro e w4 ⟨ra, rc, rfl, ho, ho1, ho2, hb4⟩
    have HO := Lib.hid ho
    have HB4 := Lib.hid (HB1.out.trans (hb4.mono (by omega)))
    have hz4 := hb4.size
    clear ho hb4
    have HV := Lib.hid (show M.roundsV m s = _ from M.ifAsk_yes HF.out _ _)
    go_wp2_with fail
    go_ret2
    rw [HF.out, HV.out]
    exact ⟨_, _, rfl, HO.out.mono (by omega) (Nat.le_refl _), ho1, ho2, HB4.out⟩
theorem specEnt_lw (w : World) (lo hi : Nat) (m : M.Mz) (a b : Option Addr) (c d : Nat) (h : MzIn lo hi w m a c b d) (hz : hi ≤ w.heap.size) (_h1 : m.doors.length ≤ 1048576) (_h2 : m.keys.length ≤ 1048576) (s : Int) (_s1 : -9223372036854775808 ≤ s) (_s2 : s ≤ 9223372036854775807) :
    Calls Try.prog 30 #[.agg #[.int .i64 m.size, .slice a m.doors.length c, .slice b m.keys.length d], .int .i64 s] w (IntsOkPost w (M.entV m s) (M.askB m s)) := by
  have H := Lib.hid h
  clear h
  go_enter Try.func30, Try.ntmps30
  go_wp2_with fail
  refine named ?_
  intro W hW
  have hb : Below w.heap.size w W := by rw [hW]; exact below_alloc _ _
  have x1 : Box3 W w.heap.size 29 (.int .i64 m.size) (.slice a m.doors.length c) (.slice b m.keys.length d) := by rw [hW]; exact Box3.new _ _ _ _ rfl
  clear hW
  have hzw := hb.size
  refine (ask_any W lo hi m a b c d s (H.out.below hb hz) (by omega)).mono ?_
  rintro e w1 ⟨rfl, hb1⟩
  have X1 := Lib.hid (x1.below hb1)
  have HB1 := Lib.hid (hb.trans (hb1.mono hzw))
  have hz1 := hb1.size
  have hbl := X1.out.lt
  clear hb hb1 x1
  obtain ⟨c0, c1, c2⟩ := X1.out.cells
  cases q0 : M.askB m s with
  | false =>
    have HF := Lib.hid q0
    clear q0
    go_wp2_with fail
    go_ret2
    have HV : Hid (M.entV m s = []) := Lib.hid (M.ifAsk_no HF.out _ _)
    rw [HF.out, HV.out]
    exact intsOk_end (l := []) (ownsRow_empty _ _ _ _ (by omega)) (HB1.out.alloc (by omega) _)
  | true =>
    have HF := Lib.hid q0
    have HVA := Lib.hid (M.ask_yes q0).1
    obtain ⟨_, s0, s64⟩ := M.ask_yes q0
    have v1 := HVA.out.size1
    have v12 := HVA.out.size12
    clear q0
    go_wp2_with fail
    refine (entered_any w1 lo hi m a b c d (H.out.below HB1.out hz) (by omega) HVA.out s s0 s64).mono ?_
    rintro e w4 ⟨ra, rc, rfl, ho, ho1, ho2, hb4⟩
    have HO := Lib.hid ho
    have HB4 := Lib.hid (HB1.out.trans (hb4.mono (by omega)))
    have hz4 := hb4.size
    clear ho hb4
    have HV := Lib.hid (show M.entV m s = _ from M.ifAsk_yes HF.out _ _)
    go_wp2_with fail
    go_ret2
    rw [HF.out, HV.out]
    exact ⟨_, _, rfl, HO.out.mono (by omega) (Nat.le_refl _), ho1, ho2, HB4.out⟩
theorem specCan_lw (w : World) (lo hi : Nat) (m : M.Mz) (a b : Option Addr) (c d : Nat) (h : MzIn lo hi w m a c b d) (hz : hi ≤ w.heap.size) (_h1 : m.doors.length ≤ 1048576) (_h2 : m.keys.length ≤ 1048576) (s : Int) (_s1 : -9223372036854775808 ≤ s) (_s2 : s ≤ 9223372036854775807) :
    Calls Try.prog 28 #[.agg #[.int .i64 m.size, .slice a m.doors.length c, .slice b m.keys.length d], .int .i64 s] w (BoolsPost w (M.ifAsk m s (M.canB m s) false) (M.askB m s)) := by
  have H := Lib.hid h
  clear h
  go_enter Try.func28, Try.ntmps28
  go_wp2_with fail
  refine named ?_
  intro W hW
  have hb : Below w.heap.size w W := by rw [hW]; exact below_alloc _ _
  have x1 : Box3 W w.heap.size 29 (.int .i64 m.size) (.slice a m.doors.length c) (.slice b m.keys.length d) := by rw [hW]; exact Box3.new _ _ _ _ rfl
  clear hW
  have hzw := hb.size
  refine (ask_any W lo hi m a b c d s (H.out.below hb hz) (by omega)).mono ?_
  rintro e w1 ⟨rfl, hb1⟩
  have X1 := Lib.hid (x1.below hb1)
  have HB1 := Lib.hid (hb.trans (hb1.mono hzw))
  have hz1 := hb1.size
  have hbl := X1.out.lt
  clear hb hb1 x1
  obtain ⟨c0, c1, c2⟩ := X1.out.cells
  cases q0 : M.askB m s with
  | false =>
    have HF := Lib.hid q0
    clear q0
    go_wp2_with fail
    go_ret2
    rw [HF.out, M.ifAsk_no HF.out]
    exact ⟨rfl, HB1.out⟩
  | true =>
    have HF := Lib.hid q0
    have HVA := Lib.hid (M.ask_yes q0).1
    obtain ⟨_, s0, s64⟩ := M.ask_yes q0
    have v1 := HVA.out.size1
    have v12 := HVA.out.size12
    clear q0
    go_wp2_with fail
    refine (wins_any w1 lo hi m a b c d (H.out.below HB1.out hz) (by omega) HVA.out s s0 s64).mono ?_
    rintro e w4 ⟨rfl, hb4⟩
    have HB4 := Lib.hid (HB1.out.trans (hb4.mono (by omega)))
    go_wp2_with fail
    go_ret2
    rw [HF.out, M.ifAsk_yes HF.out]
    exact ⟨rfl, HB4.out⟩
theorem specGain_lw (w : World) (lo hi : Nat) (m : M.Mz) (a b : Option Addr) (c d : Nat) (h : MzIn lo hi w m a c b d) (hz : hi ≤ w.heap.size) (_h1 : m.doors.length ≤ 1048576) (_h2 : m.keys.length ≤ 1048576) (s : Int) (_s1 : -9223372036854775808 ≤ s) (_s2 : s ≤ 9223372036854775807) :
    Calls Try.prog 26 #[.agg #[.int .i64 m.size, .slice a m.doors.length c, .slice b m.keys.length d], .int .i64 s] w (GainPost w (M.ifAsk m s (M.finC m s) 0) (M.gainN m s) (M.askB m s)) := by
  have H := Lib.hid h
  clear h
  go_enter Try.func26, Try.ntmps26
  go_wp2_with fail
  refine named ?_
  intro W hW
  have hb : Below w.heap.size w W := by rw [hW]; exact below_alloc _ _
  have x1 : Box3 W w.heap.size 29 (.int .i64 m.size) (.slice a m.doors.length c) (.slice b m.keys.length d) := by rw [hW]; exact Box3.new _ _ _ _ rfl
  clear hW
  have hzw := hb.size
  refine (ask_any W lo hi m a b c d s (H.out.below hb hz) (by omega)).mono ?_
  rintro e w1 ⟨rfl, hb1⟩
  have X1 := Lib.hid (x1.below hb1)
  have HB1 := Lib.hid (hb.trans (hb1.mono hzw))
  have hz1 := hb1.size
  have hbl := X1.out.lt
  clear hb hb1 x1
  obtain ⟨c0, c1, c2⟩ := X1.out.cells
  cases q0 : M.askB m s with
  | false =>
    have HF := Lib.hid q0
    clear q0
    go_wp2_with fail
    go_ret3
    have HV : Hid (M.gainN m s = []) := Lib.hid (M.ifAsk_no HF.out _ _)
    rw [HF.out, HV.out, M.ifAsk_no HF.out]
    exact ⟨_, _, rfl, OwnAt.nil _ _ _ _ _, Nat.le_refl _, by omega, HB1.out.alloc (by omega) _⟩
  | true =>
    have HF := Lib.hid q0
    have HVA := Lib.hid (M.ask_yes q0).1
    obtain ⟨_, s0, s64⟩ := M.ask_yes q0
    have v1 := HVA.out.size1
    have v12 := HVA.out.size12
    clear q0
    go_wp2_with fail
    refine (close_any w1 lo hi m a b c d (H.out.below HB1.out hz) (by omega) HVA.out s s0 s64).mono ?_
    rintro e w4 ⟨ra, rc, rfl, ho, ho1, ho2, hb4⟩
    have HO := Lib.hid ho
    have HB4 := Lib.hid (HB1.out.trans (hb4.mono (by omega)))
    have hz4 := hb4.size
    have HV := Lib.hid (show M.gainN m s = _ from M.ifAsk_yes HF.out _ _)
    clear ho hb4
    go_wp2_with fail
    go_ret3
    rw [HF.out, HV.out, M.ifAsk_yes HF.out]
    exact ⟨_, _, rfl, HO.out.mono (by omega) (Nat.le_refl _), ho1, ho2, HB4.out⟩
theorem specWin_lw (w : World) (lo hi : Nat) (m : M.Mz) (a b : Option Addr) (c d : Nat) (h : MzIn lo hi w m a c b d) (hz : hi ≤ w.heap.size) (_h1 : m.doors.length ≤ 1048576) (_h2 : m.keys.length ≤ 1048576) (s : Int) (_s1 : -9223372036854775808 ≤ s) (_s2 : s ≤ 9223372036854775807) :
    Calls Try.prog 32 #[.agg #[.int .i64 m.size, .slice a m.doors.length c, .slice b m.keys.length d], .int .i64 s] w (fun e w' => e = .returned (.tuple #[.int .i64 (M.ifAsk m s (M.winR m s) 0), .bool (M.askB m s && decide (0 < M.winR m s))]) ∧ Below w.heap.size w w') := by
  have H := Lib.hid h
  clear h
  go_enter Try.func32, Try.ntmps32
  go_wp2_with fail
  refine named ?_
  intro W hW
  have hb : Below w.heap.size w W := by rw [hW]; exact below_alloc _ _
  have x1 : Box3 W w.heap.size 29 (.int .i64 m.size) (.slice a m.doors.length c) (.slice b m.keys.length d) := by rw [hW]; exact Box3.new _ _ _ _ rfl
  clear hW
  have hzw := hb.size
  refine (ask_any W lo hi m a b c d s (H.out.below hb hz) (by omega)).mono ?_
  rintro e w1 ⟨rfl, hb1⟩
  have X1 := Lib.hid (x1.below hb1)
  have HB1 := Lib.hid (hb.trans (hb1.mono hzw))
  have hz1 := hb1.size
  have hbl := X1.out.lt
  clear hb hb1 x1
  obtain ⟨c0, c1, c2⟩ := X1.out.cells
  cases q0 : M.askB m s with
  | false =>
    have HF := Lib.hid q0
    clear q0
    go_wp2_with fail
    go_ret2
    rw [HF.out, M.ifAsk_no HF.out]
    exact ⟨rfl, HB1.out⟩
  | true =>
    have HF := Lib.hid q0
    have HVA := Lib.hid (M.ask_yes q0).1
    obtain ⟨_, s0, s64⟩ := M.ask_yes q0
    have v1 := HVA.out.size1
    have v12 := HVA.out.size12
    clear q0
    go_wp2_with fail
    obtain ⟨n, hn⟩ : ∃ n : Nat, m.size = (n : Int) + 1 := ⟨(m.size - 1).toNat, by omega⟩
    have hsn : m.size - 1 = (n : Int) := by omega
    have HSN := Lib.hid hsn
    have hnl : (M.nodeRounds m s (M.lastK m s + 1)).length = n + 1 := by rw [M.nodeRounds_len, hn]; omega
    have HRO := Lib.hid (fun W' (hq : Below w1.heap.size w1 W') => entered_any W' lo hi m a b c d (H.out.below (HB1.out.trans (hq.mono (by omega))) hz) (by have := hq.size; omega) HVA.out s s0 s64)
    have hat : (M.encIs (M.nodeRounds m s (M.lastK m s + 1)))[n]? = some (.int .i64 (M.winR m s)) := by
      unfold M.encIs M.nodeRounds M.winR
      rw [List.getElem?_map, List.getElem?_map, List.getElem?_range (by rw [hn]; omega), hsn]
      rfl
    have HAT := Lib.hid hat
    have hi0 : (0 : Int) ≤ m.size - 1 := by omega
    have hi1 : m.size - 1 < (n : Int) + 1 := by omega
    have hi2 : (m.size - 1).toNat = n := by omega
    have hi3 : ¬ m.size - 1 < 0 := by omega
    have hwi : IntKind.i64.wrap (m.size - 1) = m.size - 1 := IntWalk.i64_in _ (by omega)
    clear hat hn hsn
    generalize hwr : M.winR m s = r at *
    have HWR := Lib.hid hwr
    clear hwr
    go_cut [6] (fun s6 wx => s6 = .int .i64 r ∧ Below w1.heap.size w1 wx)
    case first =>
      go_region_with (first
        | (go_at_call 78; refine (HRO.out w1.drew (Below.refl w1.heap.size w1).drew).mono ?_; rintro e w5 ⟨qa, qc, rfl, hq, hq1, hq2, hb5⟩; have hb5' : Below w1.heap.size w1 w5 := (Below.refl w1.heap.size w1).drew.trans hb5; obtain ⟨c0, c1, c2⟩ := (X1.out.below hb5').cells; obtain ⟨lb, loff, hla, _, _, hlc⟩ := hq.row.at_ (k := n) (by rw [M.encIs_len, hnl]; omega); have lx := hlc _ _ HAT.out; subst hla; rw [hnl]))
      all_goals
        go_wp2_with fail
        go_meet
        exact ⟨rfl, hb5'⟩
    case rest =>
      obtain ⟨rfl, hb5⟩ := hcut
      clear hwi
      have HB5 := Lib.hid (HB1.out.trans (hb5.mono (by omega)))
      clear hb5 c0 c1 c2
      go_wp2_with fail
      go_ret2
      rw [HF.out, M.ifAsk_yes HF.out, HWR.out]
      exact ⟨by simp, HB5.out⟩
end C
end Go.Proofs.Ytoiapfdlbkncaaa
namespace Go.Proofs.Ytoiapfdlbkncaaa
open Go.RowKit
namespace M
theorem ent_goal {m : Mz} {s : Int} (h : askB m s = true) {n : Nat} (hn : m.size - 1 = (n : Int)) : ((entTo m s (lastG m s) (n : Int) : Nat) : Int) = winR m s := by
  unfold winR
  rw [hn, ent_lastG (ask_yes h).1]
end M
namespace C
theorem OwnAt.grownOther {lo hi B size n : Nat} {w w' : World} {T e : TypeId} {a : Option Addr} {xs ys : List Value} {v : Value} (h : OwnAt lo hi w T a xs) (ho : w.ownsRow B e size v n ys) (hne : e ≠ T) (hg : w.grownBy w' v.ownBlock) : OwnAt lo hi w' T a xs := by
  rcases h with h | ⟨g, off, cur, ha, h1, h2, hh, hc⟩
  · exact .inl h
  · refine .inr ⟨g, off, cur, ha, h1, h2, (hg.block g (heap_lt hh) ?_).trans hh, hc⟩
    intro he
    rcases ho.2 with ⟨rfl, _⟩ | ⟨g', cap', cur', rfl, _, hh', _⟩
    · simp [Value.ownBlock] at he
    · have : g' = g := by simpa [Value.ownBlock] using he.symm
      subst this
      rw [hh] at hh'
      injection hh' with hh'
      injection hh' with _ ht
      exact hne ht.symm
set_option maxHeartbeats 3200000
set_option maxRecDepth 20000
theorem implEnt_lw (w : World) (lo hi : Nat) (m : M.Mz) (a b : Option Addr) (c d : Nat) (h : MzIn lo hi w m a c b d) (hz : hi ≤ w.heap.size) (_h1 : m.doors.length ≤ 1048576) (_h2 : m.keys.length ≤ 1048576) (s : Int) (_s1 : -9223372036854775808 ≤ s) (_s2 : s ≤ 9223372036854775807) :
    Calls Try.prog 31 #[.agg #[.int .i64 m.size, .slice a m.doors.length c, .slice b m.keys.length d], .int .i64 s] w (IntsOkPost w (M.entV m s) (M.askB m s)) := by
  obtain ⟨ii0, hi0, hz0, hzz1, hz2⟩ := info_parts infoI
  have H := Lib.hid h
  clear h
  go_enter Try.func31, Try.ntmps31
  go_wp2_with fail
  refine named ?_
  intro W hW
  have hb : Below w.heap.size w W := by rw [hW]; exact below_alloc _ _
  have x1 : Box3 W w.heap.size 29 (.int .i64 m.size) (.slice a m.doors.length c) (.slice b m.keys.length d) := by rw [hW]; exact Box3.new _ _ _ _ rfl
  clear hW
  have hzw := hb.size
  refine (isMaze_any W lo hi m a b c d (H.out.below hb hz) (by omega)).mono ?_
  rintro e w1 ⟨rfl, hb1⟩
  have X1 := Lib.hid (x1.below hb1)
  have HB1 := Lib.hid (hb.trans (hb1.mono hzw))
  have hz1 := hb1.size
  have hbl := X1.out.lt
  clear hb hb1 x1
  obtain ⟨c0, c1, c2⟩ := X1.out.cells
  cases qm : M.mazeB m with
  | false =>
    have HF : Hid (M.askB m s = false) := Lib.hid (by unfold M.askB; rw [qm]; rfl)
    clear qm
    go_wp2_with fail
    go_ret2
    have HV : Hid (M.entV m s = []) := Lib.hid (M.ifAsk_no HF.out _ _)
    rw [HF.out, HV.out]
    exact intsOk_end (l := []) (ownsRow_empty _ _ _ _ (by omega)) (HB1.out.alloc (by omega) _)
  | true =>
    have HM := Lib.hid qm
    clear qm
    go_wp2_with fail
    refine (isSet_any _ _).mono ?_
    rintro e w2 ⟨rfl, rfl⟩
    cases qs : M.setB s with
    | false =>
      have HF : Hid (M.askB m s = false) := Lib.hid (by unfold M.askB; rw [qs, Bool.and_false])
      clear qs
      go_wp2_with fail
      go_ret2
      have HV : Hid (M.entV m s = []) := Lib.hid (M.ifAsk_no HF.out _ _)
      rw [HF.out, HV.out]
      exact intsOk_end (l := []) (ownsRow_empty _ _ _ _ (by omega)) (HB1.out.alloc (by omega) _)
    | true =>
      have q0 : M.askB m s = true := by unfold M.askB; rw [qs, HM.out]; rfl
      have HF := Lib.hid q0
      have HVA := Lib.hid (M.ask_yes q0).1
      obtain ⟨_, s0, s64⟩ := M.ask_yes q0
      have v1 := HVA.out.size1
      have v12 := HVA.out.size12
      clear q0 qs
      go_wp2_with fail
      refine (gainsOf_any w1 lo hi m a b c d (H.out.below HB1.out hz) (by omega) HVA.out s s0 s64).mono ?_
      rintro e w4 ⟨ga, gc, rfl, ho, ho1, ho2, hb4⟩
      rw [M.gainsTo_len] at ho1 ⊢
      have HG := Lib.hid ho
      have X4 := Lib.hid (X1.out.below hb4)
      have HB4 := Lib.hid (HB1.out.trans (hb4.mono (by omega)))
      have hz4 := hb4.size
      have hbl4 := X4.out.lt
      have hg65 := M.lastG_le m s
      have HEQ := Lib.hid (fun x => M.ent_lastG HVA.out s x)
      obtain ⟨n, hn⟩ : ∃ n : Nat, m.size = (n : Int) := ⟨m.size.toNat, by omega⟩
      have hn12 : n ≤ 12 := by omega
      have HNS := Lib.hid hn
      clear ho hb4 c0 c1 c2 hn
      generalize hG : M.lastG m s = G at *
      have HGE := Lib.hid hG
      clear hG
      obtain ⟨c0, c1, c2⟩ := X4.out.cells
      have C0 := (below_alloc w4 (.cells #[] 3)).cell (p := ⟨w.heap.size, 0, none⟩) hbl4
      rw [c0] at C0
      have hlt : ((n : Nat) : Int) = m.size := HNS.out.symm
      obtain ⟨R, hR⟩ : ∃ R : List Int, R = (List.range n).map fun x : Nat => ((M.entTo m s G (x : Int) : Nat) : Int) := ⟨_, rfl⟩
      have hRl : R.length = n := by rw [hR]; simp
      have HRA := Lib.hid (show ∀ (k : Nat) (hk : k < R.length), R[k] = ((M.entTo m s G (k : Int) : Nat) : Int) from fun k hk => by subst hR; simp)
      have HRE : Hid (M.entV m s = R) := Lib.hid (by
        rw [show M.entV m s = _ from M.ifAsk_yes HF.out _ _, hR]
        unfold M.nodeRounds
        rw [HNS.out, Int.toNat_natCast]
        refine List.map_congr_left fun x _ => ?_
        rw [← HEQ.out])
      clear hR
      go_wp2_with fail
      refine wp_named ?_
      intro W5 hW5
      have hb5 : Below w4.heap.size w4 W5 := by rw [hW5]; exact below_alloc _ _
      have o5 : W5.ownsRow w.heap.size 3 1 (.slice (some ⟨w4.heap.size, 0, none⟩) 0 0) 0 (M.encIs (R.take 0)) := by rw [hW5]; exact ownsRow_empty _ _ _ _ (by omega)
      have ST := Lib.hid (show W5.ownsRow w.heap.size 3 1 (.slice (some ⟨w4.heap.size, 0, none⟩) 0 0) 0 (M.encIs (R.take 0)) ∧ OwnAt w1.heap.size w4.heap.size W5 65 ga (M.encGs (M.gainsTo m s G)) ∧ Below w.heap.size w W5 ∧ w4.heap.size ≤ W5.heap.size from ⟨o5, HG.out.below hb5 (Nat.le_refl _), HB4.out.trans (hb5.mono HB4.out.size), hb5.size⟩)
      clear hW5 hb5 o5 c0 c1 c2 C0
      go_loopw [7, 8, 24] (fun v7 _ v24 wr => ∃ (k : Nat), k ≤ R.length ∧ v24 = .int .i64 k ∧ wr.ownsRow w.heap.size 3 1 v7 k (M.encIs (R.take k)) ∧ OwnAt w1.heap.size w4.heap.size wr 65 ga (M.encGs (M.gainsTo m s G)) ∧ Below w.heap.size w wr ∧ w4.heap.size ≤ wr.heap.size) (fun _ _ v24 _ => R.length - (intOf v24).toNat)
      case atStart => exact ⟨0, Nat.zero_le _, rfl, ST.out.1, ST.out.2.1, ST.out.2.2.1, ST.out.2.2.2⟩
      case round => 
        obtain ⟨k, hk, rfl, hso, hgo, hlow, hsz⟩ := hrel
        obtain ⟨la, lc, hv, hl1, hl2, _⟩ := own_slice hso
        subst hv
        have SO := Lib.hid hso
        have GO := Lib.hid hgo
        have LO := Lib.hid hlow
        have hzr := hlow.size
        clear hso hgo hlow
        by_cases hkl : k < R.length
        · have hkx := HRA.out k hkl
          have hks : (k : Int) < m.size := by omega
          have htk : Hid (M.encIs (R.take (k + 1)) = M.encIs (R.take k) ++ [.int .i64 R[k]]) := Lib.hid (M.takeI_snoc hkl)
          have CR := Lib.hid (roundOf_any wr _ _ m HVA.out s G k ga gc GO.out.row hsz (by omega) (by omega))
          rw [← hkx] at CR
          generalize R[k] = u at *
          clear hkx
          go_wp2_with fail
          refine CR.out.mono ?_
          rintro e w6 ⟨rfl, hb6⟩
          have SO6 := Lib.hid (own_below SO.out hb6)
          have GO6 := Lib.hid (GO.out.below hb6 hsz)
          have LO6 := Lib.hid (LO.out.trans (hb6.mono hzr))
          have hz6 := hb6.size
          clear hb6
          go_wp2_with (at_builtin; refine wpList_append_own _ rfl _ _ 23 rfl w.heap.size 3 ii0 (.int .i64 0) 1 8 Try.underlying23 hi0 hz0 hzz1 hz2 rfl (by decide) _ _ _ rfl (SO6.out.alloc _) ⟨w6.heap.size, 0, none⟩ 1 1 [.int .i64 u] rfl rfl (cell_one_new _ _ _) (fun x hx => by simp at hx; subst hx; rfl) (by unfold maxLen; omega) (by omega) (by simp; omega) ?_; intro v' w3 hown' hgrow3 hnil3)
          go_roundw
          case rel =>
            refine ⟨k + 1, by omega, by go_num, ?_, (GO6.out.below (below_alloc _ _) (by omega)).grownOther (SO6.out.alloc _) (by decide) hgrow3, (LO6.out.alloc (by omega) _).grown hgrow3 (by simp; omega) (own_base SO6.out), by have := hgrow3.size; simp at this; omega⟩
            rw [htk.out]
            exact hown'
          case measure => simp [intOf]; omega
        · obtain rfl : k = R.length := by omega
          have hks : ¬ (R.length : Int) < m.size := by omega
          have hfin := SO.out
          rw [List.take_of_length_le (Nat.le_refl _)] at hfin
          have HFI := Lib.hid hfin
          clear hfin
          go_wp2_with fail
          go_ret2
          rw [HF.out, HRE.out]
          have hend := intsOk_end (ok := true) HFI.out LO.out
          rw [hRl] at hend
          exact hend
theorem implWin_lw (w : World) (lo hi : Nat) (m : M.Mz) (a b : Option Addr) (c d : Nat) (h : MzIn lo hi w m a c b d) (hz : hi ≤ w.heap.size) (_h1 : m.doors.length ≤ 1048576) (_h2 : m.keys.length ≤ 1048576) (s : Int) (_s1 : -9223372036854775808 ≤ s) (_s2 : s ≤ 9223372036854775807) :
    Calls Try.prog 33 #[.agg #[.int .i64 m.size, .slice a m.doors.length c, .slice b m.keys.length d], .int .i64 s] w (fun e w' => e = .returned (.tuple #[.int .i64 (M.ifAsk m s (M.winR m s) 0), .bool (M.askB m s && decide (0 < M.winR m s))]) ∧ Below w.heap.size w w') := by
  obtain ⟨ii0, hi0, hz0, hzz1, hz2⟩ := info_parts infoI
  have H := Lib.hid h
  clear h
  go_enter Try.func33, Try.ntmps33
  go_wp2_with fail
  refine named ?_
  intro W hW
  have hb : Below w.heap.size w W := by rw [hW]; exact below_alloc _ _
  have x1 : Box3 W w.heap.size 29 (.int .i64 m.size) (.slice a m.doors.length c) (.slice b m.keys.length d) := by rw [hW]; exact Box3.new _ _ _ _ rfl
  clear hW
  have hzw := hb.size
  refine (isMaze_any W lo hi m a b c d (H.out.below hb hz) (by omega)).mono ?_
  rintro e w1 ⟨rfl, hb1⟩
  have X1 := Lib.hid (x1.below hb1)
  have HB1 := Lib.hid (hb.trans (hb1.mono hzw))
  have hz1 := hb1.size
  have hbl := X1.out.lt
  clear hb hb1 x1
  obtain ⟨c0, c1, c2⟩ := X1.out.cells
  cases qm : M.mazeB m with
  | false =>
    have HF : Hid (M.askB m s = false) := Lib.hid (by unfold M.askB; rw [qm]; rfl)
    clear qm
    go_wp2_with fail
    go_ret2
    rw [HF.out, M.ifAsk_no HF.out]
    exact ⟨rfl, HB1.out⟩
  | true =>
    have HM := Lib.hid qm
    clear qm
    go_wp2_with fail
    refine (isSet_any _ _).mono ?_
    rintro e w2 ⟨rfl, rfl⟩
    cases qs : M.setB s with
    | false =>
      have HF : Hid (M.askB m s = false) := Lib.hid (by unfold M.askB; rw [qs, Bool.and_false])
      clear qs
      go_wp2_with fail
      go_ret2
      rw [HF.out, M.ifAsk_no HF.out]
      exact ⟨rfl, HB1.out⟩
    | true =>
      have q0 : M.askB m s = true := by unfold M.askB; rw [qs, HM.out]; rfl
      have HF := Lib.hid q0
      have HVA := Lib.hid (M.ask_yes q0).1
      obtain ⟨_, s0, s64⟩ := M.ask_yes q0
      have v1 := HVA.out.size1
      have v12 := HVA.out.size12
      clear q0 qs
      go_wp2_with fail
      obtain ⟨n, hn⟩ : ∃ n : Nat, m.size = (n : Int) + 1 := ⟨(m.size - 1).toNat, by omega⟩
      have hsn : m.size - 1 = (n : Int) := by omega
      have hg65 := M.lastG_le m s
      have HEG := Lib.hid (M.ent_goal HF.out hsn)
      have HGA := Lib.hid (fun W' (hq : Below w1.heap.size w1 W') => gainsOf_any W' lo hi m a b c d (H.out.below (HB1.out.trans (hq.mono (by omega))) hz) (by have := hq.size; omega) HVA.out s s0 s64)
      have HRO := Lib.hid (fun (W' : World) (lo' hi' : Nat) ga gc (hr : RowIn lo' hi' W' ga (M.encGs (M.gainsTo m s (M.lastG m s)))) (hz' : hi' ≤ W'.heap.size) => show Calls Try.prog 79 #[.slice ga (M.lastG m s + 1) gc, .int .i64 (m.size - 1)] W' (fun e w' => e = .returned (.int .i64 (M.winR m s)) ∧ Below W'.heap.size W' w') from by
        have := roundOf_any W' lo' hi' m HVA.out s (M.lastG m s) n ga gc hr hz' (by omega) (by omega)
        rw [HEG.out, ← hsn] at this
        exact this)
      have HGO := Lib.hid (fun W' => goal_any W' m a b c d v1 v12)
      have HGL := Lib.hid (M.gainsTo_len m s (M.lastG m s))
      clear hn hsn
      generalize hwr : M.winR m s = r at *
      have HWR := Lib.hid hwr
      clear hwr
      go_cut [6] (fun s6 wx => s6 = .int .i64 r ∧ Below w1.heap.size w1 wx)
      case first =>
        go_region_with (first
          | (go_at_call 73; refine (HGA.out w1.drew (Below.refl w1.heap.size w1).drew).mono ?_; rintro e w5 ⟨ga, gc, rfl, hq, hq1, hq2, hb5⟩; have hb5' : Below w1.heap.size w1 w5 := (Below.refl w1.heap.size w1).drew.trans hb5; obtain ⟨c0, c1, c2⟩ := (X1.out.below hb5').cells; rw [HGL.out])
          | (go_at_call 73; refine (HGA.out w6 hb6').mono ?_; rintro e w5 ⟨ga, gc, rfl, hq, hq1, hq2, hb5⟩; have hb5' : Below w1.heap.size w1 w5 := hb6'.trans (hb5.mono hb6'.size); obtain ⟨c0, c1, c2⟩ := (X1.out.below hb5').cells; rw [HGL.out])
          | (go_at_call 80; refine (HGO.out w1.drew).mono ?_; rintro e w6 ⟨rfl, hb6⟩; have hb6' : Below w1.heap.size w1 w6 := (Below.refl w1.heap.size w1).drew.trans hb6; obtain ⟨c0, c1, c2⟩ := (X1.out.below hb6').cells)
          | (go_at_call 80; refine (HGO.out w5).mono ?_; rintro e w6 ⟨rfl, hb6⟩; have hq := hq.below hb6 (Nat.le_refl _); have hq9 := hb6.size; have hb6' : Below w1.heap.size w1 w6 := hb5'.trans (hb6.mono hb5'.size); obtain ⟨c0, c1, c2⟩ := (X1.out.below hb6').cells)
          | (go_at_call 79; refine (HRO.out w6 _ _ ga gc hq.row hq9).mono ?_; rintro e w7 ⟨rfl, hb7⟩; have hb7' : Below w1.heap.size w1 w7 := hb6'.trans (hb7.mono hb6'.size))
          | (go_at_call 79; refine (HRO.out w5 _ _ ga gc hq.row (Nat.le_refl _)).mono ?_; rintro e w7 ⟨rfl, hb7⟩; have hb7' : Below w1.heap.size w1 w7 := hb5'.trans (hb7.mono hb5'.size)))
        all_goals
          go_wp2_with fail
          go_meet
          exact ⟨rfl, hb7'⟩
      case rest =>
        obtain ⟨rfl, hb5⟩ := hcut
        have HB5 := Lib.hid (HB1.out.trans (hb5.mono (by omega)))
        clear hb5 c0 c1 c2
        go_wp2_with fail
        go_ret2
        rw [HF.out, M.ifAsk_yes HF.out, HWR.out]
        exact ⟨by simp, HB5.out⟩
theorem implGain_lw (w : World) (lo hi : Nat) (m : M.Mz) (a b : Option Addr) (c d : Nat) (h : MzIn lo hi w m a c b d) (hz : hi ≤ w.heap.size) (_h1 : m.doors.length ≤ 1048576) (_h2 : m.keys.length ≤ 1048576) (s : Int) (_s1 : -9223372036854775808 ≤ s) (_s2 : s ≤ 9223372036854775807) :
    Calls Try.prog 27 #[.agg #[.int .i64 m.size, .slice a m.doors.length c, .slice b m.keys.length d], .int .i64 s] w (GainPost w (M.ifAsk m s (M.finC m s) 0) (M.gainN m s) (M.askB m s)) := by
  obtain ⟨ii0, hi0, hz0, hzz1, hz2⟩ := info_parts infoI
  have H := Lib.hid h
  clear h
  go_enter Try.func27, Try.ntmps27
  go_wp2_with fail
  refine named ?_
  intro W hW
  have hb : Below w.heap.size w W := by rw [hW]; exact below_alloc _ _
  have x1 : Box3 W w.heap.size 29 (.int .i64 m.size) (.slice a m.doors.length c) (.slice b m.keys.length d) := by rw [hW]; exact Box3.new _ _ _ _ rfl
  clear hW
  have hzw := hb.size
  refine (isMaze_any W lo hi m a b c d (H.out.below hb hz) (by omega)).mono ?_
  rintro e w1 ⟨rfl, hb1⟩
  have X1 := Lib.hid (x1.below hb1)
  have HB1 := Lib.hid (hb.trans (hb1.mono hzw))
  have hz1 := hb1.size
  have hbl := X1.out.lt
  clear hb hb1 x1
  obtain ⟨c0, c1, c2⟩ := X1.out.cells
  cases qm : M.mazeB m with
  | false =>
    have HF : Hid (M.askB m s = false) := Lib.hid (by unfold M.askB; rw [qm]; rfl)
    clear qm
    go_wp2_with fail
    go_ret3
    have HV : Hid (M.gainN m s = []) := Lib.hid (M.ifAsk_no HF.out _ _)
    rw [HF.out, HV.out, M.ifAsk_no HF.out]
    exact ⟨_, _, rfl, OwnAt.nil _ _ _ _ _, Nat.le_refl _, by omega, HB1.out.alloc (by omega) _⟩
  | true =>
    have HM := Lib.hid qm
    clear qm
    go_wp2_with fail
    refine (isSet_any _ _).mono ?_
    rintro e w2 ⟨rfl, rfl⟩
    cases qs : M.setB s with
    | false =>
      have HF : Hid (M.askB m s = false) := Lib.hid (by unfold M.askB; rw [qs, Bool.and_false])
      clear qs
      go_wp2_with fail
      go_ret3
      have HV : Hid (M.gainN m s = []) := Lib.hid (M.ifAsk_no HF.out _ _)
      rw [HF.out, HV.out, M.ifAsk_no HF.out]
      exact ⟨_, _, rfl, OwnAt.nil _ _ _ _ _, Nat.le_refl _, by omega, HB1.out.alloc (by omega) _⟩
    | true =>
      have q0 : M.askB m s = true := by unfold M.askB; rw [qs, HM.out]; rfl
      have HF := Lib.hid q0
      have HVA := Lib.hid (M.ask_yes q0).1
      obtain ⟨_, s0, s64⟩ := M.ask_yes q0
      have v1 := HVA.out.size1
      have v12 := HVA.out.size12
      clear q0 qs
      go_wp2_with fail
      refine (gainsOf_any w1 lo hi m a b c d (H.out.below HB1.out hz) (by omega) HVA.out s s0 s64).mono ?_
      rintro e w4 ⟨ga, gc, rfl, ho, ho1, ho2, hb4⟩
      have hg65 := M.lastG_le m s
      have hgl := M.gainsTo_len m s (M.lastG m s)
      rw [hgl] at ho1 ⊢
      have hkl : M.lastG m s < (M.gainsTo m s (M.lastG m s)).length := by omega
      obtain ⟨gb, goff, hga, hgb1, hgb2, hgcc⟩ := ho.row.at_ (k := M.lastG m s * 2) (by rw [M.encGs_len]; omega)
      have g0 := hgcc _ _ (M.encGs_at0 hkl)
      have g1 : w4.cell? ⟨gb, goff + M.lastG m s * 2 + 1, none⟩ = _ := hgcc _ _ (M.encGs_at1 hkl)
      rw [M.gainsTo_at] at g0 g1
      have e1 : (M.pairAt m s (M.lastG m s)).1 = ((M.gn m s (M.lastG m s) : Nat) : Int) := rfl
      have e2 : (M.pairAt m s (M.lastG m s)).2 = M.finC m s := M.it_lastG HVA.out ⟨s0, s64⟩
      rw [e1] at g0
      rw [e2] at g1
      subst hga
      have hgn := M.gn_lt HVA.out s (M.lastG m s)
      have HDG := Lib.hid (M.gn_lastG HVA.out ⟨s0, s64⟩)
      have HB4 := Lib.hid (HB1.out.trans (hb4.mono (by omega)))
      have hz4 := hb4.size
      have HV := Lib.hid (show M.gainN m s = _ from M.ifAsk_yes HF.out _ _)
      clear ho hb4 c0 c1 c2 e1 e2 hgcc hkl hgl
      generalize M.gn m s (M.lastG m s) = n at *
      generalize M.lastG m s = G at *
      generalize hfc : M.finC m s = fc at *
      clear hfc
      go_wp2_with fail
      refine wp_named ?_
      intro W5 hW5
      have hb5 : Below w4.heap.size w4 W5 := by rw [hW5]; exact below_alloc _ _
      have n5 : Box2 W5 w4.heap.size 65 (.int .i64 (n : Nat)) (.int .i64 fc) := by rw [hW5]; exact Box2.new _ _ _ rfl
      clear hW5 g0 g1
      have hz5 := hb5.size
      have HB5 := Lib.hid (HB4.out.trans (hb5.mono (by omega)))
      have N5 := Lib.hid n5
      obtain ⟨u0, u1⟩ := n5.cells
      clear hb5 n5
      go_cut [4, 5, 6] (fun s4 s5 s6 wx => ∃ ra rc, s4 = .int .i64 fc ∧ s5 = .slice ra (M.digsTo n 12).length rc ∧ s6 = .bool true ∧ OwnAt W5.heap.size wx.heap.size wx 3 ra (M.encIs (M.digsTo n 12)) ∧ (M.digsTo n 12).length ≤ rc ∧ rc ≤ 9223372036854775807 ∧ Below W5.heap.size W5 wx)
      case first =>
        go_region_with (first
          | (go_at_call 67; refine (digits_any n hgn W5.drew).mono ?_; rintro e w6 ⟨ra, rc, rfl, hq, hq1, hq2, hb6⟩; have hb6' : Below W5.heap.size W5 w6 := (Below.refl W5.heap.size W5).drew.trans hb6; obtain ⟨u0, u1⟩ := (N5.out.below hb6').cells))
        all_goals
          go_wp2_with fail
          go_meet
          exact ⟨ra, rc, rfl, rfl, rfl, hq, hq1, hq2, hb6'⟩
      case rest =>
        obtain ⟨ra, rc, rfl, rfl, rfl, hq, hq1, hq2, hb6⟩ := hcut
        have HQ := Lib.hid hq
        have hz6 := hb6.size
        have HB6 := Lib.hid (HB5.out.trans (hb6.mono (by omega)))
        clear hq hb6 u0 u1
        go_wp2_with fail
        go_ret3
        rw [HF.out, HV.out, M.ifAsk_yes HF.out, ← HDG.out]
        exact ⟨_, _, rfl, HQ.out.mono (by omega) (Nat.le_refl _), hq1, hq2, HB6.out⟩
theorem canBeWon_any (w : World) (lo hi : Nat) (m : M.Mz) (a b : Option Addr) (c d : Nat) (h : MzIn lo hi w m a c b d) (hz : hi ≤ w.heap.size) (h1 : m.doors.length ≤ 1048576) (h2 : m.keys.length ≤ 1048576) (s : Int) (s1 : -9223372036854775808 ≤ s) (s2 : s ≤ 9223372036854775807) :
    Calls Try.prog 77 #[.agg #[.int .i64 m.size, .slice a m.doors.length c, .slice b m.keys.length d], .int .i64 s] w (BoolPost w (M.askB m s && M.canB m s)) := by
  have H := Lib.hid h
  have hcase : ∀ q, M.askB m s = q → (q && decide (0 < M.winR m s)) = (q && M.canB m s) := fun q hq => by
    cases q with
    | false => rfl
    | true => rw [M.win_can hq]
  have HCS := Lib.hid (hcase _ rfl)
  clear h hcase
  go_enter Try.func77, Try.ntmps77
  go_wp2_with fail
  refine named ?_
  intro W hW
  have hb : Below w.heap.size w W := by rw [hW]; exact below_alloc _ _
  clear hW
  refine (implWin_lw W lo hi m a b c d (H.out.below hb hz) (Nat.le_trans hz hb.size) h1 h2 s s1 s2).mono ?_
  rintro e w1 ⟨rfl, hb1⟩
  have HB := Lib.hid (hb.trans (hb1.mono hb.size))
  clear hb hb1
  rw [HCS.out]
  go_wp2_with fail
  go_ret
  exact ⟨by simp, HB.out⟩
theorem implCan_lw (w : World) (lo hi : Nat) (m : M.Mz) (a b : Option Addr) (c d : Nat) (h : MzIn lo hi w m a c b d) (hz : hi ≤ w.heap.size) (_h1 : m.doors.length ≤ 1048576) (_h2 : m.keys.length ≤ 1048576) (s : Int) (_s1 : -9223372036854775808 ≤ s) (_s2 : s ≤ 9223372036854775807) :
    Calls Try.prog 29 #[.agg #[.int .i64 m.size, .slice a m.doors.length c, .slice b m.keys.length d], .int .i64 s] w (BoolsPost w (M.ifAsk m s (M.canB m s) false) (M.askB m s)) := by
  obtain ⟨ii0, hi0, hz0, hzz1, hz2⟩ := info_parts infoI
  have H := Lib.hid h
  clear h
  go_enter Try.func29, Try.ntmps29
  go_wp2_with fail
  refine named ?_
  intro W hW
  have hb : Below w.heap.size w W := by rw [hW]; exact below_alloc _ _
  have x1 : Box3 W w.heap.size 29 (.int .i64 m.size) (.slice a m.doors.length c) (.slice b m.keys.length d) := by rw [hW]; exact Box3.new _ _ _ _ rfl
  clear hW
  have hzw := hb.size
  refine (isMaze_any W lo hi m a b c d (H.out.below hb hz) (by omega)).mono ?_
  rintro e w1 ⟨rfl, hb1⟩
  have X1 := Lib.hid (x1.below hb1)
  have HB1 := Lib.hid (hb.trans (hb1.mono hzw))
  have hz1 := hb1.size
  have hbl := X1.out.lt
  clear hb hb1 x1
  obtain ⟨c0, c1, c2⟩ := X1.out.cells
  cases qm : M.mazeB m with
  | false =>
    have HF : Hid (M.askB m s = false) := Lib.hid (by unfold M.askB; rw [qm]; rfl)
    clear qm
    go_wp2_with fail
    go_ret2
    rw [HF.out, M.ifAsk_no HF.out]
    exact ⟨rfl, HB1.out⟩
  | true =>
    have HM := Lib.hid qm
    clear qm
    go_wp2_with fail
    refine (isSet_any _ _).mono ?_
    rintro e w2 ⟨rfl, rfl⟩
    cases qs : M.setB s with
    | false =>
      have HF : Hid (M.askB m s = false) := Lib.hid (by unfold M.askB; rw [qs, Bool.and_false])
      clear qs
      go_wp2_with fail
      go_ret2
      rw [HF.out, M.ifAsk_no HF.out]
      exact ⟨rfl, HB1.out⟩
    | true =>
      have q0 : M.askB m s = true := by unfold M.askB; rw [qs, HM.out]; rfl
      have HF := Lib.hid q0
      have HVA := Lib.hid (M.ask_yes q0).1
      obtain ⟨_, s0, s64⟩ := M.ask_yes q0
      have v1 := HVA.out.size1
      have v12 := HVA.out.size12
      clear q0 qs
      go_wp2_with fail
      refine (canBeWon_any w1 lo hi m a b c d (H.out.below HB1.out hz) (by omega) _h1 _h2 s _s1 _s2).mono ?_
      rintro e w4 ⟨rfl, hb4⟩
      have HB4 := Lib.hid (HB1.out.trans (hb4.mono (by omega)))
      rw [HF.out, Bool.true_and]
      go_wp2_with fail
      go_ret2
      rw [HF.out, M.ifAsk_yes HF.out]
      exact ⟨rfl, HB4.out⟩
end C
end Go.Proofs.Ytoiapfdlbkncaaa
