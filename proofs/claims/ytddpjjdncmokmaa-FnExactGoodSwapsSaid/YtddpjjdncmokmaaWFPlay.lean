/-
  CONTRACT of impl.Maze.playRound: the nodes that are entered with the colours at hand, and the colours behind; what lay in memory stays. Condition: a valid maze, a set of colours.
  CONTRACT of impl.Maze.gainsOf: the pairs of nodes and colours that one has at first and behind each round that changes them, in a new list; what lay in memory stays. Condition: a valid maze, a set of colours.
  CONTRACT of slices.IndexFunc at gains: the first place at which a predicate holds, or -1; what lay in memory stays. Condition: at most 1048576 of them; the predicate answers p and leaves memory as it is.
  CONTRACT of impl.roundOf: the round in which a node is entered, told by the program's pairs, or 0; what lay in memory stays. Condition: the pairs of a valid maze, a node.
  CONTRACT of impl.Maze.withoutColours: the maze without the keys of the colours of a set, in memory of its own; what lay in memory stays. No condition but that the maze reads so.
  MATHEMATICS of the keys at some nodes, own to these proofs: the set is the least that has the keys of each. No condition.
-/
import Derived.Test.YtddpjjdncmokmaaWBDigitsI
import Derived.Test.YtddpjjdncmokmaaWEDoorsAt
import Derived.Deep.RegionHeld3
import Derived.Deep.RegionWith
import Derived.Deep.DeepCutAuto
import Derived.Test.YtddpjjdncmokmaaWCBefore
import Derived.Laws.StructEq
import Derived.ProofKit
namespace Go.Proofs.Ytddpjjdncmokmaa
open Go.RowKit
namespace M
/-- the number that spread returns tells the nodes -/
theorem reach_mk {m : Mz} (V : Valid m) {s : Int} {n : Nat} (h : MaskOk m.doors (openTo s) 0 n) (hp : passN (openTo s) n m.doors = n) : n = mk (reachOf m 0 s) := by
  have := reach_mask (x := 0) V (by have := V.size1; omega) h hp
  have hr : digsTo n 12 = reachOf m 0 s := this
  rw [← hr, mk_digs h.2.1]
theorem digs_mk {m : Mz} (V : Valid m) (s : Int) : digsTo (mk (reachOf m 0 s)) 12 = reachOf m 0 s := by
  refine (digsTo_asc _ 12).ext ordI (rchL_asc _ _ _) fun y => ?_
  rw [mem_digsTo]
  constructor
  · rintro ⟨p, rfl, _, hp⟩
    exact (digB_mk (fun _ hx => (reach_node V hx).1) p).1 hp
  · intro hy
    have hn := reach_node V hy
    have := V.size12
    have ey : ((y.toNat : Nat) : Int) = y := by omega
    exact ⟨y.toNat, by omega, by omega, (digB_mk (fun _ hx => (reach_node V hx).1) y.toNat).2 (by rw [ey]; exact hy)⟩
theorem orN (a b : Nat) (ha : a < 64) (hb : b < 64) : bits .or .i64 (a : Int) (b : Int) = ((a ||| b : Nat) : Int) := or_nat ha hb
theorem orS_assoc {s t u : Int} (hs : 0 ≤ s ∧ s < 64) (ht : 0 ≤ t ∧ t < 64) (hu : 0 ≤ u ∧ u < 64) : bits .or .i64 (bits .or .i64 s t) u = bits .or .i64 s (bits .or .i64 t u) := by
  obtain ⟨a, rfl⟩ : ∃ a : Nat, s = a := ⟨s.toNat, by omega⟩
  obtain ⟨b, rfl⟩ : ∃ b : Nat, t = b := ⟨t.toNat, by omega⟩
  obtain ⟨c, rfl⟩ : ∃ c : Nat, u = c := ⟨u.toNat, by omega⟩
  have h1 := or_set hs.1 hs.2 ht.1 ht.2
  have h2 := or_set ht.1 ht.2 hu.1 hu.2
  rw [orN a b (by omega) (by omega)] at h1 ⊢
  rw [orN b c (by omega) (by omega)] at h2 ⊢
  rw [orN _ c (by omega) (by omega), orN a _ (by omega) (by omega), Nat.or_assoc]
theorem orS_zero {t : Int} (ht : 0 ≤ t ∧ t < 64) : bits .or .i64 0 t = t ∧ bits .or .i64 t 0 = t := by
  obtain ⟨b, rfl⟩ : ∃ b : Nat, t = b := ⟨t.toNat, by omega⟩
  have h1 := orN 0 b (by decide) (by omega)
  have h2 := orN b 0 (by omega) (by decide)
  rw [Nat.zero_or] at h1
  rw [Nat.or_zero] at h2
  exact ⟨h1, h2⟩
/-- gathered apart and put together -/
theorem gath_apart {m : Mz} (V : Valid m) : ∀ (l : List Int) (s : Int), 0 ≤ s ∧ s < 64 → gath m l s = bits .or .i64 s (gath m l 0)
  | [], s, h => (orS_zero h).2.symm
  | x :: l, s, h => by
    have hk := key_set V x.toNat
    have ho := or_set h.1 h.2 hk.1 hk.2
    have hg := (gath_set V l 0 ⟨by decide, by decide⟩).1
    show gath m l (bits .or .i64 s (m.keys.getD x.toNat 0)) = bits .or .i64 s (gath m l (bits .or .i64 0 (m.keys.getD x.toNat 0)))
    rw [(orS_zero hk).1, gath_apart V l _ ho, gath_apart V l _ hk, orS_assoc h hk hg]
theorem next_apart {m : Mz} (V : Valid m) {s : Int} (h : 0 ≤ s ∧ s < 64) : nextC m s = bits .or .i64 s (keysN m (mk (reachOf m 0 s))) := by
  unfold nextC keysN
  rw [digs_mk V, gath_apart V _ s h]
end M
namespace C
set_option maxHeartbeats 3200000
set_option maxRecDepth 20000
theorem playRound_any (w : World) (lo hi : Nat) (m : M.Mz) (a b : Option Addr) (c d : Nat) (h : MzIn lo hi w m a c b d) (hz : hi ≤ w.heap.size) (V : M.Valid m) (n0 s : Int) (hs : 0 ≤ s ∧ s < 64) :
    Calls Try.prog 132 #[.agg #[.int .i64 m.size, .slice a m.doors.length c, .slice b m.keys.length d], .agg #[.int .i64 n0, .int .i64 s]] w fun e w' => e = .returned (.agg #[.int .i64 (M.mk (M.reachOf m 0 s) : Nat), .int .i64 (M.nextC m s)]) ∧ Below w.heap.size w w' := by
  have H := Lib.hid h
  have HVA := Lib.hid V
  have v12 := V.size12
  have v1 := V.size1
  have HNX := Lib.hid (M.next_apart V hs)
  have hn4 := M.mk_lt (l := M.reachOf m 0 s) (fun x hx => by have := M.reach_node V hx; omega)
  have HNK := Lib.hid (show ∀ p, M.digB (M.mk (M.reachOf m 0 s)) p = true → (p : Int) < m.size from fun p hp => (M.reach_node V ((M.digB_mk (fun _ hx => (M.reach_node V hx).1) p).1 hp)).2)
  have HRM := Lib.hid (fun n h1 h2 => M.reach_mk (s := s) (n := n) V h1 h2)
  have hst : M.MaskOk m.doors (M.openTo s) 0 1 := M.MaskOk.start (x := 0) (by decide)
  clear h V
  go_enter Try.func132, Try.ntmps132
  go_upto_region 1 with fail
  refine wp_named ?_
  intro W hW
  have HB := Lib.hid (show Below w.heap.size w W by rw [hW]; exact ((below_alloc _ _).alloc (by simp) _).alloc (by simp; omega) _)
  have X1 := Lib.hid (show Box3 W w.heap.size 27 (.int .i64 m.size) (.slice a m.doors.length c) (.slice b m.keys.length d) by rw [hW]; exact ((Box3.new _ _ _ _ rfl).alloc _).alloc _)
  have Y1 := Lib.hid (show Box2 W (w.heap.size + 1) 129 (.int .i64 n0) (.int .i64 s) by rw [hW]; exact (Box2.new _ _ _ (by simp)).alloc _)
  have Z1 := Lib.hid (show Box2 W (w.heap.size + 1 + 1) 129 (.int .i64 0) (.int .i64 0) by rw [hW]; exact Box2.new _ _ _ (by simp))
  clear hW
  have hzw := HB.out.size
  have hzl := Z1.out.lt
  obtain ⟨d0, d1, d2⟩ := X1.out.cells
  obtain ⟨d3, d4⟩ := Y1.out.cells
  go_upto_region 2 with (go_at_call 140; refine (spread_any W lo hi m a b c d (H.out.below HB.out hz) (by omega) HVA.out 1 s (M.MaskOk m.doors (M.openTo s) 0) hst (fun n e he hn => by
    obtain ⟨j, hj, rfl⟩ := List.mem_iff_getElem.1 he
    obtain ⟨p1, p2, p3, p4, _⟩ := HVA.out.door j hj
    exact hn.step (List.getElem_mem hj) p1 (by omega) p3 (by omega)) (fun n hn => hn.2.1)).mono ?_; rintro e w5 ⟨n, rfl, hmk, hps, hb5⟩)
  have hn := HRM.out n hmk hps
  subst hn
  have X5 := Lib.hid (X1.out.below hb5)
  have Y5 := Lib.hid (Y1.out.below hb5)
  have Z5 := Lib.hid (Z1.out.below hb5)
  have B5 := Lib.hid (HB.out.trans (hb5.mono hzw))
  have hz5 := hb5.size
  clear hb5 hmk hps d0 d1 d2 d3 d4 hst
  generalize hnn : M.mk (M.reachOf m 0 s) = nn at *
  have hnx := HNX.out
  have HNN := Lib.hid hnn
  clear hnn
  have hnx' : bits .or .i64 s (M.keysN m nn) = M.nextC m s := hnx.symm
  clear hnx
  refine wp_region_late2 (fun (wq : World) => wq.cell? ⟨w.heap.size, 0, none⟩ = some (.int .i64 m.size) ∧ wq.cell? ⟨w.heap.size, 1, none⟩ = some (.slice a m.doors.length c) ∧ wq.cell? ⟨w.heap.size, 2, none⟩ = some (.slice b m.keys.length d) ∧ wq.cell? ⟨w.heap.size + 1, 1, none⟩ = some (.int .i64 s)) [] 9 #[false, false, false, false, false, false, false, false, false] rfl rfl (by kernel_rfl) ?_
  have hS : (fun (wq : World) => wq.cell? ⟨w.heap.size, 0, none⟩ = some (.int .i64 m.size) ∧ wq.cell? ⟨w.heap.size, 1, none⟩ = some (.slice a m.doors.length c) ∧ wq.cell? ⟨w.heap.size, 2, none⟩ = some (.slice b m.keys.length d) ∧ wq.cell? ⟨w.heap.size + 1, 1, none⟩ = some (.int .i64 s)) w5.drew := (by obtain ⟨d0, d1, d2⟩ := X5.out.cells; obtain ⟨_, d4⟩ := Y5.out.cells; exact ⟨d0, d1, d2, d4⟩)
  refine wpAnyL_take (i := 0) (oi := { dst := some 10, op := Go.Op.move (Go.Operand.tmp 5), type := 3, pos := "l3_reaching.go:16", after := #[], guard := none }) (v := ?pv0) rfl (by kernel_rfl) (by kernel_rfl) (by kernel_rfl) (by kernel_rfl) (fun _ _ _ h => h) (Or.inl ⟨by rfl, ?ph0⟩) hS ?pr0
  case ph0 => (intro wS hSw; (try dsimp only at hSw); go_split_ands; go_simp; try with_reducible rfl)
  try simp only [Act.put, List.setIfInBounds_toArray, List.set_cons_zero, List.set_cons_succ]
  refine wpAnyL_take (i := 1) (oi := { dst := some 11, op := Go.Op.fieldAddr 129 (Go.Operand.tmp 3) 1, type := 0, pos := "l3_reaching.go:16", after := #[], guard := none }) (v := ?pv1) rfl (by kernel_rfl) (by kernel_rfl) (by kernel_rfl) (by kernel_rfl) (fun _ _ _ h => h) (Or.inl ⟨by rfl, ?ph1⟩) hS ?pr1
  case ph1 => (intro wS hSw; (try dsimp only at hSw); go_split_ands; go_simp; try with_reducible rfl)
  try simp only [Act.put, List.setIfInBounds_toArray, List.set_cons_zero, List.set_cons_succ]
  refine wpAnyL_take (i := 2) (oi := { dst := some 12, op := Go.Op.load 3 (Go.Operand.tmp 11), type := 3, pos := "l3_reaching.go:16", after := #[{ on := 1, ground := Go.Ground.data }], guard := none }) (v := ?pv2) rfl (by kernel_rfl) (by kernel_rfl) (by kernel_rfl) (by kernel_rfl) (fun _ _ _ h => h) (Or.inl ⟨by rfl, ?ph2⟩) hS ?pr2
  case ph2 => (intro wS hSw; (try dsimp only at hSw); go_split_ands; go_simp; try with_reducible rfl)
  try simp only [Act.put, List.setIfInBounds_toArray, List.set_cons_zero, List.set_cons_succ]
  refine wpAnyL_take (i := 3) (oi := { dst := some 13, op := Go.Op.load 27 (Go.Operand.tmp 2), type := 27, pos := "l3_reaching.go:16", after := #[], guard := none }) (v := ?pv3) rfl (by kernel_rfl) (by kernel_rfl) (by kernel_rfl) (by kernel_rfl) (fun _ _ _ h => h) (Or.inl ⟨by rfl, ?ph3⟩) hS ?pr3
  case ph3 => (intro wS hSw; (try dsimp only at hSw); go_split_ands; go_simp; try with_reducible rfl)
  try simp only [Act.put, List.setIfInBounds_toArray, List.set_cons_zero, List.set_cons_succ]
  refine wpAnyL_take (i := 4) (oi := { dst := some 14, op := Go.Op.move (Go.Operand.tmp 5), type := 3, pos := "l3_reaching.go:16", after := #[], guard := none }) (v := ?pv4) rfl (by kernel_rfl) (by kernel_rfl) (by kernel_rfl) (by kernel_rfl) (fun _ _ _ h => h) (Or.inl ⟨by rfl, ?ph4⟩) hS ?pr4
  case ph4 => (intro wS hSw; (try dsimp only at hSw); go_split_ands; go_simp; try with_reducible rfl)
  try simp only [Act.put, List.setIfInBounds_toArray, List.set_cons_zero, List.set_cons_succ]
  refine wpAnyL_one (i := 5) (oi := { dst := some 15, op := Go.Op.call { callee := Go.Callee.value (Go.Operand.func 141), args := #[Go.Operand.tmp 13, Go.Operand.tmp 14], argTypes := #[27, 3] }, type := 3, pos := "l3_reaching.go:16", after := #[{ on := 3, ground := Go.Ground.data }, { on := 4, ground := Go.Ground.data }], guard := none }) (by kernel_rfl) rfl (fun Kp5 hKp5 => ?_)
  refine step_call (by rfl) 141 #[.agg #[.int .i64 m.size, .slice a m.doors.length c, .slice b m.keys.length d], .int .i64 ((nn : Nat) : Int)] (by go_simp; try rfl) (keysAt_any w5.drew lo hi m a b c d (H.out.below (Below.drawnN B5.out 1) hz) (by have := B5.out.size; show hi ≤ w5.heap.size; omega) HVA.out nn hn4 HNK.out) ?_
  rintro e w6 ⟨rfl, hb6⟩
  refine ⟨_, rfl, ?_⟩
  have hb6x : Below w5.heap.size w5 w6 := (Below.refl w5.heap.size w5).drew.trans hb6
  have X6 := Lib.hid (X5.out.below hb6x)
  have Y6 := Lib.hid (Y5.out.below hb6x)
  have Z6 := Lib.hid (Z5.out.below hb6x)
  have B6 := Lib.hid (B5.out.trans (hb6x.mono B5.out.size))
  have hx6 : (fun (wq : World) => wq.cell? ⟨w.heap.size, 0, none⟩ = some (.int .i64 m.size) ∧ wq.cell? ⟨w.heap.size, 1, none⟩ = some (.slice a m.doors.length c) ∧ wq.cell? ⟨w.heap.size, 2, none⟩ = some (.slice b m.keys.length d) ∧ wq.cell? ⟨w.heap.size + 1, 1, none⟩ = some (.int .i64 s)) w6 := (by obtain ⟨d0, d1, d2⟩ := X6.out.cells; obtain ⟨_, d4⟩ := Y6.out.cells; exact ⟨d0, d1, d2, d4⟩)
  refine hKp5 _ _ (fun _ => hx6) ?_
  clear hS
  have hS := hx6
  try simp only [Act.put, List.setIfInBounds_toArray, List.set_cons_zero, List.set_cons_succ]
  refine wpAnyL_take (i := 6) (oi := { dst := some 16, op := Go.Op.binOp Go.BinOp.or 3 (Go.Operand.tmp 12) (Go.Operand.tmp 15) 3, type := 3, pos := "l3_reaching.go:16", after := #[{ on := 2, ground := Go.Ground.data }, { on := 5, ground := Go.Ground.data }], guard := none }) (v := ?pv6) rfl (by kernel_rfl) (by kernel_rfl) (by kernel_rfl) (by kernel_rfl) (fun _ _ _ h => h) (Or.inl ⟨by rfl, ?ph6⟩) hS ?pr6
  case ph6 => (intro wS hSw; (try dsimp only at hSw); go_split_ands; go_simp; try with_reducible rfl)
  try simp only [Act.put, List.setIfInBounds_toArray, List.set_cons_zero, List.set_cons_succ]
  refine wpAnyL_take (i := 7) (oi := { dst := some 17, op := Go.Op.build 129 #[(0, Go.Operand.tmp 10), (1, Go.Operand.tmp 16)], type := 129, pos := "l3_reaching.go:16", after := #[{ on := 0, ground := Go.Ground.data }, { on := 6, ground := Go.Ground.data }], guard := none }) (v := ?pv7) rfl (by kernel_rfl) (by kernel_rfl) (by kernel_rfl) (by kernel_rfl) (fun _ _ _ h => h) (Or.inl ⟨by rfl, ?ph7⟩) hS ?pr7
  case ph7 => (intro wS hSw; (try dsimp only at hSw); go_split_ands; go_simp; try with_reducible rfl)
  try simp only [Act.put, List.setIfInBounds_toArray, List.set_cons_zero, List.set_cons_succ]
  refine wpAnyL_one (i := 8) (oi := { dst := none, op := Go.Op.store 129 (Go.Operand.tmp 4) (Go.Operand.tmp 17), type := 0, pos := "l3_reaching.go:16", after := #[{ on := 7, ground := Go.Ground.data }, { on := 5, ground := Go.Ground.chain }, { on := 0, ground := Go.Ground.phase }, { on := 1, ground := Go.Ground.phase }, { on := 2, ground := Go.Ground.phase }, { on := 3, ground := Go.Ground.phase }, { on := 4, ground := Go.Ground.phase }, { on := 5, ground := Go.Ground.phase }, { on := 6, ground := Go.Ground.phase }, { on := 7, ground := Go.Ground.phase }], guard := none }) (by kernel_rfl) rfl (fun Kp8 hKp8 => ?_)
  obtain ⟨k0, k1⟩ := Z6.out.cells
  obtain ⟨f0, f1⟩ := Z6.out.free
  have hl6 := Z6.out.lt
  go_simp
  have htt := Turned.set2 (w := w6) (w.heap.size + 1 + 1) (.int .i64 ((nn : Nat) : Int)) (.int .i64 (M.nextC m s))
  have X7 := Lib.hid (X6.out.turned htt (.inl (by omega)))
  have Y7 := Lib.hid (Y6.out.turned htt (.inl (by omega)))
  have Z7 := Lib.hid (Z6.out.setAll (.int .i64 ((nn : Nat) : Int)) (.int .i64 (M.nextC m s)))
  have B7 := Lib.hid (Below.thenTurned B6.out htt (by omega) B6.out.size)
  refine hKp8 _ _ (fun _ => (by obtain ⟨d0, d1, d2⟩ := X7.out.cells; obtain ⟨_, d4⟩ := Y7.out.cells; exact ⟨d0, d1, d2, d4⟩)) ?_
  clear hS
  have hS := trivial
  try simp only [List.setIfInBounds_toArray, List.set_cons_zero, List.set_cons_succ]
  refine wpAnyL_done (by kernel_rfl) ?_ _
  go_wp2_with fail
  obtain ⟨r0, r1⟩ := Z7.out.cells
  refine bodyPost_ret (v := .agg #[.int .i64 ((nn : Nat) : Int), .int .i64 (M.nextC m s)]) (by simp [results, Try.results132, go_sem, r0, r1]) rfl ?_
  exact ⟨by rw [HNN.out], B7.out⟩
end C
end Go.Proofs.Ytddpjjdncmokmaa
namespace Go.Proofs.Ytddpjjdncmokmaa
open Go.RowKit
namespace M
abbrev Gn := Int × Int
def encG (p : Gn) : List Value := [.int .i64 p.1, .int .i64 p.2]
def encGs (l : List Gn) : List Value := l.flatMap encG
theorem encGs_len (l : List Gn) : (encGs l).length = l.length * 2 := by
  unfold encGs; induction l with
  | nil => rfl
  | cons d l ih => simp [encG, ih]; omega
theorem encGs_cons (d : Gn) (l : List Gn) : encGs (d :: l) = encG d ++ encGs l := by simp [encGs]
theorem encGs_append (a b : List Gn) : encGs (a ++ b) = encGs a ++ encGs b := by simp [encGs]
theorem encGs_at {l : List Gn} {k : Nat} (h : k < l.length) (j : Nat) (hj : j < 2) : (encGs l)[k * 2 + j]? = (encG l[k])[j]? := by
  induction l generalizing k with
  | nil => simp at h
  | cons d l ih =>
    rw [encGs_cons]
    cases k with
    | zero =>
      rw [Nat.zero_mul, Nat.zero_add, List.getElem?_append_left (by simp [encG]; omega)]
      rfl
    | succ k =>
      rw [List.getElem?_append_right (by simp [encG]; omega)]
      have e : (k + 1) * 2 + j - (encG d).length = k * 2 + j := by simp [encG]; omega
      rw [e, ih (by simpa using h)]
      simp
theorem encGs_at0 {l : List Gn} {k : Nat} (h : k < l.length) : (encGs l)[k * 2]? = some (.int .i64 l[k].1) := encGs_at h 0 (by omega)
theorem encGs_at1 {l : List Gn} {k : Nat} (h : k < l.length) : (encGs l)[k * 2 + 1]? = some (.int .i64 l[k].2) := encGs_at h 1 (by omega)
theorem encGs_one (l : List Gn) : ∀ x ∈ encGs l, x.oneCell' = true := by
  intro x hx
  unfold encGs at hx
  obtain ⟨p, _, hp⟩ := List.mem_flatMap.1 hx
  simp [encG] at hp
  rcases hp with rfl | rfl <;> rfl
/-- the program's pairs -/
noncomputable def pairAt (m : Mz) (s : Int) (i : Nat) : Gn := ((gn m s i : Nat), it m s i)
noncomputable def gainsTo (m : Mz) (s : Int) (k : Nat) : List Gn := (List.range (k + 1)).map (pairAt m s)
theorem gainsTo_succ (m : Mz) (s : Int) (k : Nat) : gainsTo m s (k + 1) = gainsTo m s k ++ [pairAt m s (k + 1)] := by unfold gainsTo; rw [List.range_succ (n := k + 1), List.map_append]; rfl
theorem gainsTo_len (m : Mz) (s : Int) (k : Nat) : (gainsTo m s k).length = k + 1 := by unfold gainsTo; simp
theorem gainsTo_at (m : Mz) (s : Int) {k i : Nat} (h : i < (gainsTo m s k).length) : (gainsTo m s k)[i]'h = pairAt m s i := by
  have h' := h
  rw [gainsTo_len] at h'
  have : (gainsTo m s k)[i]? = some (pairAt m s i) := by unfold gainsTo; rw [List.getElem?_map, List.getElem?_range h']; rfl
  rw [List.getElem?_eq_getElem h] at this
  exact Option.some.inj this
end M
namespace C
set_option maxHeartbeats 3200000
set_option maxRecDepth 20000
theorem eqTG : Try.prog.eqGuardType Try.prog.depth 129 = false := by kernel_rfl
theorem eqG (a b c d : Int) (w : World) : (Op.equalIn 10000 129 (.agg #[.int .i64 a, .int .i64 b]) (.agg #[.int .i64 c, .int .i64 d])).run Try.prog w = .ok (a == c && b == d) w := by
  have u3 := Try.underlying3
  have a3 := Try.isAgg3
  have z3 := Try.sizeOf3
  rw [show (10000 : Nat) = 9999 + 1 from rfl, run_equalIn_agg (P := Try.prog) w 9999 129 _ _ (by kernel_rfl) (by kernel_rfl)]
  simp only [Program.fieldsOf, Try.underlying129]
  go_simp
  by_cases h1 : a = c <;> by_cases h2 : b = d <;> simp [h1, h2]
theorem infoG : (Try.prog.info? 129).map (fun i => (i.zero, i.size, i.bytes)) = some (some (.agg #[.int .i64 0, .int .i64 0]), 2, 16) := by kernel_rfl
def sliceLen : Value → Nat
  | .slice _ n _ => n
  | _ => 0
def GainsPost (w : World) (l : List M.Gn) (e : Ending) (w' : World) : Prop :=
  ∃ a c, e = .returned (.slice a l.length c) ∧ OwnAt w.heap.size w'.heap.size w' 129 a (M.encGs l) ∧ l.length ≤ c ∧ c ≤ 9223372036854775807 ∧ Below w.heap.size w w'
theorem gains_end {w w' : World} {l : List M.Gn} {n : Nat} {v : Value} (h : w'.ownsRow w.heap.size 129 2 v n (M.encGs l)) (hn : n = l.length) (hb : Below w.heap.size w w') : GainsPost w l (.returned v) w' := by
  subst hn
  have h0 := h
  obtain ⟨a, c, rfl, h1, h2, _⟩ := own_slice h
  exact ⟨a, c, rfl, OwnAt.of_own h0, h1, h2, hb⟩
theorem newsG {w : World} {g : Nat} {x y : Value} (h : Box2 w g 129 x y) : ∀ j u, ([x, y])[j]? = some u → w.cell? ((⟨g, 0, none⟩ : Addr).add j) = some u := World.news_of_block h
theorem ownsRow_gain (w : World) (B : Nat) (x y : Value) (hB : B ≤ w.heap.size) : (w.alloc (.cells #[x, y] 129)).ownsRow B 129 2 (.slice (some ⟨w.heap.size, 0, none⟩) 1 1) 1 [x, y] :=
  ⟨by simp, .inr ⟨w.heap.size, 1, #[x, y], rfl, hB, heap_alloc_new w _, Nat.le_refl _, by unfold maxLen; omega, by simp, by simp⟩⟩
theorem gainsOf_any (w : World) (lo hi : Nat) (m : M.Mz) (a b : Option Addr) (c d : Nat) (h : MzIn lo hi w m a c b d) (hz : hi ≤ w.heap.size) (V : M.Valid m) (s : Int) (h0 : 0 ≤ s) (h1 : s < 64) :
    Calls Try.prog 108 #[.agg #[.int .i64 m.size, .slice a m.doors.length c, .slice b m.keys.length d], .int .i64 s] w (GainsPost w (M.gainsTo m s (M.lastG m s))) := by
  obtain ⟨i0, hi0, hz0, hz1, hz2⟩ := info_parts infoG
  have H := Lib.hid h
  have HVA := Lib.hid V
  have hlg := M.lastG_le m s
  have HLI := Lib.hid (fun (k : Nat) (hk : k ≤ M.lastG m s) => M.lastG_iff V ⟨h0, h1⟩ hk)
  clear h V
  go_enter Try.func108, Try.ntmps108
  go_wp2_with fail
  refine wp_named ?_
  intro W hW
  have hb : Below w.heap.size w W := by rw [hW]; exact (below_alloc _ _).alloc (by simp) _
  have x1 : Box3 W w.heap.size 27 (.int .i64 m.size) (.slice a m.doors.length c) (.slice b m.keys.length d) := by rw [hW]; exact (Box3.new _ _ _ _ rfl).alloc _
  have o1 : W.ownsRow w.heap.size 129 2 (.slice (some ⟨w.heap.size + 1, 0, none⟩) 1 1) 1 (M.encGs (M.gainsTo m s 0)) := by
    rw [hW]
    have := ownsRow_gain (w.alloc (.cells #[.int .i64 m.size, .slice a m.doors.length c, .slice b m.keys.length d] 27)) w.heap.size (.int .i64 0) (.int .i64 s) (by simp)
    rw [World.size_alloc] at this
    exact this
  clear hW
  have X1 := Lib.hid x1
  have O1 := Lib.hid o1
  have HB := Lib.hid hb
  clear x1 o1 hb
  go_loopw [5] (fun v5 wr => ∃ (k : Nat), k ≤ M.lastG m s ∧ wr.ownsRow w.heap.size 129 2 v5 (k + 1) (M.encGs (M.gainsTo m s k)) ∧ Box3 wr w.heap.size 27 (.int .i64 m.size) (.slice a m.doors.length c) (.slice b m.keys.length d) ∧ Below w.heap.size w wr) (fun v5 _ => 70 - sliceLen v5)
  case atStart => exact ⟨0, Nat.zero_le _, O1.out, X1.out, HB.out⟩
  case round =>
    obtain ⟨k, hk, ho, hx, hlow⟩ := hrel
    obtain ⟨la, lc, hv, hl1, hl2, hlr⟩ := own_slice ho
    subst hv
    have HO := Lib.hid ho
    have X7 := Lib.hid hx
    have B7 := Lib.hid hlow
    have hzr := hlow.size
    obtain ⟨lb, loff, hla, hlb1, hlb2, hlc⟩ := hlr.row.at_ (k := k * 2) (by rw [M.encGs_len, M.gainsTo_len]; omega)
    have hkl : k < (M.gainsTo m s k).length := by rw [M.gainsTo_len]; omega
    have gx0 := hlc _ _ (M.encGs_at0 hkl)
    have gx1 : wr.cell? ⟨lb, loff + k * 2 + 1, none⟩ = _ := hlc _ _ (M.encGs_at1 hkl)
    rw [M.gainsTo_at] at gx0 gx1
    have hgi := HLI.out k hk
    subst hla
    obtain ⟨c0, c1, c2⟩ := hx.cells
    have hbl := hx.lt
    clear ho hx hlow hlr hlc
    have e1 : (M.pairAt m s k).1 = ((M.gn m s k : Nat) : Int) := rfl
    have e2 : (M.pairAt m s k).2 = M.it m s k := rfl
    have e3 : M.nextC m (M.it m s k) = M.it m s (k + 1) := rfl
    have e4 : ((M.mk (M.reachOf m 0 (M.it m s k)) : Nat) : Int) = ((M.gn m s (k + 1) : Nat) : Int) := rfl
    rw [e1] at gx0
    rw [e2] at gx1
    clear e1 e2
    have HP := Lib.hid (fun W' (hq : Below wr.heap.size wr W') => playRound_any W' lo hi m a b c d (H.out.below (B7.out.trans (hq.mono hzr)) hz) (by have := hq.size; omega) HVA.out (M.gn m s k : Nat) (M.it m s k) (M.it_set HVA.out ⟨h0, h1⟩ k))
    rw [e3, e4] at HP
    clear e3 e4
    have HGS := Lib.hid (M.gainsTo_succ m s k)
    have hpe : M.pairAt m s (k + 1) = (((M.gn m s (k + 1) : Nat) : Int), M.it m s (k + 1)) := rfl
    rw [hpe] at HGS
    clear hpe
    generalize M.gn m s k = n0 at *
    generalize M.it m s k = s0 at *
    generalize M.gn m s (k + 1) = n1 at *
    generalize M.it m s (k + 1) = s1 at *
    go_wp2_with fail
    refine (HP.out _ (below_alloc _ _)).mono ?_
    rintro e w5 ⟨rfl, hb5⟩
    have hbw5 : Below wr.heap.size wr w5 := (below_alloc wr _).trans (hb5.mono (by simp))
    have n5 := (Box2.new (w := wr) (g := wr.heap.size) 129 (.int .i64 (n0 : Nat)) (.int .i64 s0) rfl).below hb5
    have N5 := Lib.hid n5
    have X5 := Lib.hid (X7.out.below hbw5)
    have O5 := Lib.hid (own_below HO.out hbw5)
    have B5 := Lib.hid (B7.out.trans (hbw5.mono hzr))
    have hz5 := hbw5.size
    have hn5l := n5.lt
    clear hb5 hbw5 n5 c0 c1 c2 gx0 gx1
    have n6 := (N5.out.alloc (.cells #[.int .i64 (n1 : Nat), .int .i64 s1] 129)).cells
    obtain ⟨u0, u1⟩ := n6
    obtain ⟨u2, u3⟩ := (Box2.new (w := w5) (g := w5.heap.size) 129 (.int .i64 (n1 : Nat)) (.int .i64 s1) rfl).cells
    have t3 := eqTG
    have HPC := Lib.hid hgi
    clear hgi
    by_cases hkk : k = M.lastG m s
    · obtain ⟨q1, q2⟩ := HPC.out.2 hkk
      have q3 : ∀ w, (Op.equalIn 10000 129 (.agg #[.int .i64 (n1 : Nat), .int .i64 s1]) (.agg #[.int .i64 (n0 : Nat), .int .i64 s0])).run Try.prog w = .ok true w := fun w => by rw [eqG, q1, q2]; simp
      have HK := Lib.hid hkk
      clear q1 q2 hkk
      go_wp2_with fail
      go_ret
      rw [← HK.out]
      exact gains_end (O5.out.alloc _) (M.gainsTo_len m s k).symm (B5.out.alloc (by omega) _)
    · have hne : ¬ (n1 = n0 ∧ s1 = s0) := fun h => hkk (HPC.out.1 h)
      have q3 : ∀ w, (Op.equalIn 10000 129 (.agg #[.int .i64 (n1 : Nat), .int .i64 s1]) (.agg #[.int .i64 (n0 : Nat), .int .i64 s0])).run Try.prog w = .ok false w := fun w => by
        rw [eqG]
        congr 1
        rw [Bool.eq_false_iff]
        intro hh
        simp only [Bool.and_eq_true, beq_iff_eq] at hh
        exact hne ⟨by omega, hh.2⟩
      have HK := Lib.hid hkk
      clear hne hkk
      have hne2 := own_ne_box O5.out X5.out (by decide)
      have HNE := Lib.hid hne2
      clear hne2
      go_wp2_with (at_builtin; refine wpList_append_own _ rfl _ _ 109 rfl w.heap.size 129 i0 (.agg #[.int .i64 0, .int .i64 0]) 2 16 Try.underlying109 hi0 hz0 hz1 hz2 rfl (by decide) _ _ _ rfl ((O5.out.alloc _).alloc _) ⟨w5.heap.size + 1, 0, none⟩ 1 1 [.int .i64 (n1 : Nat), .int .i64 s1] rfl rfl (newsG (Box2.new _ _ _ (by simp))) (fun x hx => by simp at hx; rcases hx with rfl | rfl <;> rfl) (by unfold maxLen; omega) (by omega) (by simp; omega) ?_; intro v' w7 hown' hgrow7 hnil7)
      obtain ⟨va, vc, hva, _, _, _⟩ := own_slice hown'
      subst hva
      refine ⟨⟨k + 1, by have := HK.out; omega, ?_, ((X5.out.alloc _).alloc _).grown hgrow7 HNE.out, ((B5.out.alloc (by omega) _).alloc (by simp; omega) _).grown hgrow7 (by simp; omega) (own_base O5.out)⟩, by simp [sliceLen]; omega⟩
      rw [HGS.out, M.encGs_append]
      exact hown'
end C
end Go.Proofs.Ytddpjjdncmokmaa
namespace Go.Proofs.Ytddpjjdncmokmaa
open Go.RowKit
namespace C
set_option maxHeartbeats 1600000
set_option maxRecDepth 20000
def PredGOk (g : Nat) (lb : Array Value) (p : M.Gn → Bool) (w : World) : Prop :=
  ∀ W x, Below w.heap.size w W → Calls Try.prog g (#[.agg #[.int .i64 x.1, .int .i64 x.2]] ++ lb) W fun e w' => e = .returned (.bool (p x)) ∧ Below W.heap.size W w'
theorem indexG_any (g : Nat) (lb : Array Value) (p : M.Gn → Bool) (eg : ∀ args w, (callFunc g args).run Try.prog w = .ok (.enter g args) w) (w : World) (lo hi : Nat) (a : Option Addr) (c : Nat) (l : List M.Gn)
    (hp : PredGOk g lb p w) (h : RowIn lo hi w a (M.encGs l)) (hz : hi ≤ w.heap.size) (hl : l.length ≤ 1048576) :
    Calls Try.prog 130 #[.slice a l.length c, .func (.func g) #[] lb] w fun e w' => (∃ i : Int, e = .returned (.int .i64 i) ∧ M.IsIdx p l i) ∧ Below w.heap.size w w' := by
  have h' := Lib.hid h
  have HP := Lib.hid hp
  clear h hp
  go_enter Try.func130, Try.ntmps130
  go_wp2_with fail
  go_loopw [5, 8] (fun _ i wr => ∃ (k : Nat), k ≤ l.length ∧ i = .int .i64 k ∧ (∀ j (hj : j < l.length), j < k → p l[j] = false) ∧ Below w.heap.size w wr) (fun _ i _ => l.length - (intOf i).toNat)
  case atStart => exact ⟨0, Nat.zero_le _, rfl, fun j _ h => by omega, Below.refl _ _⟩
  case round =>
    obtain ⟨k, hk, rfl, hall, hnx⟩ := hrel
    have HA := Lib.hid hall
    have HN := Lib.hid hnx
    have hzr := hnx.size
    clear hall hnx
    by_cases hlt : k < l.length
    · obtain ⟨b, off, rfl, _, hb, hc0⟩ := h'.out.at_ (k := k * 2) (by rw [M.encGs_len]; omega)
      have hx0 : wr.cell? ⟨b, off + k * 2, none⟩ = some (.int .i64 l[k].1) := (HN.out.cell (p := ⟨b, off + k * 2, none⟩) (Nat.lt_of_lt_of_le hb hz)).trans (hc0 _ _ (M.encGs_at0 hlt))
      have hx1 : wr.cell? ⟨b, off + k * 2 + 1, none⟩ = some (.int .i64 l[k].2) := (HN.out.cell (p := ⟨b, off + k * 2 + 1, none⟩) (Nat.lt_of_lt_of_le hb hz)).trans (hc0 _ _ (M.encGs_at1 hlt))
      clear hc0
      have CP := Lib.hid (HP.out wr l[k] HN.out)
      cases hq : p l[k] with
      | true =>
        rw [hq] at CP
        have HQ := Lib.hid hq
        clear hq
        go_wp2_with (go_at_fn g; refine (CP.out).mono ?_; rintro e w' ⟨rfl, hb2⟩)
        go_ret
        exact ⟨⟨k, rfl, .inl ⟨k, hlt, rfl, HQ.out, fun j hj hjk => HA.out j hj hjk⟩⟩, HN.out.trans (hb2.mono hzr)⟩
      | false =>
        rw [hq] at CP
        have HQ := Lib.hid hq
        clear hq
        go_wp2_with (go_at_fn g; refine (CP.out).mono ?_; rintro e w' ⟨rfl, hb2⟩)
        go_roundw
        case rel => exact ⟨k + 1, by omega, by go_num, fun j hj hjk => by
            rcases Nat.lt_or_ge j k with h | h
            · exact HA.out j hj h
            · obtain rfl : j = k := by omega
              exact HQ.out, HN.out.trans (hb2.mono hzr)⟩
        case measure => simp [intOf]; omega
    · obtain rfl : k = l.length := by omega
      go_wp2_with fail
      go_ret
      exact ⟨⟨-1, rfl, .inr ⟨rfl, fun j hj => HA.out j hj hj⟩⟩, HN.out⟩
end C
end Go.Proofs.Ytddpjjdncmokmaa
namespace Go.Proofs.Ytddpjjdncmokmaa
open Go.RowKit
namespace M
def bitB (x : Nat) (q : Gn) : Bool := bits .and .i64 (q.1 / 2 ^ x) 1 == 1
theorem bit_pair {m : Mz} (V : Valid m) (s : Int) (i x : Nat) : bitB x (pairAt m s i) = digB (gn m s i) x := bit_test (gn_lt V s i)
theorem idx_ent {m : Mz} (V : Valid m) (s : Int) (G x : Nat) {i : Int} (h : IsIdx (bitB x) (gainsTo m s G) i) : (i = -1 ∧ entTo m s G x = 0) ∨ ∃ k : Nat, i = (k : Int) ∧ entTo m s G x = k ∧ k ≤ G := by
  have key : ∀ j, digB (gn m s (j + 1)) x = false → (x : Int) ∉ reachOf m 0 (it m s j) := fun j hf hm => by
    rw [(digB_gn V s j x).2 hm] at hf
    cases hf
  rcases h with ⟨k, hk, rfl, hp, hn⟩ | ⟨rfl, hn⟩
  · right
    rw [gainsTo_len] at hk
    refine ⟨k, rfl, ?_, by omega⟩
    rw [gainsTo_at, bit_pair V] at hp
    rcases k with _ | r
    · simp [gn, digB] at hp
    · rw [entTo_pos]
      refine ⟨by omega, (digB_gn V s r x).1 hp, fun j hj => key j ?_⟩
      have := hn (j + 1) (by rw [gainsTo_len]; omega) (by omega)
      rwa [gainsTo_at, bit_pair V] at this
  · left
    refine ⟨rfl, entTo_zero.2 fun j hj => key j ?_⟩
    have := hn (j + 1) (by rw [gainsTo_len]; omega)
    rwa [gainsTo_at, bit_pair V] at this
end M
namespace C
set_option maxHeartbeats 1600000
set_option maxRecDepth 20000
theorem roundOf1_any (B : Nat) (x : Nat) (q : M.Gn) (w : World) (hc : w.cell? ⟨B, 0, none⟩ = some (.int .i64 (x : Int))) (hB : B < w.heap.size) (hx : x < 64) :
    Calls Try.prog 131 (#[.agg #[.int .i64 q.1, .int .i64 q.2]] ++ #[.pointer (some ⟨B, 0, none⟩)]) w fun e w' => e = .returned (.bool (M.bitB x q)) ∧ Below w.heap.size w w' := by
  show Calls Try.prog 131 #[.agg #[.int .i64 q.1, .int .i64 q.2], .pointer (some ⟨B, 0, none⟩)] w _
  have hx0 : ¬ ((x : Nat) : Int) < 0 := by omega
  have hc2 : (w.alloc (.cells #[.int .i64 q.1, .int .i64 q.2] 129)).cell? ⟨B, 0, none⟩ = some (.int .i64 (x : Int)) := ((below_alloc w _).cell (p := ⟨B, 0, none⟩) hB).trans hc
  go_enter Try.func131, Try.ntmps131
  go_wp2_with fail
  go_ret
  exact ⟨by unfold M.bitB; simp, below_alloc _ _⟩
theorem roundOf_any (w : World) (lo hi : Nat) (m : M.Mz) (V : M.Valid m) (s : Int) (G x : Nat) (a : Option Addr) (c : Nat) (h : RowIn lo hi w a (M.encGs (M.gainsTo m s G))) (hz : hi ≤ w.heap.size) (hG : G ≤ 1000) (hx : x < 64) :
    Calls Try.prog 107 #[.slice a (G + 1) c, .int .i64 (x : Int)] w fun e w' => e = .returned (.int .i64 (M.entTo m s G x : Nat)) ∧ Below w.heap.size w w' := by
  have H := Lib.hid h
  have HIE := Lib.hid (fun i hi => M.idx_ent V s G x (i := i) hi)
  clear h V
  go_enter Try.func107, Try.ntmps107
  go_wp2_with fail
  refine named ?_
  intro W hW
  have hb : Below w.heap.size w W := by rw [hW]; exact below_alloc _ _
  have hc : W.cell? ⟨w.heap.size, 0, none⟩ = some (.int .i64 (x : Int)) := by rw [hW]; exact cell_one_new w (.int .i64 x) 3 0 _ rfl
  have hlt : w.heap.size < W.heap.size := by rw [hW]; simp
  clear hW
  have hzw := hb.size
  have HB := Lib.hid hb
  have hg := M.gainsTo_len m s G
  have CI := indexG_any 131 #[.pointer (some ⟨w.heap.size, 0, none⟩)] (M.bitB x) (enters_of Try.func131 (by kernel_rfl) rfl) W lo hi a c (M.gainsTo m s G) (fun W' q hb' => roundOf1_any w.heap.size x q W' ((hb'.cell (p := ⟨w.heap.size, 0, none⟩) hlt).trans hc) (Nat.lt_of_lt_of_le hlt hb'.size) hx) (H.out.below hb hz) (by omega) (by omega)
  rw [hg] at CI
  refine CI.mono ?_
  rintro e w2 ⟨⟨i, rfl, hi⟩, hb2⟩
  have HB2 := Lib.hid (HB.out.trans (hb2.mono hzw))
  clear hb2 hb CI
  rcases HIE.out i hi with ⟨rfl, he⟩ | ⟨k, rfl, he, hk⟩
  · have HE := Lib.hid he
    clear hi he
    go_wp2_with fail
    go_ret
    exact ⟨by rw [HE.out]; rfl, HB2.out⟩
  · have HE := Lib.hid he
    clear hi he
    go_wp2_with fail
    all_goals
      go_ret
      exact ⟨by rw [HE.out]; simp; try omega, HB2.out⟩
end C
end Go.Proofs.Ytddpjjdncmokmaa
namespace Go.Proofs.Ytddpjjdncmokmaa
open Go.RowKit
namespace C
set_option maxHeartbeats 1600000
set_option maxRecDepth 20000
structure CSt (w : World) (m : M.Mz) (a b : Option Addr) (c d L bg : Nat) (ca cb : Option Addr) (cc cd : Nat) (wr : World) (ks : List Int) : Prop where
  box : Box3 wr w.heap.size 27 (.int .i64 m.size) (.slice a m.doors.length c) (.slice b m.keys.length d)
  res : Box3 wr (w.heap.size + 1) 27 (.int .i64 0) (.slice none 0 0) (.slice none 0 0)
  out : Box3 wr bg 27 (.int .i64 m.size) (.slice ca m.doors.length cc) (.slice cb m.keys.length cd)
  own : MzOwn L bg wr ⟨m.size, m.doors, ks⟩ ca cc cb cd
  low : Below w.heap.size w wr
theorem CSt.later {w : World} {m : M.Mz} {a b : Option Addr} {c d L bg : Nat} {ca cb : Option Addr} {cc cd : Nat} {wr wr' : World} {ks : List Int} (h : CSt w m a b c d L bg ca cb cc cd wr ks) (hb : Below wr.heap.size wr wr') : CSt w m a b c d L bg ca cb cc cd wr' ks :=
  ⟨h.box.below hb, h.res.below hb, h.out.below hb, h.own.below hb (Nat.le_of_lt h.out.lt), h.low.trans (hb.mono h.low.size)⟩
theorem CSt.set {w : World} {m : M.Mz} {a b : Option Addr} {c d L bg : Nat} {ca : Option Addr} {cc cd g off : Nat} {wr : World} {ks : List Int} (h : CSt w m a b c d L bg ca (some ⟨g, off, none⟩) cc cd wr ks) (hL : w.heap.size + 1 < L) (hg1 : L ≤ g) (hg2 : g < bg) {k : Nat} (hk : k < ks.length) (v : Int) :
    CSt w m a b c d L bg ca (some ⟨g, off, none⟩) cc cd (wr.setCell ⟨g, off + k, none⟩ (.int .i64 v)) (ks.set k v) :=
  have t := Turned.setCell (lo := L) (hi := bg) wr g (off + k) (.int .i64 v) hg1 hg2
  ⟨h.box.turned t (.inl (by omega)), h.res.turned t (.inl (by omega)), h.out.turned t (.inr (Nat.le_refl _)), h.own.setKey rfl k hk v, h.low.setCell (p := ⟨g, off + k, none⟩) (by show w.heap.size ≤ g; omega) _⟩
theorem withoutColours_any (w : World) (lo hi : Nat) (m : M.Mz) (a b : Option Addr) (c d : Nat) (h : MzIn lo hi w m a c b d) (hz : hi ≤ w.heap.size) (h1 : m.doors.length ≤ 1048576) (h2 : m.keys.length ≤ 1048576) (t : Int) :
    Calls Try.prog 57 #[.agg #[.int .i64 m.size, .slice a m.doors.length c, .slice b m.keys.length d], .int .i64 t] w (MzPost w (M.noSet m t)) := by
  have H := Lib.hid h
  clear h
  go_enter Try.func57, Try.ntmps57
  go_wp2_with fail
  refine named ?_
  intro W hW
  have hb : Below w.heap.size w W := by rw [hW]; exact (below_alloc _ _).alloc (by simp) _
  have x1 : Box3 W w.heap.size 27 (.int .i64 m.size) (.slice a m.doors.length c) (.slice b m.keys.length d) := by rw [hW]; exact (Box3.new _ _ _ _ rfl).alloc _
  have y1 : Box3 W (w.heap.size + 1) 27 (.int .i64 0) (.slice none 0 0) (.slice none 0 0) := by rw [hW]; exact Box3.new _ _ _ _ (by simp)
  clear hW
  have hzw := hb.size
  have hbl := y1.lt
  refine (clone_any W lo hi m a b c d (H.out.below hb hz) (by omega) h1 h2).mono ?_
  rintro e w3 ⟨ca, cc, cb, cd, rfl, ho, hb3⟩
  have hz3w := hb3.size
  have ho3 := hb.trans (hb3.mono (by omega))
  go_wp2_with fail
  refine wp_named ?_
  intro W4 hW4
  have hb4 : Below w3.heap.size w3 W4 := by rw [hW4]; exact below_alloc _ _
  have t4 : Box3 W4 w3.heap.size 27 (.int .i64 m.size) (.slice ca m.doors.length cc) (.slice cb m.keys.length cd) := by rw [hW4]; exact Box3.new _ _ _ _ rfl
  have ST := Lib.hid (show CSt w m a b c d W.heap.size w3.heap.size ca cb cc cd W4 (M.repT (fun s => M.lessS s t) m.keys 0) from by
    rw [M.repT_zero]
    exact ⟨(x1.below hb3).below hb4, (y1.below hb3).below hb4, t4, ho.below hb4 (Nat.le_refl _), ho3.trans (hb4.mono ho3.size)⟩)
  have hz4 := hb4.size
  clear hW4 hb hb3 hb4 ho ho3 x1 y1 t4
  go_loopw [6, 12] (fun _ i wr => ∃ (k : Nat), k ≤ m.keys.length ∧ i = .int .i64 k ∧ CSt w m a b c d W.heap.size w3.heap.size ca cb cc cd wr (M.repT (fun s => M.lessS s t) m.keys k)) (fun _ i _ => m.keys.length - (intOf i).toNat)
  case atStart => exact ⟨0, Nat.zero_le _, rfl, ST.out⟩
  case round =>
    obtain ⟨k, hk, rfl, hst⟩ := hrel
    have SR := Lib.hid hst
    obtain ⟨o0, o1, o2⟩ := hst.out.cells
    have hol := hst.out.lt
    clear hst
    by_cases hkl' : k < m.keys.length
    · obtain ⟨g, off, hcb, hg1, hg2, hc0⟩ := SR.out.own.keys.row.at_ (k := k) (by rw [M.encIs_len]; show k < (M.repT _ m.keys k).length; rw [M.repT_len]; exact hkl')
      have cx : wr.cell? ⟨g, off + k, none⟩ = some (.int .i64 m.keys[k]) := hc0 _ _ (by show (M.encIs (M.repT _ m.keys k))[k]? = _; unfold M.encIs; rw [List.getElem?_map, M.repT_get hkl']; rfl)
      have fx : wr.frozen? ⟨g, off + k, none⟩ = false := SR.out.own.keys.free hcb (k := k) (by rw [M.encIs_len]; show k < (M.repT _ m.keys k).length; rw [M.repT_len]; exact hkl') _
      clear hc0
      subst hcb
      have hss := SR.out.set hbl hg1 hg2 (k := k) (by rw [M.repT_len]; exact hkl') (M.lessS m.keys[k] t)
      rw [show (M.repT (fun s => M.lessS s t) m.keys k).set k (M.lessS m.keys[k] t) = _ from M.repT_set (f := fun s => M.lessS s t) hkl'] at hss
      have SS := Lib.hid hss
      clear hss
      go_wp2_with fail
      go_roundw
      case rel => exact ⟨k + 1, by omega, by go_num, SS.out⟩
      case measure => simp [intOf]; omega
    · obtain rfl : k = m.keys.length := by omega
      have hyb := SR.out.res
      obtain ⟨k0, k1, k2⟩ := hyb.cells
      obtain ⟨f0, f1, f2⟩ := hyb.free
      obtain ⟨r0, r1, r2⟩ := (hyb.setAll (.int .i64 m.size) (.slice ca m.doors.length cc) (.slice cb m.keys.length cd)).cells
      have hzr := SR.out.out.lt
      go_wp2_with fail
      refine bodyPost_ret (v := .agg #[.int .i64 m.size, .slice ca m.doors.length cc, .slice cb m.keys.length cd]) (by simp [results, Try.results57, go_sem, r0, r1, r2]) rfl ?_
      have hown := SR.out.own
      rw [M.repT_all] at hown
      exact mz_endAt (m := M.noSet m t) SR.out.low hown (.inl hbl) (by omega) (by omega) (by omega) rfl (by simp [M.noSet])
end C
end Go.Proofs.Ytddpjjdncmokmaa
namespace Go.Proofs.Ytddpjjdncmokmaa
open Go.RowKit
namespace M
theorem SubS.orL {s t u : Int} (hs : 0 ≤ s ∧ s < 64) (ht : 0 ≤ t ∧ t < 64) (hu : 0 ≤ u ∧ u < 64) (h1 : SubS s u) (h2 : SubS t u) : SubS (bits .or .i64 s t) u := by
  obtain ⟨a, rfl⟩ : ∃ a : Nat, s = a := ⟨s.toNat, by omega⟩
  obtain ⟨b, rfl⟩ : ∃ b : Nat, t = b := ⟨t.toNat, by omega⟩
  obtain ⟨c, rfl⟩ : ∃ c : Nat, u = c := ⟨u.toNat, by omega⟩
  rw [sub_nat (by omega) (by omega)] at h1 h2
  have ho := or_set hs.1 hs.2 ht.1 ht.2
  rw [or_nat (by omega) (by omega)] at ho ⊢
  rw [sub_nat (by omega) (by omega), Nat.and_or_distrib_left, h1, h2]
theorem gath_least {m : Mz} (V : Valid m) {u : Int} (hu : 0 ≤ u ∧ u < 64) : ∀ (l : List Int) (s : Int), 0 ≤ s ∧ s < 64 → SubS s u → (∀ x ∈ l, SubS (m.keys.getD x.toNat 0) u) → SubS (gath m l s) u
  | [], _, _, h, _ => h
  | x :: l, s, hs, h, hl => by
    have hk := key_set V x.toNat
    exact gath_least V hu l _ (or_set hs.1 hs.2 hk.1 hk.2) (SubS.orL hs hk hu h (hl x (by simp))) fun y hy => hl y (List.mem_cons_of_mem _ hy)
theorem SubS.orR {s t : Int} (hs : 0 ≤ s ∧ s < 64) (ht : 0 ≤ t ∧ t < 64) : SubS t (bits .or .i64 s t) := by
  obtain ⟨a, rfl⟩ : ∃ a : Nat, s = a := ⟨s.toNat, by omega⟩
  obtain ⟨b, rfl⟩ : ∃ b : Nat, t = b := ⟨t.toNat, by omega⟩
  have ho := or_set hs.1 hs.2 ht.1 ht.2
  rw [or_nat (by omega) (by omega)] at ho ⊢
  rw [sub_nat (by omega) (by omega)]
  refine Nat.eq_of_testBit_eq fun i => ?_
  rw [Nat.testBit_and, Nat.testBit_or]
  cases a.testBit i <;> cases b.testBit i <;> rfl
theorem gath_key {m : Mz} (V : Valid m) : ∀ (l : List Int) (s : Int), 0 ≤ s ∧ s < 64 → ∀ x ∈ l, SubS (m.keys.getD x.toNat 0) (gath m l s)
  | y :: l, s, hs, x, hx => by
    have hk := key_set V y.toNat
    have ho := or_set hs.1 hs.2 hk.1 hk.2
    rcases List.mem_cons.1 hx with rfl | hx
    · exact (SubS.orR hs hk).trans hk ho (gath_set V l _ ho).1 (gath_set V l _ ho).2
    · exact gath_key V l _ ho x hx
end M
end Go.Proofs.Ytddpjjdncmokmaa
