/-
  CONTRACTS of WayBack on both sides; what lay in memory stays. No condition but that the maze and the list read so.
-/
import Derived.Test.YtbpinhfjfjfbdaaSpW
import Derived.Test.YtbpinhfjfjfbdaaWayMono
import Derived.Test.YtbpinhfjfjfbdaaImplWalk
import Derived.Test.YtbpinhfjfjfbdaaSpecWalk
namespace Go.Proofs.Ytbpinhfjfjfbdaa
open Go.RowKit
namespace M
/-- where a key walk ends, with all that is taken -/
def endSt (m : Mz) (walk : List Int) : St := (walk.getD (walk.length - 1) 0, haveTo m walk walk.length)
noncomputable def wbO (m : Mz) (walk : List Int) : Option Nat := if takenOnB m walk then wayO m (endSt m walk) (nodeP 0) else none
theorem end_ok {m : Mz} (V : Valid m) {walk : List Int} (h : walkB m walk = true) : 0 < walk.length ∧ StOk m (endSt m walk) := by
  unfold walkB at h
  rw [Bool.and_eq_true, decide_eq_true_iff] at h
  obtain ⟨h0, h1⟩ := h
  have hk := all_range_take.1 h1 (walk.length - 1) (by omega)
  have hb := haveTo_bd V walk walk.length
  refine ⟨h0, ?_⟩
  unfold endSt
  rcases Nat.eq_zero_or_pos (walk.length - 1) with e | e
  · rw [e] at hk ⊢
    rw [okAt_zero m h0] at hk
    have hx : walk.getD 0 0 = 0 := by rw [List.getD_eq_getElem?_getD, List.getElem?_eq_getElem h0]; exact beq_iff_eq.1 hk
    rw [hx]
    exact ⟨Int.le_refl 0, by have := V.size1; show (0 : Int) < m.size; omega, hb.1, hb.2⟩
  · obtain ⟨j, hj⟩ : ∃ j, walk.length - 1 = j + 1 := ⟨walk.length - 2, by omega⟩
    rw [hj] at hk ⊢
    rw [okAt_succ m (by omega)] at hk
    have hn := (open_node V hk).2
    have hx : walk.getD (j + 1) 0 = walk[j + 1] := by rw [List.getD_eq_getElem?_getD, List.getElem?_eq_getElem (by omega)]; rfl
    rw [hx]
    exact ⟨hn.1, hn.2, hb.1, hb.2⟩
theorem or_again {a b : Int} (ha : 0 ≤ a ∧ a < 64) (hb : 0 ≤ b ∧ b < 64) : bits .or .i64 (bits .or .i64 a b) b = bits .or .i64 a b := by
  obtain ⟨x, rfl⟩ : ∃ x : Nat, a = x := ⟨a.toNat, by omega⟩
  obtain ⟨y, rfl⟩ : ∃ y : Nat, b = y := ⟨b.toNat, by omega⟩
  have l1 := or_set (s := (x : Int)) (t := (y : Int)) ha.1 ha.2 hb.1 hb.2
  rw [orN (by omega) (by omega)] at l1 ⊢
  rw [orN (by omega) (by omega), Nat.or_assoc, Nat.or_self]
theorem endSt_eq (m : Mz) {walk : List Int} {k : Nat} (hk : walk.length = k + 1) : endSt m walk = (walk.getD k 0, haveTo m walk (k + 1)) := by
  unfold endSt
  have e1 : walk.length - 1 = k := by omega
  rw [e1, hk]
theorem end_at {m : Mz} (V : Valid m) {walk : List Int} (h0 : 0 < walk.length) : stAt m (endSt m walk).1 (endSt m walk).2 = endSt m walk := by
  obtain ⟨k, hk⟩ : ∃ k, walk.length = k + 1 := ⟨walk.length - 1, by omega⟩
  have hkl : k < walk.length := by omega
  have hx : walk.getD k 0 = walk[k] := by rw [List.getD_eq_getElem?_getD, List.getElem?_eq_getElem hkl]; rfl
  rw [endSt_eq m hk, hx]
  unfold stAt
  simp only
  rw [haveTo_succ m hkl, or_again (haveTo_bd V walk k) (keyAt_set V _)]
theorem walk_last {m : Mz} {walk : List Int} {k : Nat} (hk : walk.length = k + 1) : (encIs walk)[k]? = some (.int .i64 (endSt m walk).1) := by
  have hkl : k < walk.length := by omega
  have hx : walk.getD k 0 = walk[k] := by rw [List.getD_eq_getElem?_getD, List.getElem?_eq_getElem hkl]; rfl
  rw [encIs_at hkl, endSt_eq m hk, hx]
theorem taken_last {m : Mz} {walk : List Int} {k : Nat} (hk : walk.length = k + 1) : (encIs (takenTo m walk walk.length))[k]? = some (.int .i64 (endSt m walk).2) := by
  rw [endSt_eq m hk]
  unfold takenTo encIs
  rw [List.getElem?_map, List.getElem?_map, List.getElem?_range (by omega)]
  rfl
end M
namespace C
set_option maxHeartbeats 3200000
set_option maxRecDepth 20000
theorem isBack_any (w : World) (s : M.St) :
    Calls Try.prog 87 (#[].push (.agg #[.int .i64 s.1, .int .i64 s.2]) ++ #[]) w (BoolW w (M.nodeP 0 s)) := by
  show Calls Try.prog 87 #[.agg #[.int .i64 s.1, .int .i64 s.2]] w _
  go_enter Try.func87, Try.ntmps87
  go_upto_region 1 with fail
  refine wp_named ?_
  intro W hW
  have hb : Below w.heap.size w W := by rw [hW]; exact below_alloc _ _
  have z1 : Box2 W w.heap.size 60 (.int .i64 s.1) (.int .i64 s.2) := by rw [hW]; exact Box2.new _ _ _ rfl
  clear hW
  obtain ⟨k0, k1⟩ := z1.cells
  have HB := Lib.hid hb
  clear hb z1
  go_wp2_with fail
  go_ret
  exact ⟨rfl, HB.out⟩
theorem implBack_lw (w : World) (lo hi : Nat) (m : M.Mz) (a b : Option Addr) (c d : Nat) (h : MzIn lo hi w m a c b d) (hz : hi ≤ w.heap.size) (h1 : m.doors.length ≤ 1048576) (h2 : m.keys.length ≤ 1048576) (lo' hi' : Nat) (wa : Option Addr) (wc : Nat) (walk : List Int) (hw : RowIn lo' hi' w wa (M.encIs walk)) (hz' : hi' ≤ w.heap.size) (hl : walk.length ≤ 1048576) (u1 : walk.length ≤ wc) (u2 : wc ≤ 9223372036854775807) (u3 : ∀ z ∈ walk, -9223372036854775808 ≤ z ∧ z ≤ 9223372036854775807) :
    Calls Try.prog 49 #[.agg #[.int .i64 m.size, .slice a m.doors.length c, .slice b m.keys.length d], .slice wa walk.length wc] w (OptPost w (M.wbO m walk)) := by
  have H := Lib.hid h
  have HW := Lib.hid hw
  have U3 := Lib.hid u3
  clear h hw u3
  go_enter Try.func49, Try.ntmps49
  go_upto_region 1 with fail
  refine wp_named ?_
  intro W hW
  have hb : Below w.heap.size w W := by rw [hW]; exact below_alloc _ _
  have x1 : Box3 W w.heap.size 29 (.int .i64 m.size) (.slice a m.doors.length c) (.slice b m.keys.length d) := by rw [hW]; exact Box3.new _ _ _ _ rfl
  clear hW
  have hzw := hb.size
  obtain ⟨c0, c1, c2⟩ := x1.cells
  have HT := Lib.hid (implTakenOn_lw W lo hi m a b c d (H.out.below hb hz) (by omega) h1 h2 lo' hi' wa wc walk (HW.out.below hb hz') (by omega) hl u1 u2 U3.out)
  go_wp2_with fail
  refine (HT.out).mono ?_
  rintro e w1 ⟨ta, tc, rfl, hto, htq1, htq2, hb1⟩
  have X1 := Lib.hid (x1.below hb1)
  have HB1 := Lib.hid (hb.trans (hb1.mono hzw))
  have hz1 := hb1.size
  clear hb hb1 x1 c0 c1 c2
  cases q0 : M.takenOnB m walk with
  | false =>
    have HF : Hid (M.wbO m walk = none) := Lib.hid (by unfold M.wbO; rw [q0]; rfl)
    clear q0 hto htq1 htq2
    go_wp2_with fail
    go_ret2
    rw [HF.out]
    exact ⟨rfl, HB1.out⟩
  | true =>
    have hq := q0
    unfold M.takenOnB at hq
    rw [Bool.and_eq_true] at hq
    have HVA := Lib.hid (M.valid_of hq.1)
    obtain ⟨hlen, hok⟩ := M.end_ok HVA.out hq.2
    have htv : M.takenOnV m walk = M.takenTo m walk walk.length := by unfold M.takenOnV; rw [if_pos hq.1, M.takenV_yes hq.2]
    rw [htv] at hto htq1
    rw [htv]
    have HF : Hid (M.wbO m walk = M.minO (fun t => M.nodeP 0 t = true) (M.dst (M.nexts m) [M.endSt m walk])) := Lib.hid (by unfold M.wbO M.wayO; rw [if_pos q0])
    have v1 := HVA.out.size1
    have v12 := HVA.out.size12
    rw [M.takenTo_len] at htq1 ⊢
    obtain ⟨k, hk⟩ : ∃ k, walk.length = k + 1 := ⟨walk.length - 1, by omega⟩
    obtain ⟨xb, xo, hxa, _, hxbl, hxc⟩ := (HW.out.below HB1.out hz').at_ (k := k) (by rw [M.encIs_len]; omega)
    obtain ⟨tb, tof, hta, _, htbl, htc⟩ := hto.row.at_ (k := k) (by rw [M.encIs_len, M.takenTo_len]; omega)
    have cx : w1.cell? ⟨xb, xo + k, none⟩ = _ := hxc _ _ (M.walk_last (m := m) hk)
    have ct : w1.cell? ⟨tb, tof + k, none⟩ = _ := htc _ _ (M.taken_last hk)
    subst hxa
    subst hta
    have HEND := Lib.hid (M.end_at HVA.out hlen)
    have HOK := Lib.hid hok
    obtain ⟨e1, e2, e3, e4⟩ := hok
    rw [hk] at htq1 u1 ⊢
    clear q0 hq hto htv hxc htc
    generalize M.endSt m walk = s at *
    have hkb : k < 1048576 := by omega
    have hk1 : (k : Int) < (k : Int) + 1 := by omega
    clear hk hl hlen
    go_wp2_with fail
    refine wp_region_late2 (fun (wq : World) => wq.cell? ⟨w.heap.size, 0, none⟩ = some (.int .i64 m.size) ∧ wq.cell? ⟨w.heap.size, 1, none⟩ = some (.slice a m.doors.length c) ∧ wq.cell? ⟨w.heap.size, 2, none⟩ = some (.slice b m.keys.length d) ∧ wq.cell? ⟨xb, xo + k, none⟩ = some (.int .i64 s.1) ∧ wq.cell? ⟨tb, tof + k, none⟩ = some (.int .i64 s.2)) [] 18 #[false, false, false, false, false, false, false, false, false, false, false, false, false, false, false, false, false, false] rfl rfl (by kernel_rfl) ?_
    have hS : (fun (wq : World) => wq.cell? ⟨w.heap.size, 0, none⟩ = some (.int .i64 m.size) ∧ wq.cell? ⟨w.heap.size, 1, none⟩ = some (.slice a m.doors.length c) ∧ wq.cell? ⟨w.heap.size, 2, none⟩ = some (.slice b m.keys.length d) ∧ wq.cell? ⟨xb, xo + k, none⟩ = some (.int .i64 s.1) ∧ wq.cell? ⟨tb, tof + k, none⟩ = some (.int .i64 s.2)) w1.drew := ⟨X1.out.cells.1, X1.out.cells.2.1, X1.out.cells.2.2, cx, ct⟩
    refine wpAnyL_take (i := 0) (oi := { dst := some 21, op := Go.Op.load 29 (Go.Operand.tmp 2), type := 29, pos := "l4_ways.go:291", after := #[], guard := none }) (v := ?bv0) rfl (by kernel_rfl) (by kernel_rfl) (by kernel_rfl) (by kernel_rfl) (fun _ _ _ h => h) (Or.inl ⟨by rfl, ?bh0⟩) hS ?br0
    case bh0 => (intro wS hSw; (try dsimp only at hSw); go_split_ands; go_simp; try with_reducible rfl)
    try simp only [Act.put, List.setIfInBounds_toArray, List.set_cons_zero, List.set_cons_succ]
    refine wpAnyL_take (i := 1) (oi := { dst := some 22, op := Go.Op.load 29 (Go.Operand.tmp 2), type := 29, pos := "l4_ways.go:291", after := #[], guard := none }) (v := ?bv1) rfl (by kernel_rfl) (by kernel_rfl) (by kernel_rfl) (by kernel_rfl) (fun _ _ _ h => h) (Or.inl ⟨by rfl, ?bh1⟩) hS ?br1
    case bh1 => (intro wS hSw; (try dsimp only at hSw); go_split_ands; go_simp; try with_reducible rfl)
    try simp only [Act.put, List.setIfInBounds_toArray, List.set_cons_zero, List.set_cons_succ]
    refine wpAnyL_take (i := 2) (oi := { dst := some 23, op := Go.Op.move (Go.Operand.tmp 1), type := 23, pos := "l4_ways.go:291", after := #[], guard := none }) (v := ?bv2) rfl (by kernel_rfl) (by kernel_rfl) (by kernel_rfl) (by kernel_rfl) (fun _ _ _ h => h) (Or.inl ⟨by rfl, ?bh2⟩) hS ?br2
    case bh2 => (intro wS hSw; (try dsimp only at hSw); go_split_ands; go_simp; try with_reducible rfl)
    try simp only [Act.put, List.setIfInBounds_toArray, List.set_cons_zero, List.set_cons_succ]
    refine wpAnyL_take (i := 3) (oi := { dst := some 24, op := Go.Op.move (Go.Operand.tmp 8), type := 3, pos := "l4_ways.go:291", after := #[], guard := none }) (v := ?bv3) rfl (by kernel_rfl) (by kernel_rfl) (by kernel_rfl) (by kernel_rfl) (fun _ _ _ h => h) (Or.inl ⟨by rfl, ?bh3⟩) hS ?br3
    case bh3 => (intro wS hSw; (try dsimp only at hSw); go_split_ands; go_simp; try with_reducible rfl)
    try simp only [Act.put, List.setIfInBounds_toArray, List.set_cons_zero, List.set_cons_succ]
    refine wpAnyL_take (i := 4) (oi := { dst := some 25, op := Go.Op.indexAddr 23 (Go.Operand.tmp 23) (Go.Operand.tmp 24), type := 0, pos := "l4_ways.go:291", after := #[{ on := 2, ground := Go.Ground.data }, { on := 3, ground := Go.Ground.data }], guard := none }) (v := ?bv4) rfl (by kernel_rfl) (by kernel_rfl) (by kernel_rfl) (by kernel_rfl) (fun _ _ _ h => h) (Or.inl ⟨by rfl, ?bh4⟩) hS ?br4
    case bh4 => (intro wS hSw; (try dsimp only at hSw); go_split_ands; go_simp; try with_reducible rfl)
    try simp only [Act.put, List.setIfInBounds_toArray, List.set_cons_zero, List.set_cons_succ]
    refine wpAnyL_take (i := 5) (oi := { dst := some 26, op := Go.Op.load 3 (Go.Operand.tmp 25), type := 3, pos := "l4_ways.go:291", after := #[{ on := 4, ground := Go.Ground.data }], guard := none }) (v := ?bv5) rfl (by kernel_rfl) (by kernel_rfl) (by kernel_rfl) (by kernel_rfl) (fun _ _ _ h => h) (Or.inl ⟨by rfl, ?bh5⟩) hS ?br5
    case bh5 => (intro wS hSw; (try dsimp only at hSw); go_split_ands; go_simp; try with_reducible rfl)
    try simp only [Act.put, List.setIfInBounds_toArray, List.set_cons_zero, List.set_cons_succ]
    refine wpAnyL_take (i := 6) (oi := { dst := some 27, op := Go.Op.move (Go.Operand.tmp 6), type := 23, pos := "l4_ways.go:291", after := #[], guard := none }) (v := ?bv6) rfl (by kernel_rfl) (by kernel_rfl) (by kernel_rfl) (by kernel_rfl) (fun _ _ _ h => h) (Or.inl ⟨by rfl, ?bh6⟩) hS ?br6
    case bh6 => (intro wS hSw; (try dsimp only at hSw); go_split_ands; go_simp; try with_reducible rfl)
    try simp only [Act.put, List.setIfInBounds_toArray, List.set_cons_zero, List.set_cons_succ]
    refine wpAnyL_take (i := 7) (oi := { dst := some 28, op := Go.Op.move (Go.Operand.tmp 8), type := 3, pos := "l4_ways.go:291", after := #[], guard := none }) (v := ?bv7) rfl (by kernel_rfl) (by kernel_rfl) (by kernel_rfl) (by kernel_rfl) (fun _ _ _ h => h) (Or.inl ⟨by rfl, ?bh7⟩) hS ?br7
    case bh7 => (intro wS hSw; (try dsimp only at hSw); go_split_ands; go_simp; try with_reducible rfl)
    try simp only [Act.put, List.setIfInBounds_toArray, List.set_cons_zero, List.set_cons_succ]
    refine wpAnyL_take (i := 8) (oi := { dst := some 29, op := Go.Op.indexAddr 23 (Go.Operand.tmp 27) (Go.Operand.tmp 28), type := 0, pos := "l4_ways.go:291", after := #[{ on := 6, ground := Go.Ground.data }, { on := 7, ground := Go.Ground.data }], guard := none }) (v := ?bv8) rfl (by kernel_rfl) (by kernel_rfl) (by kernel_rfl) (by kernel_rfl) (fun _ _ _ h => h) (Or.inl ⟨by rfl, ?bh8⟩) hS ?br8
    case bh8 => (intro wS hSw; (try dsimp only at hSw); go_split_ands; go_simp; try with_reducible rfl)
    try simp only [Act.put, List.setIfInBounds_toArray, List.set_cons_zero, List.set_cons_succ]
    refine wpAnyL_take (i := 9) (oi := { dst := some 30, op := Go.Op.load 3 (Go.Operand.tmp 29), type := 3, pos := "l4_ways.go:291", after := #[{ on := 8, ground := Go.Ground.data }], guard := none }) (v := ?bv9) rfl (by kernel_rfl) (by kernel_rfl) (by kernel_rfl) (by kernel_rfl) (fun _ _ _ h => h) (Or.inl ⟨by rfl, ?bh9⟩) hS ?br9
    case bh9 => (intro wS hSw; (try dsimp only at hSw); go_split_ands; go_simp; try with_reducible rfl)
    try simp only [Act.put, List.setIfInBounds_toArray, List.set_cons_zero, List.set_cons_succ]
    refine wpAnyL_take (i := 12) (oi := { dst := some 33, op := Go.Op.move (Go.Operand.tmp 9), type := 62, pos := "l4_ways.go:291", after := #[], guard := none }) (v := ?bv12) rfl (by kernel_rfl) (by kernel_rfl) (by kernel_rfl) (by kernel_rfl) (fun _ _ _ h => h) (Or.inl ⟨by rfl, ?bh12⟩) hS ?br12
    case bh12 => (intro wS hSw; (try dsimp only at hSw); go_split_ands; go_simp; try with_reducible rfl)
    try simp only [Act.put, List.setIfInBounds_toArray, List.set_cons_zero, List.set_cons_succ]
    refine wpAnyL_one (i := 10) (oi := { dst := some 31, op := Go.Op.call { callee := Go.Callee.value (Go.Operand.func 72), args := #[Go.Operand.tmp 22, Go.Operand.tmp 26, Go.Operand.tmp 30], argTypes := #[29, 3, 3] }, type := 60, pos := "l4_ways.go:291", after := #[{ on := 1, ground := Go.Ground.data }, { on := 5, ground := Go.Ground.data }, { on := 9, ground := Go.Ground.data }], guard := none }) (by kernel_rfl) rfl (fun Kb10 hKb10 => ?_)
    refine step_call (by rfl) 72 #[.agg #[.int .i64 m.size, .slice a m.doors.length c, .slice b m.keys.length d], .int .i64 s.1, .int .i64 s.2] (by go_simp; try rfl) (show Calls _ _ _ _ (StPost _ (M.stAt m s.1 s.2)) from stateAt_any w1.drew lo hi m a b c d (H.out.below (Below.drawnN HB1.out 1) hz) (by have := HB1.out.size; show hi ≤ w1.heap.size; omega) HVA.out s.1 s.2 e1 e2) ?_
    rintro e w2 ⟨rfl, hb2⟩
    refine ⟨_, rfl, ?_⟩
    have hb2x : Below w1.heap.size w1 w2 := (Below.refl w1.heap.size w1).drew.trans hb2
    have X2 := Lib.hid (X1.out.below hb2x)
    have HB2 := Lib.hid (HB1.out.trans (hb2x.mono HB1.out.size))
    have hz2 := hb2x.size
    rw [HEND.out]
    have hS2 : (fun (wq : World) => wq.cell? ⟨w.heap.size, 0, none⟩ = some (.int .i64 m.size) ∧ wq.cell? ⟨w.heap.size, 1, none⟩ = some (.slice a m.doors.length c) ∧ wq.cell? ⟨w.heap.size, 2, none⟩ = some (.slice b m.keys.length d) ∧ wq.cell? ⟨xb, xo + k, none⟩ = some (.int .i64 s.1) ∧ wq.cell? ⟨tb, tof + k, none⟩ = some (.int .i64 s.2)) w2 := ⟨X2.out.cells.1, X2.out.cells.2.1, X2.out.cells.2.2, (hb2x.cell (p := ⟨xb, xo + k, none⟩) (by show xb < _; omega)).trans (⟨cx, ct⟩ : _ ∧ _).1, (hb2x.cell (p := ⟨tb, tof + k, none⟩) (by show tb < _; omega)).trans (⟨cx, ct⟩ : _ ∧ _).2⟩
    refine hKb10 _ _ (fun _ => hS2) ?_
    clear hS
    have hS := hS2
    try simp only [Act.put, List.setIfInBounds_toArray, List.set_cons_zero, List.set_cons_succ]
    refine wpAnyL_one (i := 11) (oi := { dst := some 32, op := Go.Op.call { callee := Go.Callee.value (Go.Operand.func 59), args := #[Go.Operand.tmp 21, Go.Operand.tmp 31], argTypes := #[29, 60] }, type := 57, pos := "l4_ways.go:291", after := #[{ on := 0, ground := Go.Ground.data }, { on := 10, ground := Go.Ground.data }, { on := 10, ground := Go.Ground.chain }], guard := none }) (by kernel_rfl) rfl (fun Kb11 hKb11 => ?_)
    refine step_call (by rfl) 59 #[.agg #[.int .i64 m.size, .slice a m.doors.length c, .slice b m.keys.length d], .agg #[.int .i64 s.1, .int .i64 s.2]] (by go_simp; try rfl) (stepsFrom_any w2 lo hi m a b c d (H.out.below HB2.out hz) (by have := HB2.out.size; omega) HVA.out s HOK.out) ?_
    rintro e w3 ⟨mb, ml, rfl, hmb3, hmp3, hml3, hb3⟩
    refine ⟨_, rfl, ?_⟩
    have X3 := Lib.hid (X2.out.below hb3)
    have HB3 := Lib.hid (HB2.out.trans (hb3.mono HB2.out.size))
    have P3 := Lib.hid hmp3
    have hz3 := hb3.size
    have hS3 : (fun (wq : World) => wq.cell? ⟨w.heap.size, 0, none⟩ = some (.int .i64 m.size) ∧ wq.cell? ⟨w.heap.size, 1, none⟩ = some (.slice a m.doors.length c) ∧ wq.cell? ⟨w.heap.size, 2, none⟩ = some (.slice b m.keys.length d) ∧ wq.cell? ⟨xb, xo + k, none⟩ = some (.int .i64 s.1) ∧ wq.cell? ⟨tb, tof + k, none⟩ = some (.int .i64 s.2)) w3 := ⟨X3.out.cells.1, X3.out.cells.2.1, X3.out.cells.2.2, (hb3.cell (p := ⟨xb, xo + k, none⟩) (by show xb < _; omega)).trans hS2.2.2.2.1, (hb3.cell (p := ⟨tb, tof + k, none⟩) (by show tb < _; omega)).trans hS2.2.2.2.2⟩
    refine hKb11 _ _ (fun _ => hS3) ?_
    clear hS
    have hS := hS3
    try simp only [Act.put, List.setIfInBounds_toArray, List.set_cons_zero, List.set_cons_succ]
    refine wpAnyL_one (i := 13) (oi := { dst := some 34, op := Go.Op.call { callee := Go.Callee.value (Go.Operand.func 63), args := #[Go.Operand.tmp 32, Go.Operand.tmp 33], argTypes := #[57, 62] }, type := 27, pos := "l4_ways.go:291", after := #[{ on := 11, ground := Go.Ground.data }, { on := 12, ground := Go.Ground.data }, { on := 11, ground := Go.Ground.chain }], guard := none }) (by kernel_rfl) rfl (fun Kb13 hKb13 => ?_)
    refine step_call (by rfl) 63 #[.map (some mb), .func (.func 87) #[] #[]] (by go_simp; try rfl) (fewestTo_any 87 #[] #[] (enters_of Try.func87 (by kernel_rfl) rfl) (M.nodeP 0) w3 mb ml _ P3.out (fun W' t _ _ => isBack_any W' t)) ?_
    rintro e w4 ⟨rfl, hb4⟩
    refine ⟨_, rfl, ?_⟩
    have X4 := Lib.hid (X3.out.below hb4)
    have HB6 := Lib.hid (HB3.out.trans (hb4.mono HB3.out.size))
    have hS4 : (fun (wq : World) => wq.cell? ⟨w.heap.size, 0, none⟩ = some (.int .i64 m.size) ∧ wq.cell? ⟨w.heap.size, 1, none⟩ = some (.slice a m.doors.length c) ∧ wq.cell? ⟨w.heap.size, 2, none⟩ = some (.slice b m.keys.length d) ∧ wq.cell? ⟨xb, xo + k, none⟩ = some (.int .i64 s.1) ∧ wq.cell? ⟨tb, tof + k, none⟩ = some (.int .i64 s.2)) w4 := ⟨X4.out.cells.1, X4.out.cells.2.1, X4.out.cells.2.2, (hb4.cell (p := ⟨xb, xo + k, none⟩) (by show xb < _; omega)).trans hS3.2.2.2.1, (hb4.cell (p := ⟨tb, tof + k, none⟩) (by show tb < _; omega)).trans hS3.2.2.2.2⟩
    refine hKb13 _ _ (fun _ => hS4) ?_
    clear hS
    have hS := hS4
    try simp only [Act.put, List.setIfInBounds_toArray, List.set_cons_zero, List.set_cons_succ]
    refine wpAnyL_take (i := 14) (oi := { dst := some 35, op := Go.Op.extract (Go.Operand.tmp 34) 0, type := 3, pos := "l4_ways.go:291", after := #[{ on := 13, ground := Go.Ground.data }], guard := none }) (v := ?bv14) rfl (by kernel_rfl) (by kernel_rfl) (by kernel_rfl) (by kernel_rfl) (fun _ _ _ h => h) (Or.inl ⟨by rfl, ?bh14⟩) hS ?br14
    case bh14 => (intro wS hSw; (try dsimp only at hSw); go_split_ands; go_simp; try with_reducible rfl)
    try simp only [Act.put, List.setIfInBounds_toArray, List.set_cons_zero, List.set_cons_succ]
    refine wpAnyL_take (i := 15) (oi := { dst := some 36, op := Go.Op.extract (Go.Operand.tmp 34) 1, type := 4, pos := "l4_ways.go:291", after := #[{ on := 13, ground := Go.Ground.data }], guard := none }) (v := ?bv15) rfl (by kernel_rfl) (by kernel_rfl) (by kernel_rfl) (by kernel_rfl) (fun _ _ _ h => h) (Or.inl ⟨by rfl, ?bh15⟩) hS ?br15
    case bh15 => (intro wS hSw; (try dsimp only at hSw); go_split_ands; go_simp; try with_reducible rfl)
    try simp only [Act.put, List.setIfInBounds_toArray, List.set_cons_zero, List.set_cons_succ]
    refine wpAnyL_take (i := 16) (oi := { dst := some 4, op := Go.Op.assign (Go.Operand.tmp 35), type := 3, pos := "l4_ways.go:291", after := #[{ on := 14, ground := Go.Ground.data }, { on := 13, ground := Go.Ground.chain }, { on := 0, ground := Go.Ground.phase }, { on := 1, ground := Go.Ground.phase }, { on := 2, ground := Go.Ground.phase }, { on := 3, ground := Go.Ground.phase }, { on := 4, ground := Go.Ground.phase }, { on := 5, ground := Go.Ground.phase }, { on := 6, ground := Go.Ground.phase }, { on := 7, ground := Go.Ground.phase }, { on := 8, ground := Go.Ground.phase }, { on := 9, ground := Go.Ground.phase }, { on := 10, ground := Go.Ground.phase }, { on := 11, ground := Go.Ground.phase }, { on := 12, ground := Go.Ground.phase }, { on := 13, ground := Go.Ground.phase }, { on := 14, ground := Go.Ground.phase }, { on := 15, ground := Go.Ground.phase }], guard := none }) (v := ?bv16) rfl (by kernel_rfl) (by kernel_rfl) (by kernel_rfl) (by kernel_rfl) (fun _ _ _ h => h) (Or.inl ⟨by rfl, ?bh16⟩) hS ?br16
    case bh16 => (intro wS hSw; (try dsimp only at hSw); go_split_ands; go_simp; try with_reducible rfl)
    try simp only [Act.put, List.setIfInBounds_toArray, List.set_cons_zero, List.set_cons_succ]
    refine wpAnyL_take (i := 17) (oi := { dst := some 5, op := Go.Op.assign (Go.Operand.tmp 36), type := 4, pos := "l4_ways.go:291", after := #[{ on := 15, ground := Go.Ground.data }, { on := 16, ground := Go.Ground.chain }, { on := 0, ground := Go.Ground.phase }, { on := 1, ground := Go.Ground.phase }, { on := 2, ground := Go.Ground.phase }, { on := 3, ground := Go.Ground.phase }, { on := 4, ground := Go.Ground.phase }, { on := 5, ground := Go.Ground.phase }, { on := 6, ground := Go.Ground.phase }, { on := 7, ground := Go.Ground.phase }, { on := 8, ground := Go.Ground.phase }, { on := 9, ground := Go.Ground.phase }, { on := 10, ground := Go.Ground.phase }, { on := 11, ground := Go.Ground.phase }, { on := 12, ground := Go.Ground.phase }, { on := 13, ground := Go.Ground.phase }, { on := 14, ground := Go.Ground.phase }, { on := 15, ground := Go.Ground.phase }, { on := 16, ground := Go.Ground.phase }], guard := none }) (v := ?bv17) rfl (by kernel_rfl) (by kernel_rfl) (by kernel_rfl) (by kernel_rfl) (fun _ _ _ h => h) (Or.inl ⟨by rfl, ?bh17⟩) hS ?br17
    case bh17 => (intro wS hSw; (try dsimp only at hSw); go_split_ands; go_simp; try with_reducible rfl)
    try simp only [Act.put, List.setIfInBounds_toArray, List.set_cons_zero, List.set_cons_succ]
    refine wpAnyL_done (by kernel_rfl) ?_ _
    go_wp2_with fail
    go_ret2
    rw [HF.out]
    exact ⟨rfl, HB6.out⟩
theorem specBack_lw (w : World) (lo hi : Nat) (m : M.Mz) (a b : Option Addr) (c d : Nat) (h : MzIn lo hi w m a c b d) (hz : hi ≤ w.heap.size) (_h1 : m.doors.length ≤ 1048576) (_h2 : m.keys.length ≤ 1048576) (lo' hi' : Nat) (wa : Option Addr) (wc : Nat) (walk : List Int) (hw : RowIn lo' hi' w wa (M.encIs walk)) (hz' : hi' ≤ w.heap.size) (hl : walk.length ≤ 1048576) (_u1 : walk.length ≤ wc) (_u2 : wc ≤ 9223372036854775807) (_u3 : ∀ z ∈ walk, -9223372036854775808 ≤ z ∧ z ≤ 9223372036854775807) :
    Calls Try.prog 47 #[.agg #[.int .i64 m.size, .slice a m.doors.length c, .slice b m.keys.length d], .slice wa walk.length wc] w (OptPost w (M.wbO m walk)) := by
  have H := Lib.hid h
  have HW := Lib.hid hw
  clear h hw
  go_enter Try.func47, Try.ntmps47
  go_upto_region 1 with fail
  refine wp_named ?_
  intro W hW
  have hb : Below w.heap.size w W := by rw [hW]; exact below_alloc _ _
  have x1 : Box3 W w.heap.size 29 (.int .i64 m.size) (.slice a m.doors.length c) (.slice b m.keys.length d) := by rw [hW]; exact Box3.new _ _ _ _ rfl
  clear hW
  have hzw := hb.size
  obtain ⟨c0, c1, c2⟩ := x1.cells
  have HIM := Lib.hid (specMaze_any W lo hi m a b c d (H.out.below hb hz) (by omega))
  go_wp2_with fail
  refine (HIM.out).mono ?_
  rintro e w0 ⟨rfl, hb0⟩
  have X0 := Lib.hid (x1.below hb0)
  have HB0 := Lib.hid (hb.trans (hb0.mono hzw))
  have hz0 := hb0.size
  clear hb hb0 x1 c0 c1 c2
  cases qm : M.mazeB m with
  | false =>
    have HF : Hid (M.wbO m walk = none) := Lib.hid (by unfold M.wbO M.takenOnB; rw [qm]; rfl)
    clear qm
    go_wp2_with fail
    go_ret2
    rw [HF.out]
    exact ⟨rfl, HB0.out⟩
  | true =>
    have HVA := Lib.hid (M.valid_of qm)
    have HM := Lib.hid qm
    clear qm
    obtain ⟨c0, c1, c2⟩ := X0.out.cells
    have HT := Lib.hid (l2Taken_any w0 lo hi lo' hi' m a b c d wa wc walk (H.out.below HB0.out hz) (by omega) HVA.out (HW.out.below HB0.out hz') (by omega) hl)
    go_wp2_with fail
    refine (HT.out).mono ?_
    rintro e w1 ⟨ta, tc, rfl, hto, htq1, htq2, hb1⟩
    have X1 := Lib.hid (X0.out.below hb1)
    have HB1 := Lib.hid (HB0.out.trans (hb1.mono HB0.out.size))
    have hz1 := hb1.size
    clear hb1 c0 c1 c2
    cases q0 : M.walkB m walk with
    | false =>
      have HF : Hid (M.wbO m walk = none) := Lib.hid (by unfold M.wbO M.takenOnB; rw [HM.out, q0]; rfl)
      clear q0 hto htq1 htq2
      go_wp2_with fail
      go_ret2
      rw [HF.out]
      exact ⟨rfl, HB1.out⟩
    | true =>
      obtain ⟨hlen, hok⟩ := M.end_ok HVA.out q0
      have htv : M.takenV m walk = M.takenTo m walk walk.length := M.takenV_yes q0
      rw [htv] at hto htq1
      rw [htv]
      have HF : Hid (M.wbO m walk = M.minO (fun t => M.leastB 0 0 6 t = true) (M.dst (M.nexts m) [M.endSt m walk])) := Lib.hid (by
        rw [M.way_same HVA.out hok (q := M.nodeP 0) fun t ht => M.leastB_node ht 0]
        unfold M.wbO M.takenOnB
        rw [HM.out, q0]
        rfl)
      have v1 := HVA.out.size1
      have v12 := HVA.out.size12
      rw [M.takenTo_len] at htq1 ⊢
      obtain ⟨k, hk⟩ : ∃ k, walk.length = k + 1 := ⟨walk.length - 1, by omega⟩
      obtain ⟨xb, xo, hxa, _, hxbl, hxc⟩ := (HW.out.below HB1.out hz').at_ (k := k) (by rw [M.encIs_len]; omega)
      obtain ⟨tb, tof, hta, _, htbl, htc⟩ := hto.row.at_ (k := k) (by rw [M.encIs_len, M.takenTo_len]; omega)
      have cx : w1.cell? ⟨xb, xo + k, none⟩ = _ := hxc _ _ (M.walk_last (m := m) hk)
      have ct : w1.cell? ⟨tb, tof + k, none⟩ = _ := htc _ _ (M.taken_last hk)
      subst hxa
      subst hta
      have HOK := Lib.hid hok
      obtain ⟨e1, e2, e3, e4⟩ := hok
      rw [hk] at htq1 ⊢
      clear q0 hto htv hxc htc
      generalize M.endSt m walk = s at *
      have hkb : k < 1048576 := by omega
      have hk1 : (k : Int) < (k : Int) + 1 := by omega
      clear hk hl hlen
      go_wp2_with fail
      refine wp_region_late2 (fun (wq : World) => wq.cell? ⟨w.heap.size, 0, none⟩ = some (.int .i64 m.size) ∧ wq.cell? ⟨w.heap.size, 1, none⟩ = some (.slice a m.doors.length c) ∧ wq.cell? ⟨w.heap.size, 2, none⟩ = some (.slice b m.keys.length d) ∧ wq.cell? ⟨xb, xo + k, none⟩ = some (.int .i64 s.1) ∧ wq.cell? ⟨tb, tof + k, none⟩ = some (.int .i64 s.2)) [] 16 #[false, false, false, false, false, false, false, false, false, false, false, false, false, false, false, false] rfl rfl (by kernel_rfl) ?_
      have hS : (fun (wq : World) => wq.cell? ⟨w.heap.size, 0, none⟩ = some (.int .i64 m.size) ∧ wq.cell? ⟨w.heap.size, 1, none⟩ = some (.slice a m.doors.length c) ∧ wq.cell? ⟨w.heap.size, 2, none⟩ = some (.slice b m.keys.length d) ∧ wq.cell? ⟨xb, xo + k, none⟩ = some (.int .i64 s.1) ∧ wq.cell? ⟨tb, tof + k, none⟩ = some (.int .i64 s.2)) w1.drew := ⟨X1.out.cells.1, X1.out.cells.2.1, X1.out.cells.2.2, cx, ct⟩
      refine wpAnyL_take (i := 0) (oi := { dst := some 23, op := Go.Op.load 29 (Go.Operand.tmp 2), type := 29, pos := "l4_ways.go:238", after := #[], guard := none }) (v := ?dv0) rfl (by kernel_rfl) (by kernel_rfl) (by kernel_rfl) (by kernel_rfl) (fun _ _ _ h => h) (Or.inl ⟨by rfl, ?dh0⟩) hS ?dr0
      case dh0 => (intro wS hSw; (try dsimp only at hSw); go_split_ands; go_simp; try with_reducible rfl)
      try simp only [Act.put, List.setIfInBounds_toArray, List.set_cons_zero, List.set_cons_succ]
      refine wpAnyL_take (i := 1) (oi := { dst := some 24, op := Go.Op.move (Go.Operand.tmp 1), type := 23, pos := "l4_ways.go:238", after := #[], guard := none }) (v := ?dv1) rfl (by kernel_rfl) (by kernel_rfl) (by kernel_rfl) (by kernel_rfl) (fun _ _ _ h => h) (Or.inl ⟨by rfl, ?dh1⟩) hS ?dr1
      case dh1 => (intro wS hSw; (try dsimp only at hSw); go_split_ands; go_simp; try with_reducible rfl)
      try simp only [Act.put, List.setIfInBounds_toArray, List.set_cons_zero, List.set_cons_succ]
      refine wpAnyL_take (i := 2) (oi := { dst := some 25, op := Go.Op.move (Go.Operand.tmp 8), type := 3, pos := "l4_ways.go:238", after := #[], guard := none }) (v := ?dv2) rfl (by kernel_rfl) (by kernel_rfl) (by kernel_rfl) (by kernel_rfl) (fun _ _ _ h => h) (Or.inl ⟨by rfl, ?dh2⟩) hS ?dr2
      case dh2 => (intro wS hSw; (try dsimp only at hSw); go_split_ands; go_simp; try with_reducible rfl)
      try simp only [Act.put, List.setIfInBounds_toArray, List.set_cons_zero, List.set_cons_succ]
      refine wpAnyL_take (i := 3) (oi := { dst := some 26, op := Go.Op.indexAddr 23 (Go.Operand.tmp 24) (Go.Operand.tmp 25), type := 0, pos := "l4_ways.go:238", after := #[{ on := 1, ground := Go.Ground.data }, { on := 2, ground := Go.Ground.data }], guard := none }) (v := ?dv3) rfl (by kernel_rfl) (by kernel_rfl) (by kernel_rfl) (by kernel_rfl) (fun _ _ _ h => h) (Or.inl ⟨by rfl, ?dh3⟩) hS ?dr3
      case dh3 => (intro wS hSw; (try dsimp only at hSw); go_split_ands; go_simp; try with_reducible rfl)
      try simp only [Act.put, List.setIfInBounds_toArray, List.set_cons_zero, List.set_cons_succ]
      refine wpAnyL_take (i := 4) (oi := { dst := some 27, op := Go.Op.load 3 (Go.Operand.tmp 26), type := 3, pos := "l4_ways.go:238", after := #[{ on := 3, ground := Go.Ground.data }], guard := none }) (v := ?dv4) rfl (by kernel_rfl) (by kernel_rfl) (by kernel_rfl) (by kernel_rfl) (fun _ _ _ h => h) (Or.inl ⟨by rfl, ?dh4⟩) hS ?dr4
      case dh4 => (intro wS hSw; (try dsimp only at hSw); go_split_ands; go_simp; try with_reducible rfl)
      try simp only [Act.put, List.setIfInBounds_toArray, List.set_cons_zero, List.set_cons_succ]
      refine wpAnyL_take (i := 5) (oi := { dst := some 28, op := Go.Op.move (Go.Operand.tmp 6), type := 23, pos := "l4_ways.go:238", after := #[], guard := none }) (v := ?dv5) rfl (by kernel_rfl) (by kernel_rfl) (by kernel_rfl) (by kernel_rfl) (fun _ _ _ h => h) (Or.inl ⟨by rfl, ?dh5⟩) hS ?dr5
      case dh5 => (intro wS hSw; (try dsimp only at hSw); go_split_ands; go_simp; try with_reducible rfl)
      try simp only [Act.put, List.setIfInBounds_toArray, List.set_cons_zero, List.set_cons_succ]
      refine wpAnyL_take (i := 6) (oi := { dst := some 29, op := Go.Op.move (Go.Operand.tmp 8), type := 3, pos := "l4_ways.go:238", after := #[], guard := none }) (v := ?dv6) rfl (by kernel_rfl) (by kernel_rfl) (by kernel_rfl) (by kernel_rfl) (fun _ _ _ h => h) (Or.inl ⟨by rfl, ?dh6⟩) hS ?dr6
      case dh6 => (intro wS hSw; (try dsimp only at hSw); go_split_ands; go_simp; try with_reducible rfl)
      try simp only [Act.put, List.setIfInBounds_toArray, List.set_cons_zero, List.set_cons_succ]
      refine wpAnyL_take (i := 7) (oi := { dst := some 30, op := Go.Op.indexAddr 23 (Go.Operand.tmp 28) (Go.Operand.tmp 29), type := 0, pos := "l4_ways.go:238", after := #[{ on := 5, ground := Go.Ground.data }, { on := 6, ground := Go.Ground.data }], guard := none }) (v := ?dv7) rfl (by kernel_rfl) (by kernel_rfl) (by kernel_rfl) (by kernel_rfl) (fun _ _ _ h => h) (Or.inl ⟨by rfl, ?dh7⟩) hS ?dr7
      case dh7 => (intro wS hSw; (try dsimp only at hSw); go_split_ands; go_simp; try with_reducible rfl)
      try simp only [Act.put, List.setIfInBounds_toArray, List.set_cons_zero, List.set_cons_succ]
      refine wpAnyL_take (i := 8) (oi := { dst := some 31, op := Go.Op.load 3 (Go.Operand.tmp 30), type := 3, pos := "l4_ways.go:238", after := #[{ on := 7, ground := Go.Ground.data }], guard := none }) (v := ?dv8) rfl (by kernel_rfl) (by kernel_rfl) (by kernel_rfl) (by kernel_rfl) (fun _ _ _ h => h) (Or.inl ⟨by rfl, ?dh8⟩) hS ?dr8
      case dh8 => (intro wS hSw; (try dsimp only at hSw); go_split_ands; go_simp; try with_reducible rfl)
      try simp only [Act.put, List.setIfInBounds_toArray, List.set_cons_zero, List.set_cons_succ]
      refine wpAnyL_one (i := 9) (oi := { dst := some 32, op := Go.Op.call { callee := Go.Callee.value (Go.Operand.func 84), args := #[Go.Operand.tmp 23, Go.Operand.tmp 27, Go.Operand.tmp 31], argTypes := #[29, 3, 3] }, type := 23, pos := "l4_ways.go:238", after := #[{ on := 0, ground := Go.Ground.data }, { on := 4, ground := Go.Ground.data }, { on := 8, ground := Go.Ground.data }], guard := none }) (by kernel_rfl) rfl (fun Kd9 hKd9 => ?_)
      refine step_call (by rfl) 84 #[.agg #[.int .i64 m.size, .slice a m.doors.length c, .slice b m.keys.length d], .int .i64 s.1, .int .i64 s.2] (by go_simp; try rfl) (spreadT_any w1.drew lo hi m a b c d (H.out.below (Below.drawnN HB1.out 1) hz) (by have := HB1.out.size; show hi ≤ w1.heap.size; omega) HVA.out s HOK.out) ?_
      rintro e w2 ⟨ra, rc, rfl, ho2, hb2⟩
      refine ⟨_, rfl, ?_⟩
      have hb2x : Below w1.heap.size w1 w2 := (Below.refl w1.heap.size w1).drew.trans hb2
      have X2 := Lib.hid (X1.out.below hb2x)
      have HB6 := Lib.hid (HB1.out.trans (hb2x.mono HB1.out.size))
      have hS2 : (fun (wq : World) => wq.cell? ⟨w.heap.size, 0, none⟩ = some (.int .i64 m.size) ∧ wq.cell? ⟨w.heap.size, 1, none⟩ = some (.slice a m.doors.length c) ∧ wq.cell? ⟨w.heap.size, 2, none⟩ = some (.slice b m.keys.length d) ∧ wq.cell? ⟨xb, xo + k, none⟩ = some (.int .i64 s.1) ∧ wq.cell? ⟨tb, tof + k, none⟩ = some (.int .i64 s.2)) w2 := ⟨X2.out.cells.1, X2.out.cells.2.1, X2.out.cells.2.2, (hb2x.cell (p := ⟨xb, xo + k, none⟩) (by show xb < _; omega)).trans (⟨cx, ct⟩ : _ ∧ _).1, (hb2x.cell (p := ⟨tb, tof + k, none⟩) (by show tb < _; omega)).trans (⟨cx, ct⟩ : _ ∧ _).2⟩
      refine hKd9 _ _ (fun _ => hS2) ?_
      clear hS
      have hS := hS2
      try simp only [Act.put, List.setIfInBounds_toArray, List.set_cons_zero, List.set_cons_succ]
      refine wpAnyL_one (i := 10) (oi := { dst := some 33, op := Go.Op.call { callee := Go.Callee.value (Go.Operand.func 54), args := #[Go.Operand.tmp 32, Go.Operand.const (Go.Value.int Go.IntKind.i64 0), Go.Operand.const (Go.Value.int Go.IntKind.i64 0), Go.Operand.const (Go.Value.int Go.IntKind.i64 6)], argTypes := #[23, 3, 3, 3] }, type := 3, pos := "l4_ways.go:238", after := #[{ on := 9, ground := Go.Ground.data }, { on := 9, ground := Go.Ground.chain }], guard := none }) (by kernel_rfl) rfl (fun Kd10 hKd10 => ?_)
      refine step_call (by rfl) 54 #[.slice ra (M.size64 m) rc, .int .i64 0, .int .i64 0, .int .i64 6] (by go_simp; try rfl) (l4Least_any w2 _ _ m HVA.out ra rc _ ho2.row (Nat.le_refl _) 0 0 6 (by omega) (by omega) (fun t n => M.dst_ok HVA.out HOK.out)) ?_
      rintro e w3 ⟨rfl, rfl⟩
      refine ⟨_, rfl, ?_⟩
      have hS3 := hS
      refine hKd10 _ _ (fun _ => hS3) ?_
      clear hS
      have hS := hS3
      try simp only [Act.put, List.setIfInBounds_toArray, List.set_cons_zero, List.set_cons_succ]
      refine wpAnyL_one (i := 11) (oi := { dst := some 34, op := Go.Op.call { callee := Go.Callee.value (Go.Operand.func 53), args := #[Go.Operand.tmp 33], argTypes := #[3] }, type := 27, pos := "l4_ways.go:238", after := #[{ on := 10, ground := Go.Ground.data }, { on := 10, ground := Go.Ground.chain }], guard := none }) (by kernel_rfl) rfl (fun Kd11 hKd11 => ?_)
      refine step_call (by rfl) 53 #[.int .i64 (M.optI (M.minO (fun t => M.leastB 0 0 6 t = true) (M.dst (M.nexts m) [s])))] (by go_simp; try rfl) (l4Told_any _ w2) ?_
      rintro e w4 ⟨rfl, rfl⟩
      refine ⟨_, rfl, ?_⟩
      have hS4 := hS
      refine hKd11 _ _ (fun _ => hS4) ?_
      clear hS
      have hS := hS4
      try simp only [Act.put, List.setIfInBounds_toArray, List.set_cons_zero, List.set_cons_succ]
      refine wpAnyL_take (i := 12) (oi := { dst := some 35, op := Go.Op.extract (Go.Operand.tmp 34) 0, type := 3, pos := "l4_ways.go:238", after := #[{ on := 11, ground := Go.Ground.data }], guard := none }) (v := ?dv12) rfl (by kernel_rfl) (by kernel_rfl) (by kernel_rfl) (by kernel_rfl) (fun _ _ _ h => h) (Or.inl ⟨by rfl, ?dh12⟩) hS ?dr12
      case dh12 => (intro wS hSw; (try dsimp only at hSw); go_split_ands; go_simp; try with_reducible rfl)
      try simp only [Act.put, List.setIfInBounds_toArray, List.set_cons_zero, List.set_cons_succ]
      refine wpAnyL_take (i := 13) (oi := { dst := some 36, op := Go.Op.extract (Go.Operand.tmp 34) 1, type := 4, pos := "l4_ways.go:238", after := #[{ on := 11, ground := Go.Ground.data }], guard := none }) (v := ?dv13) rfl (by kernel_rfl) (by kernel_rfl) (by kernel_rfl) (by kernel_rfl) (fun _ _ _ h => h) (Or.inl ⟨by rfl, ?dh13⟩) hS ?dr13
      case dh13 => (intro wS hSw; (try dsimp only at hSw); go_split_ands; go_simp; try with_reducible rfl)
      try simp only [Act.put, List.setIfInBounds_toArray, List.set_cons_zero, List.set_cons_succ]
      refine wpAnyL_take (i := 14) (oi := { dst := some 4, op := Go.Op.assign (Go.Operand.tmp 35), type := 3, pos := "l4_ways.go:238", after := #[{ on := 12, ground := Go.Ground.data }, { on := 11, ground := Go.Ground.chain }, { on := 0, ground := Go.Ground.phase }, { on := 1, ground := Go.Ground.phase }, { on := 2, ground := Go.Ground.phase }, { on := 3, ground := Go.Ground.phase }, { on := 4, ground := Go.Ground.phase }, { on := 5, ground := Go.Ground.phase }, { on := 6, ground := Go.Ground.phase }, { on := 7, ground := Go.Ground.phase }, { on := 8, ground := Go.Ground.phase }, { on := 9, ground := Go.Ground.phase }, { on := 10, ground := Go.Ground.phase }, { on := 11, ground := Go.Ground.phase }, { on := 12, ground := Go.Ground.phase }, { on := 13, ground := Go.Ground.phase }], guard := none }) (v := ?dv14) rfl (by kernel_rfl) (by kernel_rfl) (by kernel_rfl) (by kernel_rfl) (fun _ _ _ h => h) (Or.inl ⟨by rfl, ?dh14⟩) hS ?dr14
      case dh14 => (intro wS hSw; (try dsimp only at hSw); go_split_ands; go_simp; try with_reducible rfl)
      try simp only [Act.put, List.setIfInBounds_toArray, List.set_cons_zero, List.set_cons_succ]
      refine wpAnyL_take (i := 15) (oi := { dst := some 5, op := Go.Op.assign (Go.Operand.tmp 36), type := 4, pos := "l4_ways.go:238", after := #[{ on := 13, ground := Go.Ground.data }, { on := 14, ground := Go.Ground.chain }, { on := 0, ground := Go.Ground.phase }, { on := 1, ground := Go.Ground.phase }, { on := 2, ground := Go.Ground.phase }, { on := 3, ground := Go.Ground.phase }, { on := 4, ground := Go.Ground.phase }, { on := 5, ground := Go.Ground.phase }, { on := 6, ground := Go.Ground.phase }, { on := 7, ground := Go.Ground.phase }, { on := 8, ground := Go.Ground.phase }, { on := 9, ground := Go.Ground.phase }, { on := 10, ground := Go.Ground.phase }, { on := 11, ground := Go.Ground.phase }, { on := 12, ground := Go.Ground.phase }, { on := 13, ground := Go.Ground.phase }, { on := 14, ground := Go.Ground.phase }], guard := none }) (v := ?dv15) rfl (by kernel_rfl) (by kernel_rfl) (by kernel_rfl) (by kernel_rfl) (fun _ _ _ h => h) (Or.inl ⟨by rfl, ?dh15⟩) hS ?dr15
      case dh15 => (intro wS hSw; (try dsimp only at hSw); go_split_ands; go_simp; try with_reducible rfl)
      try simp only [Act.put, List.setIfInBounds_toArray, List.set_cons_zero, List.set_cons_succ]
      refine wpAnyL_done (by kernel_rfl) ?_ _
      go_wp2_with fail
      go_ret2
      rw [HF.out]
      exact ⟨rfl, HB6.out⟩
end C
end Go.Proofs.Ytbpinhfjfjfbdaa
