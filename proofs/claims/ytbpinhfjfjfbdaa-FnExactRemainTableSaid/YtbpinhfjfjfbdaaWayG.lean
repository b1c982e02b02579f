/-
  CONTRACTS of impl's StepsTable, StepsAndKeys, FewestKeys, DetourOf; what lay in memory stays. No condition but that the maze reads so.
-/
import Derived.Test.YtbpinhfjfjfbdaaWayF
import Derived.Test.YtbpinhfjfjfbdaaOnes
import Derived.Test.YtbpinhfjfjfbdaaIdxI
import Derived.Deep.RegionWith
namespace Go.Proofs.Ytbpinhfjfjfbdaa
open Go.RowKit
namespace M
def nodeP (x : Int) (t : St) : Bool := t.1 == x
def keysP (m : Mz) (n : Int) (t : St) : Bool := wonB m t && decide (many t.2 ≤ n)
/-- the numbers of steps to where p holds, for each of the first k numbers -/
noncomputable def stepsTo (m : Mz) (p : Int → St → Bool) (k : Nat) : List Int := (List.range k).map fun x : Nat => optI (wayO m (st0 m) (p x))
theorem stepsTo_len (m : Mz) (p : Int → St → Bool) (k : Nat) : (stepsTo m p k).length = k := by unfold stepsTo; simp
theorem stepsTo_succ (m : Mz) (p : Int → St → Bool) (k : Nat) : stepsTo m p (k + 1) = stepsTo m p k ++ [optI (wayO m (st0 m) (p k))] := by unfold stepsTo; rw [List.range_succ, List.map_append]; rfl
noncomputable def tabV (m : Mz) : List Int := if mazeB m then stepsTo m nodeP m.size.toNat else []
noncomputable def sakV (m : Mz) : List Int := if mazeB m then stepsTo m (keysP m) 7 else []
theorem dst_ok {m : Mz} (V : Valid m) {s t : St} (hs : StOk m s) {k : Nat} (h : dst (nexts m) [s] t = some k) : StOk m t := by
  have hd := dst_is (nexts m) [s] t
  rw [h] at hd
  exact hd.1.inside (fun u hu => by rw [List.mem_singleton] at hu; subst hu; exact hs) fun u hu v hv => nexts_ok V hu hv
/-- the first number of colours with which one wins -/
noncomputable def fkO (m : Mz) : Option Nat := if mazeB m then lst (fun n => n < 7 ∧ ∃ v, wayO m (st0 m) (keysP m n) = some v) else none
noncomputable def detV (m : Mz) : Int := match fwO m 0 with | some n => wrap64 ((n : Int) - optV (ffO m 0 63)) | none => 0
end M
namespace C
set_option maxHeartbeats 3200000
set_option maxRecDepth 20000
theorem in_ok {w : World} {b : Nat} {L : List M.St} {m : M.Mz} (V : M.Valid m) {s : M.St} (hs : M.StOk m s) (h : MapP w b L (M.dst (M.nexts m) [s])) : ∀ t ∈ L, M.StOk m t := fun t ht => by
  obtain ⟨k, hk⟩ := (h.some_iff t).1 ht
  exact M.dst_ok V hs hk
theorem isThere_any (x : Int) (g : Nat) (w : World) (s : M.St) (hc : w.cell? ⟨g, 0, none⟩ = some (.int .i64 x)) (hg : g < w.heap.size) :
    Calls Try.prog 61 (#[].push (.agg #[.int .i64 s.1, .int .i64 s.2]) ++ #[.pointer (some ⟨g, 0, none⟩)]) w (BoolW w (M.nodeP x s)) := by
  show Calls Try.prog 61 #[.agg #[.int .i64 s.1, .int .i64 s.2], .pointer (some ⟨g, 0, none⟩)] w _
  go_enter Try.func61, Try.ntmps61
  go_upto_region 1 with fail
  refine wp_named ?_
  intro W hW
  have hb : Below w.heap.size w W := by rw [hW]; exact below_alloc _ _
  have z1 : Box2 W w.heap.size 60 (.int .i64 s.1) (.int .i64 s.2) := by rw [hW]; exact Box2.new _ _ _ rfl
  clear hW
  have c0 : W.cell? ⟨g, 0, none⟩ = _ := (hb.cell (p := ⟨g, 0, none⟩) hg).trans hc
  obtain ⟨k0, k1⟩ := z1.cells
  have HB := Lib.hid hb
  clear hb z1 hc
  go_wp2_with fail
  go_ret
  exact ⟨rfl, HB.out⟩
theorem hasKeys_any (m : M.Mz) (a b : Option Addr) (c d : Nat) (h1 : 1 ≤ m.size) (h2 : m.size ≤ 12) (n : Int) (g1 g2 : Nat) (w : World) (s : M.St) (hs : 0 ≤ s.2 ∧ s.2 < 64) (c0 : w.cell? ⟨g1, 0, none⟩ = some (.int .i64 m.size)) (c1 : w.cell? ⟨g1, 1, none⟩ = some (.slice a m.doors.length c)) (c2 : w.cell? ⟨g1, 2, none⟩ = some (.slice b m.keys.length d))
    (cs : w.cell? ⟨g2, 0, none⟩ = some (.int .i64 n)) (hg1 : g1 < w.heap.size) (hg2 : g2 < w.heap.size) :
    Calls Try.prog 82 (#[].push (.agg #[.int .i64 s.1, .int .i64 s.2]) ++ #[.pointer (some ⟨g1, 0, none⟩), .pointer (some ⟨g2, 0, none⟩)]) w (BoolW w (M.keysP m n s)) := by
  show Calls Try.prog 82 #[.agg #[.int .i64 s.1, .int .i64 s.2], .pointer (some ⟨g1, 0, none⟩), .pointer (some ⟨g2, 0, none⟩)] w _
  have HWT : Hid (M.keysP m n s = (M.wonB m s && decide (M.many s.2 ≤ n))) := Lib.hid rfl
  go_enter Try.func82, Try.ntmps82
  go_upto_region 1 with fail
  refine wp_named ?_
  intro W hW
  have hb : Below w.heap.size w W := by rw [hW]; exact below_alloc _ _
  have z1 : Box2 W w.heap.size 60 (.int .i64 s.1) (.int .i64 s.2) := by rw [hW]; exact Box2.new _ _ _ rfl
  clear hW
  have HB := Lib.hid hb
  have Z1 := Lib.hid z1
  have hzw := hb.size
  have c0' : W.cell? ⟨g1, 0, none⟩ = _ := (hb.cell (p := ⟨g1, 0, none⟩) hg1).trans c0
  have c1' : W.cell? ⟨g1, 1, none⟩ = _ := (hb.cell (p := ⟨g1, 1, none⟩) hg1).trans c1
  have c2' : W.cell? ⟨g1, 2, none⟩ = _ := (hb.cell (p := ⟨g1, 2, none⟩) hg1).trans c2
  have c3' : W.cell? ⟨g2, 0, none⟩ = _ := (hb.cell (p := ⟨g2, 0, none⟩) hg2).trans cs
  obtain ⟨k0, k1⟩ := z1.cells
  have hzl := z1.lt
  have CW : Calls Try.prog 77 _ W.drew (BoolW W.drew (M.wonB m s)) := isWon_any W.drew m a b c d h1 h2 s
  have mixed : Try.prog.follows .mixedOrders = true := by kernel_rfl
  clear hb z1 c0 c1 c2 cs
  cases hw : M.wonB m s with
  | false =>
    rw [hw] at CW
    have CW1 := Lib.hid CW
    have HF : Hid (M.keysP m n s = false) := Lib.hid (by rw [HWT.out, hw]; rfl)
    clear CW hw
    refine wp_region_late2 (fun (wq : World) => wq.cell? ⟨g1, 0, none⟩ = some (.int .i64 m.size) ∧ wq.cell? ⟨g1, 1, none⟩ = some (.slice a m.doors.length c) ∧ wq.cell? ⟨g1, 2, none⟩ = some (.slice b m.keys.length d) ∧ wq.cell? ⟨w.heap.size, 0, none⟩ = some (.int .i64 s.1) ∧ wq.cell? ⟨w.heap.size, 1, none⟩ = some (.int .i64 s.2) ∧ wq.cell? ⟨g2, 0, none⟩ = some (.int .i64 n)) [] 12 #[false, false, false, false, false, false, false, false, false, false, false, false] rfl rfl (by kernel_rfl) ?_
    have hS : (fun (wq : World) => wq.cell? ⟨g1, 0, none⟩ = some (.int .i64 m.size) ∧ wq.cell? ⟨g1, 1, none⟩ = some (.slice a m.doors.length c) ∧ wq.cell? ⟨g1, 2, none⟩ = some (.slice b m.keys.length d) ∧ wq.cell? ⟨w.heap.size, 0, none⟩ = some (.int .i64 s.1) ∧ wq.cell? ⟨w.heap.size, 1, none⟩ = some (.int .i64 s.2) ∧ wq.cell? ⟨g2, 0, none⟩ = some (.int .i64 n)) W.drew := ⟨c0', c1', c2', k0, k1, c3'⟩
    refine wpAnyL_take (i := 0) (oi := { dst := some 5, op := Go.Op.load 29 (Go.Operand.tmp 1), type := 29, pos := "l4_ways.go:262", after := #[], guard := none }) (v := ?fv0) rfl (by kernel_rfl) (by kernel_rfl) (by kernel_rfl) (by kernel_rfl) (fun _ _ _ h => h) (Or.inl ⟨by rfl, ?fh0⟩) hS ?fr0
    case fh0 => (intro wS hSw; (try dsimp only at hSw); go_split_ands; go_simp; try with_reducible rfl)
    try simp only [Act.put, List.setIfInBounds_toArray, List.set_cons_zero, List.set_cons_succ]
    refine wpAnyL_take (i := 1) (oi := { dst := some 6, op := Go.Op.load 60 (Go.Operand.tmp 3), type := 60, pos := "l4_ways.go:262", after := #[], guard := none }) (v := ?fv1) rfl (by kernel_rfl) (by kernel_rfl) (by kernel_rfl) (by kernel_rfl) (fun _ _ _ h => h) (Or.inl ⟨by rfl, ?fh1⟩) hS ?fr1
    case fh1 => (intro wS hSw; (try dsimp only at hSw); go_split_ands; go_simp; try with_reducible rfl)
    try simp only [Act.put, List.setIfInBounds_toArray, List.set_cons_zero, List.set_cons_succ]
    refine wpAnyL_one (i := 2) (oi := { dst := some 7, op := Go.Op.call { callee := Go.Callee.value (Go.Operand.func 77), args := #[Go.Operand.tmp 5, Go.Operand.tmp 6], argTypes := #[29, 60] }, type := 4, pos := "l4_ways.go:262", after := #[{ on := 0, ground := Go.Ground.data }, { on := 1, ground := Go.Ground.data }], guard := none }) (by kernel_rfl) rfl (fun Kf2 hKf2 => ?_)
    refine step_call (by rfl) 77 #[.agg #[.int .i64 m.size, .slice a m.doors.length c, .slice b m.keys.length d], .agg #[.int .i64 s.1, .int .i64 s.2]] (by go_simp; try rfl) (CW1.out) ?_
    rintro e w1 ⟨rfl, hb1⟩
    refine ⟨_, rfl, ?_⟩
    have hb1x : Below W.heap.size W w1 := (Below.refl W.heap.size W).drew.trans hb1
    have hS1 : (fun (wq : World) => wq.cell? ⟨g1, 0, none⟩ = some (.int .i64 m.size) ∧ wq.cell? ⟨g1, 1, none⟩ = some (.slice a m.doors.length c) ∧ wq.cell? ⟨g1, 2, none⟩ = some (.slice b m.keys.length d) ∧ wq.cell? ⟨w.heap.size, 0, none⟩ = some (.int .i64 s.1) ∧ wq.cell? ⟨w.heap.size, 1, none⟩ = some (.int .i64 s.2) ∧ wq.cell? ⟨g2, 0, none⟩ = some (.int .i64 n)) w1 := ⟨(hb1x.cell (p := ⟨g1, 0, none⟩) (by show g1 < _; omega)).trans c0', (hb1x.cell (p := ⟨g1, 1, none⟩) (by show g1 < _; omega)).trans c1', (hb1x.cell (p := ⟨g1, 2, none⟩) (by show g1 < _; omega)).trans c2', (hb1x.cell (p := ⟨w.heap.size, 0, none⟩) hzl).trans k0, (hb1x.cell (p := ⟨w.heap.size, 1, none⟩) hzl).trans k1, (hb1x.cell (p := ⟨g2, 0, none⟩) (by show g2 < _; omega)).trans c3'⟩
    refine hKf2 _ _ (fun _ => hS1) ?_
    clear hS
    have hS := hS1
    try simp only [Act.put, List.setIfInBounds_toArray, List.set_cons_zero, List.set_cons_succ]
    refine wpAnyL_take (i := 3) (oi := { dst := some 8, op := Go.Op.move (Go.Operand.tmp 7), type := 4, pos := "l4_ways.go:262", after := #[{ on := 2, ground := Go.Ground.data }, { on := 2, ground := Go.Ground.chain }], guard := none }) (v := ?fv3) rfl (by kernel_rfl) (by kernel_rfl) (by kernel_rfl) (by kernel_rfl) (fun _ _ _ h => h) (Or.inl ⟨by rfl, ?fh3⟩) hS ?fr3
    case fh3 => (intro wS hSw; (try dsimp only at hSw); go_split_ands; go_simp; try with_reducible rfl)
    try simp only [Act.put, List.setIfInBounds_toArray, List.set_cons_zero, List.set_cons_succ]
    refine wpAnyL_take (i := 4) (oi := { dst := some 9, op := Go.Op.indexAddr 60 (Go.Operand.tmp 3) (Go.Operand.const (Go.Value.int Go.IntKind.i64 1)), type := 0, pos := "l4_ways.go:262", after := #[{ on := 3, ground := Go.Ground.guard }], guard := some (3, true) }) (v := undef) rfl (by kernel_rfl) (by kernel_rfl) (by kernel_rfl) (by kernel_rfl) (fun _ _ _ h => h) (Or.inr ⟨by rfl, rfl⟩) hS ?fr4
    try simp only [Act.put, List.setIfInBounds_toArray, List.set_cons_zero, List.set_cons_succ]
    refine wpAnyL_take (i := 5) (oi := { dst := some 10, op := Go.Op.load 3 (Go.Operand.tmp 9), type := 3, pos := "l4_ways.go:262", after := #[{ on := 4, ground := Go.Ground.data }, { on := 3, ground := Go.Ground.guard }], guard := some (3, true) }) (v := undef) rfl (by kernel_rfl) (by kernel_rfl) (by kernel_rfl) (by kernel_rfl) (fun _ _ _ h => h) (Or.inr ⟨by rfl, rfl⟩) hS ?fr5
    try simp only [Act.put, List.setIfInBounds_toArray, List.set_cons_zero, List.set_cons_succ]
    refine wpAnyL_take (i := 6) (oi := { dst := some 11, op := Go.Op.convert 3 76 (Go.Operand.tmp 10), type := 76, pos := "l4_ways.go:262", after := #[{ on := 5, ground := Go.Ground.data }, { on := 3, ground := Go.Ground.guard }], guard := some (3, true) }) (v := undef) rfl (by kernel_rfl) (by kernel_rfl) (by kernel_rfl) (by kernel_rfl) (fun _ _ _ h => h) (Or.inr ⟨by rfl, rfl⟩) hS ?fr6
    try simp only [Act.put, List.setIfInBounds_toArray, List.set_cons_zero, List.set_cons_succ]
    refine wpAnyL_take (i := 7) (oi := { dst := some 12, op := Go.Op.call { callee := Go.Callee.value (Go.Operand.func 83), args := #[Go.Operand.tmp 11], argTypes := #[76] }, type := 3, pos := "l4_ways.go:262", after := #[{ on := 6, ground := Go.Ground.data }, { on := 3, ground := Go.Ground.chain }, { on := 3, ground := Go.Ground.guard }], guard := some (3, true) }) (v := undef) rfl (by kernel_rfl) (by kernel_rfl) (by kernel_rfl) (by kernel_rfl) (fun _ _ _ h => h) (Or.inr ⟨by rfl, rfl⟩) hS ?fr7
    try simp only [Act.put, List.setIfInBounds_toArray, List.set_cons_zero, List.set_cons_succ]
    refine wpAnyL_take (i := 8) (oi := { dst := some 13, op := Go.Op.load 3 (Go.Operand.tmp 2), type := 3, pos := "l4_ways.go:262", after := #[{ on := 3, ground := Go.Ground.guard }], guard := some (3, true) }) (v := undef) rfl (by kernel_rfl) (by kernel_rfl) (by kernel_rfl) (by kernel_rfl) (fun _ _ _ h => h) (Or.inr ⟨by rfl, rfl⟩) hS ?fr8
    try simp only [Act.put, List.setIfInBounds_toArray, List.set_cons_zero, List.set_cons_succ]
    refine wpAnyL_take (i := 9) (oi := { dst := some 14, op := Go.Op.binOp Go.BinOp.leq 3 (Go.Operand.tmp 12) (Go.Operand.tmp 13) 3, type := 4, pos := "l4_ways.go:262", after := #[{ on := 7, ground := Go.Ground.data }, { on := 8, ground := Go.Ground.data }, { on := 3, ground := Go.Ground.guard }], guard := some (3, true) }) (v := undef) rfl (by kernel_rfl) (by kernel_rfl) (by kernel_rfl) (by kernel_rfl) (fun _ _ _ h => h) (Or.inr ⟨by rfl, rfl⟩) hS ?fr9
    try simp only [Act.put, List.setIfInBounds_toArray, List.set_cons_zero, List.set_cons_succ]
    refine wpAnyL_take (i := 10) (oi := { dst := some 15, op := Go.Op.pick (Go.Operand.tmp 8) (Go.Operand.tmp 14) (Go.Operand.const (Go.Value.bool false)), type := 4, pos := "l4_ways.go:262", after := #[{ on := 3, ground := Go.Ground.data }, { on := 9, ground := Go.Ground.data }], guard := none }) (v := ?fv10) rfl (by kernel_rfl) (by kernel_rfl) (by kernel_rfl) (by kernel_rfl) (fun _ _ _ h => h) (Or.inl ⟨by rfl, ?fh10⟩) hS ?fr10
    case fh10 => (intro wS hSw; (try dsimp only at hSw); go_split_ands; go_simp; try with_reducible rfl)
    try simp only [Act.put, List.setIfInBounds_toArray, List.set_cons_zero, List.set_cons_succ]
    refine wpAnyL_take (i := 11) (oi := { dst := some 4, op := Go.Op.assign (Go.Operand.tmp 15), type := 4, pos := "l4_ways.go:262", after := #[{ on := 10, ground := Go.Ground.data }, { on := 7, ground := Go.Ground.chain }, { on := 0, ground := Go.Ground.phase }, { on := 1, ground := Go.Ground.phase }, { on := 2, ground := Go.Ground.phase }, { on := 3, ground := Go.Ground.phase }, { on := 4, ground := Go.Ground.phase }, { on := 5, ground := Go.Ground.phase }, { on := 6, ground := Go.Ground.phase }, { on := 7, ground := Go.Ground.phase }, { on := 8, ground := Go.Ground.phase }, { on := 9, ground := Go.Ground.phase }, { on := 10, ground := Go.Ground.phase }], guard := none }) (v := ?fv11) rfl (by kernel_rfl) (by kernel_rfl) (by kernel_rfl) (by kernel_rfl) (fun _ _ _ h => h) (Or.inl ⟨by rfl, ?fh11⟩) hS ?fr11
    case fh11 => (intro wS hSw; (try dsimp only at hSw); go_split_ands; go_simp; try with_reducible rfl)
    try simp only [Act.put, List.setIfInBounds_toArray, List.set_cons_zero, List.set_cons_succ]
    refine wpAnyL_done (by kernel_rfl) ?_ _
    have HB1 := Lib.hid (HB.out.trans (hb1x.mono hzw))
    go_wp2_with fail
    go_ret
    rw [HF.out]
    exact ⟨rfl, HB1.out⟩
  | true =>
    rw [hw] at CW
    have CW1 := Lib.hid CW
    have HF : Hid (M.keysP m n s = decide (M.many s.2 ≤ n)) := Lib.hid (by rw [HWT.out, hw]; rfl)
    clear CW hw
    have HWR := Lib.hid (show IntKind.u64.wrap s.2 = s.2 by rw [IntKind.wrap_u64]; omega)
    refine wp_region_late2 (fun (wq : World) => wq.cell? ⟨g1, 0, none⟩ = some (.int .i64 m.size) ∧ wq.cell? ⟨g1, 1, none⟩ = some (.slice a m.doors.length c) ∧ wq.cell? ⟨g1, 2, none⟩ = some (.slice b m.keys.length d) ∧ wq.cell? ⟨w.heap.size, 0, none⟩ = some (.int .i64 s.1) ∧ wq.cell? ⟨w.heap.size, 1, none⟩ = some (.int .i64 s.2) ∧ wq.cell? ⟨g2, 0, none⟩ = some (.int .i64 n)) [] 12 #[false, false, false, false, false, false, false, false, false, false, false, false] rfl rfl (by kernel_rfl) ?_
    have hS : (fun (wq : World) => wq.cell? ⟨g1, 0, none⟩ = some (.int .i64 m.size) ∧ wq.cell? ⟨g1, 1, none⟩ = some (.slice a m.doors.length c) ∧ wq.cell? ⟨g1, 2, none⟩ = some (.slice b m.keys.length d) ∧ wq.cell? ⟨w.heap.size, 0, none⟩ = some (.int .i64 s.1) ∧ wq.cell? ⟨w.heap.size, 1, none⟩ = some (.int .i64 s.2) ∧ wq.cell? ⟨g2, 0, none⟩ = some (.int .i64 n)) W.drew := ⟨c0', c1', c2', k0, k1, c3'⟩
    refine wpAnyL_take (i := 0) (oi := { dst := some 5, op := Go.Op.load 29 (Go.Operand.tmp 1), type := 29, pos := "l4_ways.go:262", after := #[], guard := none }) (v := ?tv0) rfl (by kernel_rfl) (by kernel_rfl) (by kernel_rfl) (by kernel_rfl) (fun _ _ _ h => h) (Or.inl ⟨by rfl, ?th0⟩) hS ?tr0
    case th0 => (intro wS hSw; (try dsimp only at hSw); go_split_ands; go_simp; try with_reducible rfl)
    try simp only [Act.put, List.setIfInBounds_toArray, List.set_cons_zero, List.set_cons_succ]
    refine wpAnyL_take (i := 1) (oi := { dst := some 6, op := Go.Op.load 60 (Go.Operand.tmp 3), type := 60, pos := "l4_ways.go:262", after := #[], guard := none }) (v := ?tv1) rfl (by kernel_rfl) (by kernel_rfl) (by kernel_rfl) (by kernel_rfl) (fun _ _ _ h => h) (Or.inl ⟨by rfl, ?th1⟩) hS ?tr1
    case th1 => (intro wS hSw; (try dsimp only at hSw); go_split_ands; go_simp; try with_reducible rfl)
    try simp only [Act.put, List.setIfInBounds_toArray, List.set_cons_zero, List.set_cons_succ]
    refine wpAnyL_one (i := 2) (oi := { dst := some 7, op := Go.Op.call { callee := Go.Callee.value (Go.Operand.func 77), args := #[Go.Operand.tmp 5, Go.Operand.tmp 6], argTypes := #[29, 60] }, type := 4, pos := "l4_ways.go:262", after := #[{ on := 0, ground := Go.Ground.data }, { on := 1, ground := Go.Ground.data }], guard := none }) (by kernel_rfl) rfl (fun Kt2 hKt2 => ?_)
    refine step_call (by rfl) 77 #[.agg #[.int .i64 m.size, .slice a m.doors.length c, .slice b m.keys.length d], .agg #[.int .i64 s.1, .int .i64 s.2]] (by go_simp; try rfl) (CW1.out) ?_
    rintro e w1 ⟨rfl, hb1⟩
    refine ⟨_, rfl, ?_⟩
    have hb1x : Below W.heap.size W w1 := (Below.refl W.heap.size W).drew.trans hb1
    have hS1 : (fun (wq : World) => wq.cell? ⟨g1, 0, none⟩ = some (.int .i64 m.size) ∧ wq.cell? ⟨g1, 1, none⟩ = some (.slice a m.doors.length c) ∧ wq.cell? ⟨g1, 2, none⟩ = some (.slice b m.keys.length d) ∧ wq.cell? ⟨w.heap.size, 0, none⟩ = some (.int .i64 s.1) ∧ wq.cell? ⟨w.heap.size, 1, none⟩ = some (.int .i64 s.2) ∧ wq.cell? ⟨g2, 0, none⟩ = some (.int .i64 n)) w1 := ⟨(hb1x.cell (p := ⟨g1, 0, none⟩) (by show g1 < _; omega)).trans c0', (hb1x.cell (p := ⟨g1, 1, none⟩) (by show g1 < _; omega)).trans c1', (hb1x.cell (p := ⟨g1, 2, none⟩) (by show g1 < _; omega)).trans c2', (hb1x.cell (p := ⟨w.heap.size, 0, none⟩) hzl).trans k0, (hb1x.cell (p := ⟨w.heap.size, 1, none⟩) hzl).trans k1, (hb1x.cell (p := ⟨g2, 0, none⟩) (by show g2 < _; omega)).trans c3'⟩
    refine hKt2 _ _ (fun _ => hS1) ?_
    clear hS
    have hS := hS1
    try simp only [Act.put, List.setIfInBounds_toArray, List.set_cons_zero, List.set_cons_succ]
    refine wpAnyL_take (i := 3) (oi := { dst := some 8, op := Go.Op.move (Go.Operand.tmp 7), type := 4, pos := "l4_ways.go:262", after := #[{ on := 2, ground := Go.Ground.data }, { on := 2, ground := Go.Ground.chain }], guard := none }) (v := ?tv3) rfl (by kernel_rfl) (by kernel_rfl) (by kernel_rfl) (by kernel_rfl) (fun _ _ _ h => h) (Or.inl ⟨by rfl, ?th3⟩) hS ?tr3
    case th3 => (intro wS hSw; (try dsimp only at hSw); go_split_ands; go_simp; try with_reducible rfl)
    try simp only [Act.put, List.setIfInBounds_toArray, List.set_cons_zero, List.set_cons_succ]
    refine wpAnyL_take (i := 4) (oi := { dst := some 9, op := Go.Op.indexAddr 60 (Go.Operand.tmp 3) (Go.Operand.const (Go.Value.int Go.IntKind.i64 1)), type := 0, pos := "l4_ways.go:262", after := #[{ on := 3, ground := Go.Ground.guard }], guard := some (3, true) }) (v := ?tv4) rfl (by kernel_rfl) (by kernel_rfl) (by kernel_rfl) (by kernel_rfl) (fun _ _ _ h => h) (Or.inl ⟨by rfl, ?th4⟩) hS ?tr4
    case th4 => (intro wS hSw; (try dsimp only at hSw); go_split_ands; go_simp; try with_reducible rfl)
    try simp only [Act.put, List.setIfInBounds_toArray, List.set_cons_zero, List.set_cons_succ]
    refine wpAnyL_take (i := 5) (oi := { dst := some 10, op := Go.Op.load 3 (Go.Operand.tmp 9), type := 3, pos := "l4_ways.go:262", after := #[{ on := 4, ground := Go.Ground.data }, { on := 3, ground := Go.Ground.guard }], guard := some (3, true) }) (v := ?tv5) rfl (by kernel_rfl) (by kernel_rfl) (by kernel_rfl) (by kernel_rfl) (fun _ _ _ h => h) (Or.inl ⟨by rfl, ?th5⟩) hS ?tr5
    case th5 => (intro wS hSw; (try dsimp only at hSw); go_split_ands; go_simp; try with_reducible rfl)
    try simp only [Act.put, List.setIfInBounds_toArray, List.set_cons_zero, List.set_cons_succ]
    refine wpAnyL_take (i := 6) (oi := { dst := some 11, op := Go.Op.convert 3 76 (Go.Operand.tmp 10), type := 76, pos := "l4_ways.go:262", after := #[{ on := 5, ground := Go.Ground.data }, { on := 3, ground := Go.Ground.guard }], guard := some (3, true) }) (v := ?tv6) rfl (by kernel_rfl) (by kernel_rfl) (by kernel_rfl) (by kernel_rfl) (fun _ _ _ h => h) (Or.inl ⟨by rfl, ?th6⟩) hS ?tr6
    case th6 => (intro wS hSw; (try dsimp only at hSw); go_split_ands; go_simp; try with_reducible rfl)
    try simp only [Act.put, List.setIfInBounds_toArray, List.set_cons_zero, List.set_cons_succ]
    refine wpAnyL_take (i := 8) (oi := { dst := some 13, op := Go.Op.load 3 (Go.Operand.tmp 2), type := 3, pos := "l4_ways.go:262", after := #[{ on := 3, ground := Go.Ground.guard }], guard := some (3, true) }) (v := ?tv8) rfl (by kernel_rfl) (by kernel_rfl) (by kernel_rfl) (by kernel_rfl) (fun _ _ _ h => h) (Or.inl ⟨by rfl, ?th8⟩) hS ?tr8
    case th8 => (intro wS hSw; (try dsimp only at hSw); go_split_ands; go_simp; try with_reducible rfl)
    try simp only [Act.put, List.setIfInBounds_toArray, List.set_cons_zero, List.set_cons_succ]
    refine wpAnyL_one (i := 7) (oi := { dst := some 12, op := Go.Op.call { callee := Go.Callee.value (Go.Operand.func 83), args := #[Go.Operand.tmp 11], argTypes := #[76] }, type := 3, pos := "l4_ways.go:262", after := #[{ on := 6, ground := Go.Ground.data }, { on := 3, ground := Go.Ground.chain }, { on := 3, ground := Go.Ground.guard }], guard := some (3, true) }) (by kernel_rfl) rfl (fun Kt7 hKt7 => ?_)
    refine step_callG (by rfl) 83 #[.int .u64 (IntKind.u64.wrap s.2)] (by go_simp; try rfl) (ones_any (IntKind.u64.wrap s.2) w1 (by rw [HWR.out]; exact hs.1) (by rw [HWR.out]; exact hs.2)) ?_
    rintro e w2 ⟨rfl, rfl⟩
    refine ⟨_, rfl, ?_⟩
    rw [HWR.out]
    have hS2 := hS
    refine hKt7 _ _ (fun _ => hS2) ?_
    clear hS
    have hS := hS2
    try simp only [Act.put, List.setIfInBounds_toArray, List.set_cons_zero, List.set_cons_succ]
    refine wpAnyL_take (i := 9) (oi := { dst := some 14, op := Go.Op.binOp Go.BinOp.leq 3 (Go.Operand.tmp 12) (Go.Operand.tmp 13) 3, type := 4, pos := "l4_ways.go:262", after := #[{ on := 7, ground := Go.Ground.data }, { on := 8, ground := Go.Ground.data }, { on := 3, ground := Go.Ground.guard }], guard := some (3, true) }) (v := ?tv9) rfl (by kernel_rfl) (by kernel_rfl) (by kernel_rfl) (by kernel_rfl) (fun _ _ _ h => h) (Or.inl ⟨by rfl, ?th9⟩) hS ?tr9
    case th9 => (intro wS hSw; (try dsimp only at hSw); go_split_ands; go_simp; try with_reducible rfl)
    try simp only [Act.put, List.setIfInBounds_toArray, List.set_cons_zero, List.set_cons_succ]
    refine wpAnyL_take (i := 10) (oi := { dst := some 15, op := Go.Op.pick (Go.Operand.tmp 8) (Go.Operand.tmp 14) (Go.Operand.const (Go.Value.bool false)), type := 4, pos := "l4_ways.go:262", after := #[{ on := 3, ground := Go.Ground.data }, { on := 9, ground := Go.Ground.data }], guard := none }) (v := ?tv10) rfl (by kernel_rfl) (by kernel_rfl) (by kernel_rfl) (by kernel_rfl) (fun _ _ _ h => h) (Or.inl ⟨by rfl, ?th10⟩) hS ?tr10
    case th10 => (intro wS hSw; (try dsimp only at hSw); go_split_ands; go_simp; try with_reducible rfl)
    try simp only [Act.put, List.setIfInBounds_toArray, List.set_cons_zero, List.set_cons_succ]
    refine wpAnyL_take (i := 11) (oi := { dst := some 4, op := Go.Op.assign (Go.Operand.tmp 15), type := 4, pos := "l4_ways.go:262", after := #[{ on := 10, ground := Go.Ground.data }, { on := 7, ground := Go.Ground.chain }, { on := 0, ground := Go.Ground.phase }, { on := 1, ground := Go.Ground.phase }, { on := 2, ground := Go.Ground.phase }, { on := 3, ground := Go.Ground.phase }, { on := 4, ground := Go.Ground.phase }, { on := 5, ground := Go.Ground.phase }, { on := 6, ground := Go.Ground.phase }, { on := 7, ground := Go.Ground.phase }, { on := 8, ground := Go.Ground.phase }, { on := 9, ground := Go.Ground.phase }, { on := 10, ground := Go.Ground.phase }], guard := none }) (v := ?tv11) rfl (by kernel_rfl) (by kernel_rfl) (by kernel_rfl) (by kernel_rfl) (fun _ _ _ h => h) (Or.inl ⟨by rfl, ?th11⟩) hS ?tr11
    case th11 => (intro wS hSw; (try dsimp only at hSw); go_split_ands; go_simp; try with_reducible rfl)
    try simp only [Act.put, List.setIfInBounds_toArray, List.set_cons_zero, List.set_cons_succ]
    refine wpAnyL_done (by kernel_rfl) ?_ _
    have HB1 := Lib.hid (HB.out.trans (hb1x.mono hzw))
    go_wp2_with fail
    go_ret
    rw [HF.out]
    exact ⟨rfl, HB1.out⟩
theorem implTab_lw (w : World) (lo hi : Nat) (m : M.Mz) (a b : Option Addr) (c d : Nat) (h : MzIn lo hi w m a c b d) (hz : hi ≤ w.heap.size) (_h1 : m.doors.length ≤ 1048576) (_h2 : m.keys.length ≤ 1048576) :
    Calls Try.prog 21 #[.agg #[.int .i64 m.size, .slice a m.doors.length c, .slice b m.keys.length d]] w (IntsOkPost w (M.tabV m) (M.mazeB m)) := by
  obtain ⟨ii0, hi0, hz0, hzz1, hz2⟩ := info_parts infoI
  have H := Lib.hid h
  clear h
  go_enter Try.func21, Try.ntmps21
  go_upto_region 1 with fail
  refine wp_named ?_
  intro W hW
  have hb : Below w.heap.size w W := by rw [hW]; exact below_alloc _ _
  have x1 : Box3 W w.heap.size 29 (.int .i64 m.size) (.slice a m.doors.length c) (.slice b m.keys.length d) := by rw [hW]; exact Box3.new _ _ _ _ rfl
  clear hW
  have hzw := hb.size
  obtain ⟨c0, c1, c2⟩ := x1.cells
  have HIM := Lib.hid (isMaze_any W lo hi m a b c d (H.out.below hb hz) (by omega))
  go_wp2_with fail
  refine (HIM.out).mono ?_
  rintro e w1 ⟨rfl, hb1⟩
  have X1 := Lib.hid (x1.below hb1)
  have HB1 := Lib.hid (hb.trans (hb1.mono hzw))
  have hz1 := hb1.size
  clear hb hb1 x1 c0 c1 c2
  cases q0 : M.mazeB m with
  | false =>
    have HF : Hid (M.tabV m = []) := Lib.hid (by unfold M.tabV; rw [q0]; rfl)
    have HM := Lib.hid q0
    clear q0
    go_wp2_with fail
    go_ret2
    rw [HF.out, HM.out]
    exact intsOk_end (l := []) (ownsRow_empty _ _ _ _ (by omega)) (HB1.out.alloc (by omega) _)
  | true =>
    have HVA := Lib.hid (M.valid_of q0)
    have HM := Lib.hid q0
    have v1 := HVA.out.size1
    have v12 := HVA.out.size12
    obtain ⟨n, hn'⟩ : ∃ n : Nat, (n : Int) = m.size := ⟨(m.size : Int).toNat, by omega⟩
    have hn12 : n ≤ 12 := by omega
    have HF : Hid (M.tabV m = M.stepsTo m M.nodeP n) := Lib.hid (by unfold M.tabV; rw [if_pos q0]; congr 1; omega)
    have HN := Lib.hid hn'
    clear q0 hn'
    go_wp2_with fail
    refine wp_region_late2 (fun (wq : World) => wq.cell? ⟨w.heap.size, 0, none⟩ = some (.int .i64 m.size) ∧ wq.cell? ⟨w.heap.size, 1, none⟩ = some (.slice a m.doors.length c) ∧ wq.cell? ⟨w.heap.size, 2, none⟩ = some (.slice b m.keys.length d)) [] 5 #[false, false, false, false, false] rfl rfl (by kernel_rfl) ?_
    have hS : (fun (wq : World) => wq.cell? ⟨w.heap.size, 0, none⟩ = some (.int .i64 m.size) ∧ wq.cell? ⟨w.heap.size, 1, none⟩ = some (.slice a m.doors.length c) ∧ wq.cell? ⟨w.heap.size, 2, none⟩ = some (.slice b m.keys.length d)) w1.drew := X1.out.cells
    refine wpAnyL_take (i := 0) (oi := { dst := some 12, op := Go.Op.load 29 (Go.Operand.tmp 1), type := 29, pos := "l4_ways.go:119", after := #[], guard := none }) (v := ?pv0) rfl (by kernel_rfl) (by kernel_rfl) (by kernel_rfl) (by kernel_rfl) (fun _ _ _ h => h) (Or.inl ⟨by rfl, ?ph0⟩) hS ?pr0
    case ph0 => (intro wS hSw; (try dsimp only at hSw); go_split_ands; go_simp; try with_reducible rfl)
    try simp only [Act.put, List.setIfInBounds_toArray, List.set_cons_zero, List.set_cons_succ]
    refine wpAnyL_take (i := 1) (oi := { dst := some 13, op := Go.Op.load 29 (Go.Operand.tmp 1), type := 29, pos := "l4_ways.go:119", after := #[], guard := none }) (v := ?pv1) rfl (by kernel_rfl) (by kernel_rfl) (by kernel_rfl) (by kernel_rfl) (fun _ _ _ h => h) (Or.inl ⟨by rfl, ?ph1⟩) hS ?pr1
    case ph1 => (intro wS hSw; (try dsimp only at hSw); go_split_ands; go_simp; try with_reducible rfl)
    try simp only [Act.put, List.setIfInBounds_toArray, List.set_cons_zero, List.set_cons_succ]
    refine wpAnyL_one (i := 2) (oi := { dst := some 14, op := Go.Op.call { callee := Go.Callee.value (Go.Operand.func 60), args := #[Go.Operand.tmp 13], argTypes := #[29] }, type := 60, pos := "l4_ways.go:119", after := #[{ on := 1, ground := Go.Ground.data }], guard := none }) (by kernel_rfl) rfl (fun Kp2 hKp2 => ?_)
    refine step_call (by rfl) 60 #[.agg #[.int .i64 m.size, .slice a m.doors.length c, .slice b m.keys.length d]] (by go_simp; try rfl) (show Calls _ _ _ _ (StPost _ (M.st0 m)) from firstState_any w1.drew lo hi m a b c d (H.out.below (Below.drawnN HB1.out 1) hz) (by have := HB1.out.size; show hi ≤ w1.heap.size; omega) HVA.out) ?_
    rintro e wp2 ⟨rfl, hbp2⟩
    refine ⟨_, rfl, ?_⟩
    have hbp2x : Below w1.heap.size w1 wp2 := (Below.refl w1.heap.size w1).drew.trans hbp2
    have Xp2 := Lib.hid (X1.out.below hbp2x)
    have Bp2 := Lib.hid (HB1.out.trans (hbp2x.mono HB1.out.size))
    have hzp2 := hbp2x.size
    refine hKp2 _ _ (fun _ => Xp2.out.cells) ?_
    clear hS
    have hS := Xp2.out.cells
    try simp only [Act.put, List.setIfInBounds_toArray, List.set_cons_zero, List.set_cons_succ]
    refine wpAnyL_one (i := 3) (oi := { dst := some 15, op := Go.Op.call { callee := Go.Callee.value (Go.Operand.func 59), args := #[Go.Operand.tmp 12, Go.Operand.tmp 14], argTypes := #[29, 60] }, type := 57, pos := "l4_ways.go:119", after := #[{ on := 0, ground := Go.Ground.data }, { on := 2, ground := Go.Ground.data }, { on := 2, ground := Go.Ground.chain }], guard := none }) (by kernel_rfl) rfl (fun Kp3 hKp3 => ?_)
    refine step_call (by rfl) 59 #[.agg #[.int .i64 m.size, .slice a m.doors.length c, .slice b m.keys.length d], .agg #[.int .i64 (M.st0 m).1, .int .i64 (M.st0 m).2]] (by go_simp; try rfl) (stepsFrom_any wp2 lo hi m a b c d (H.out.below Bp2.out hz) (by have := Bp2.out.size; omega) HVA.out (M.st0 m) (M.st0_ok HVA.out)) ?_
    rintro e wp3 ⟨mb, ml, rfl, hmbp3, hmpp3, hmlp3, hbp3⟩
    refine ⟨_, rfl, ?_⟩
    have Xp3 := Lib.hid (Xp2.out.below hbp3)
    have Bp3 := Lib.hid (Bp2.out.trans (hbp3.mono Bp2.out.size))
    have Pp3 := Lib.hid hmpp3
    have hzp3 := hbp3.size
    refine hKp3 _ _ (fun _ => Xp3.out.cells) ?_
    clear hS
    have hS := Xp3.out.cells
    try simp only [Act.put, List.setIfInBounds_toArray, List.set_cons_zero, List.set_cons_succ]
    refine wpAnyL_take (i := 4) (oi := { dst := some 4, op := Go.Op.assign (Go.Operand.tmp 15), type := 57, pos := "l4_ways.go:119", after := #[{ on := 3, ground := Go.Ground.data }, { on := 3, ground := Go.Ground.chain }, { on := 0, ground := Go.Ground.phase }, { on := 1, ground := Go.Ground.phase }, { on := 2, ground := Go.Ground.phase }, { on := 3, ground := Go.Ground.phase }], guard := none }) (v := ?pv4) rfl (by kernel_rfl) (by kernel_rfl) (by kernel_rfl) (by kernel_rfl) (fun _ _ _ h => h) (Or.inl ⟨by rfl, ?ph4⟩) hS ?pr4
    case ph4 => (intro wS hSw; (try dsimp only at hSw); go_split_ands; go_simp; try with_reducible rfl)
    try simp only [Act.put, List.setIfInBounds_toArray, List.set_cons_zero, List.set_cons_succ]
    refine wpAnyL_done (by kernel_rfl) ?_ _
    have hml : mb < wp3.heap.size := Pp3.out.lt
    have XB := Lib.hid (Xp3.out.below (below_alloc wp3 (.cells #[] 3)))
    have BB := Lib.hid (Bp3.out.alloc (by have := Bp3.out.size; omega) (.cells #[] 3))
    have PB := Lib.hid (Pp3.out.below (below_alloc wp3 (.cells #[] 3)) hml)
    have OB := Lib.hid (ownsRow_empty wp3 w.heap.size 3 1 (by have := Bp3.out.size; omega))
    have HOK := Lib.hid (in_ok HVA.out (M.st0_ok HVA.out) Pp3.out)
    obtain ⟨c0, c1, c2⟩ := XB.out.cells
    rw [← HN.out] at c0
    go_wp2_with fail
    go_loopw [5, 6, 7, 19] (fun v5 _ _ vc wr => ∃ (k : Nat), k ≤ n ∧ vc = .int .i64 (k : Int) ∧ wr.ownsRow w.heap.size 3 1 v5 k (M.encIs (M.stepsTo m M.nodeP k)) ∧ Box3 wr w.heap.size 29 (.int .i64 m.size) (.slice a m.doors.length c) (.slice b m.keys.length d) ∧ MapP wr mb ml (M.dst (M.nexts m) [M.st0 m]) ∧ Below w.heap.size w wr) (fun _ _ _ vc _ => n - (intOf vc).toNat)
    case atStart => exact ⟨0, Nat.zero_le _, rfl, OB.out, XB.out, PB.out, BB.out⟩
    case round =>
      obtain ⟨k, hk, rfl, hso, hx, hmp, hlow⟩ := hrel
      obtain ⟨la, lc, hv, hl1, hl2, _⟩ := own_slice hso
      subst hv
      have SO := Lib.hid hso
      have X7 := Lib.hid hx
      have P7 := Lib.hid hmp
      have LO := Lib.hid hlow
      have hzr := hlow.size
      have hxl := hx.lt
      have hpl := hmp.lt
      clear hso hx hmp hlow c0 c1 c2
      by_cases hkl : k < n
      · have b7 := below_alloc wr (.cells #[.int .i64 (k : Int)] 3)
        have cx : (wr.alloc (.cells #[.int .i64 (k : Int)] 3)).cell? ⟨wr.heap.size, 0, none⟩ = some (.int .i64 (k : Int)) := cell_one_new _ _ _ 0 _ rfl
        have HX8 := Lib.hid (X7.out.below b7)
        have HS8 := Lib.hid (M.stepsTo_succ m M.nodeP k)
        have hwant : WantOk 61 #[] #[.pointer (some ⟨wr.heap.size, 0, none⟩)] (M.nodeP (k : Int)) (fun s => s ∈ ml) (wr.alloc (.cells #[.int .i64 (k : Int)] 3)) := fun W' s hb' hs => isThere_any (k : Int) wr.heap.size W' s ((hb'.cell (p := ⟨wr.heap.size, 0, none⟩) (by show wr.heap.size < _; simp)).trans cx) (by have := hb'.size; simp at this; omega)
        have CF := Lib.hid (fewestTo_any 61 #[] #[.pointer (some ⟨wr.heap.size, 0, none⟩)] (enters_of Try.func61 (by kernel_rfl) rfl) (M.nodeP (k : Int)) _ mb ml _ (P7.out.below b7 hpl) hwant)
        have SO8 := Lib.hid (own_below SO.out b7)
        have P8 := Lib.hid (P7.out.below b7 hpl)
        have LO8 := Lib.hid (LO.out.trans (b7.mono hzr))
        clear hwant cx b7
        have hww : M.minO (fun s => M.nodeP (k : Int) s = true) (M.dst (M.nexts m) [M.st0 m]) = M.wayO m (M.st0 m) (M.nodeP (k : Int)) := rfl
        rw [hww] at CF
        clear hww
        generalize M.wayO m (M.st0 m) (M.nodeP (k : Int)) = r at *
        go_wp2_with fail
        refine (CF.out).mono ?_
        rintro e w4 ⟨rfl, hb4⟩
        have SO4 := Lib.hid (own_below SO8.out hb4)
        have X4 := Lib.hid (HX8.out.below hb4)
        have P4 := Lib.hid (P8.out.below hb4 (by simp; omega))
        have LO4 := Lib.hid (LO8.out.trans (hb4.mono LO8.out.size))
        have hz4 := hb4.size
        rw [World.size_alloc] at hz4
        clear hb4
        go_wp2_with fail
        refine (stepsOrNone_any r w4).mono ?_
        rintro e w5 ⟨rfl, rfl⟩
        have HNE := Lib.hid (own_ne_box SO4.out X4.out (by decide))
        have HNM := Lib.hid (fun e : (Value.slice la k lc).ownBlock = some mb => by
          rcases SO4.out with ⟨_, ⟨e1, _⟩ | ⟨g, cap, cur, e1, _, hh, _⟩⟩
          · rw [e1] at e; cases e
          · rw [e1] at e
            have : g = mb := by simpa [Value.ownBlock] using e
            subst this
            exact P4.out.block _ _ _ hh)
        go_wp2_with (at_builtin; refine wpList_append_own _ rfl _ _ 23 rfl w.heap.size 3 ii0 (.int .i64 0) 1 8 Try.underlying23 hi0 hz0 hzz1 hz2 rfl (by decide) _ _ _ rfl (SO4.out.alloc _) ⟨w4.heap.size, 0, none⟩ 1 1 [.int .i64 (M.optI r)] rfl rfl (cell_one_new _ _ _) (fun x hx => by simp at hx; subst hx; rfl) (by unfold maxLen; omega) (by omega) (by simp; omega) ?_; intro v' w3 hown' hgrow3 hnil3)
        go_roundw
        case rel =>
          refine ⟨k + 1, by omega, by go_num, ?_, (X4.out.alloc _).grown hgrow3 HNE.out, (P4.out.below (below_alloc _ _) P4.out.lt).grown hgrow3 (fun e => HNM.out e.symm), (LO4.out.alloc (by omega) _).grown hgrow3 (by simp; omega) (own_base SO4.out)⟩
          rw [HS8.out, M.encIs_append]
          exact hown'
        case measure => simp [intOf]; omega
      · obtain rfl : k = n := by omega
        have HLN := Lib.hid (M.stepsTo_len m M.nodeP k)
        go_wp2_with fail
        go_ret2
        rw [HF.out, HM.out]
        exact intsOk_end (by rw [HLN.out]; exact SO.out) LO.out
theorem implSak_lw (w : World) (lo hi : Nat) (m : M.Mz) (a b : Option Addr) (c d : Nat) (h : MzIn lo hi w m a c b d) (hz : hi ≤ w.heap.size) (_h1 : m.doors.length ≤ 1048576) (_h2 : m.keys.length ≤ 1048576) :
    Calls Try.prog 44 #[.agg #[.int .i64 m.size, .slice a m.doors.length c, .slice b m.keys.length d]] w (IntsOkPost w (M.sakV m) (M.mazeB m)) := by
  obtain ⟨ii0, hi0, hz0, hzz1, hz2⟩ := info_parts infoI
  have H := Lib.hid h
  clear h
  go_enter Try.func44, Try.ntmps44
  go_upto_region 1 with fail
  refine wp_named ?_
  intro W hW
  have hb : Below w.heap.size w W := by rw [hW]; exact below_alloc _ _
  have x1 : Box3 W w.heap.size 29 (.int .i64 m.size) (.slice a m.doors.length c) (.slice b m.keys.length d) := by rw [hW]; exact Box3.new _ _ _ _ rfl
  clear hW
  have hzw := hb.size
  obtain ⟨c0, c1, c2⟩ := x1.cells
  have HIM := Lib.hid (isMaze_any W lo hi m a b c d (H.out.below hb hz) (by omega))
  go_wp2_with fail
  refine (HIM.out).mono ?_
  rintro e w1 ⟨rfl, hb1⟩
  have X1 := Lib.hid (x1.below hb1)
  have HB1 := Lib.hid (hb.trans (hb1.mono hzw))
  have hz1 := hb1.size
  clear hb hb1 x1 c0 c1 c2
  cases q0 : M.mazeB m with
  | false =>
    have HF : Hid (M.sakV m = []) := Lib.hid (by unfold M.sakV; rw [q0]; rfl)
    have HM := Lib.hid q0
    clear q0
    go_wp2_with fail
    go_ret2
    rw [HF.out, HM.out]
    exact intsOk_end (l := []) (ownsRow_empty _ _ _ _ (by omega)) (HB1.out.alloc (by omega) _)
  | true =>
    have HVA := Lib.hid (M.valid_of q0)
    have HM := Lib.hid q0
    have v1 := HVA.out.size1
    have v12 := HVA.out.size12
    obtain ⟨n, hn'⟩ : ∃ n : Nat, (n : Int) = 7 := ⟨(7 : Int).toNat, by omega⟩
    have hn12 : n ≤ 12 := by omega
    have HF : Hid (M.sakV m = M.stepsTo m (M.keysP m) n) := Lib.hid (by unfold M.sakV; rw [if_pos q0]; congr 1; omega)
    clear q0
    obtain rfl : n = 7 := by omega
    clear hn' hn12
    go_wp2_with fail
    refine wp_region_late2 (fun (wq : World) => wq.cell? ⟨w.heap.size, 0, none⟩ = some (.int .i64 m.size) ∧ wq.cell? ⟨w.heap.size, 1, none⟩ = some (.slice a m.doors.length c) ∧ wq.cell? ⟨w.heap.size, 2, none⟩ = some (.slice b m.keys.length d)) [] 5 #[false, false, false, false, false] rfl rfl (by kernel_rfl) ?_
    have hS : (fun (wq : World) => wq.cell? ⟨w.heap.size, 0, none⟩ = some (.int .i64 m.size) ∧ wq.cell? ⟨w.heap.size, 1, none⟩ = some (.slice a m.doors.length c) ∧ wq.cell? ⟨w.heap.size, 2, none⟩ = some (.slice b m.keys.length d)) w1.drew := X1.out.cells
    refine wpAnyL_take (i := 0) (oi := { dst := some 12, op := Go.Op.load 29 (Go.Operand.tmp 1), type := 29, pos := "l4_ways.go:259", after := #[], guard := none }) (v := ?pv0) rfl (by kernel_rfl) (by kernel_rfl) (by kernel_rfl) (by kernel_rfl) (fun _ _ _ h => h) (Or.inl ⟨by rfl, ?ph0⟩) hS ?pr0
    case ph0 => (intro wS hSw; (try dsimp only at hSw); go_split_ands; go_simp; try with_reducible rfl)
    try simp only [Act.put, List.setIfInBounds_toArray, List.set_cons_zero, List.set_cons_succ]
    refine wpAnyL_take (i := 1) (oi := { dst := some 13, op := Go.Op.load 29 (Go.Operand.tmp 1), type := 29, pos := "l4_ways.go:259", after := #[], guard := none }) (v := ?pv1) rfl (by kernel_rfl) (by kernel_rfl) (by kernel_rfl) (by kernel_rfl) (fun _ _ _ h => h) (Or.inl ⟨by rfl, ?ph1⟩) hS ?pr1
    case ph1 => (intro wS hSw; (try dsimp only at hSw); go_split_ands; go_simp; try with_reducible rfl)
    try simp only [Act.put, List.setIfInBounds_toArray, List.set_cons_zero, List.set_cons_succ]
    refine wpAnyL_one (i := 2) (oi := { dst := some 14, op := Go.Op.call { callee := Go.Callee.value (Go.Operand.func 60), args := #[Go.Operand.tmp 13], argTypes := #[29] }, type := 60, pos := "l4_ways.go:259", after := #[{ on := 1, ground := Go.Ground.data }], guard := none }) (by kernel_rfl) rfl (fun Kp2 hKp2 => ?_)
    refine step_call (by rfl) 60 #[.agg #[.int .i64 m.size, .slice a m.doors.length c, .slice b m.keys.length d]] (by go_simp; try rfl) (show Calls _ _ _ _ (StPost _ (M.st0 m)) from firstState_any w1.drew lo hi m a b c d (H.out.below (Below.drawnN HB1.out 1) hz) (by have := HB1.out.size; show hi ≤ w1.heap.size; omega) HVA.out) ?_
    rintro e wp2 ⟨rfl, hbp2⟩
    refine ⟨_, rfl, ?_⟩
    have hbp2x : Below w1.heap.size w1 wp2 := (Below.refl w1.heap.size w1).drew.trans hbp2
    have Xp2 := Lib.hid (X1.out.below hbp2x)
    have Bp2 := Lib.hid (HB1.out.trans (hbp2x.mono HB1.out.size))
    have hzp2 := hbp2x.size
    refine hKp2 _ _ (fun _ => Xp2.out.cells) ?_
    clear hS
    have hS := Xp2.out.cells
    try simp only [Act.put, List.setIfInBounds_toArray, List.set_cons_zero, List.set_cons_succ]
    refine wpAnyL_one (i := 3) (oi := { dst := some 15, op := Go.Op.call { callee := Go.Callee.value (Go.Operand.func 59), args := #[Go.Operand.tmp 12, Go.Operand.tmp 14], argTypes := #[29, 60] }, type := 57, pos := "l4_ways.go:259", after := #[{ on := 0, ground := Go.Ground.data }, { on := 2, ground := Go.Ground.data }, { on := 2, ground := Go.Ground.chain }], guard := none }) (by kernel_rfl) rfl (fun Kp3 hKp3 => ?_)
    refine step_call (by rfl) 59 #[.agg #[.int .i64 m.size, .slice a m.doors.length c, .slice b m.keys.length d], .agg #[.int .i64 (M.st0 m).1, .int .i64 (M.st0 m).2]] (by go_simp; try rfl) (stepsFrom_any wp2 lo hi m a b c d (H.out.below Bp2.out hz) (by have := Bp2.out.size; omega) HVA.out (M.st0 m) (M.st0_ok HVA.out)) ?_
    rintro e wp3 ⟨mb, ml, rfl, hmbp3, hmpp3, hmlp3, hbp3⟩
    refine ⟨_, rfl, ?_⟩
    have Xp3 := Lib.hid (Xp2.out.below hbp3)
    have Bp3 := Lib.hid (Bp2.out.trans (hbp3.mono Bp2.out.size))
    have Pp3 := Lib.hid hmpp3
    have hzp3 := hbp3.size
    refine hKp3 _ _ (fun _ => Xp3.out.cells) ?_
    clear hS
    have hS := Xp3.out.cells
    try simp only [Act.put, List.setIfInBounds_toArray, List.set_cons_zero, List.set_cons_succ]
    refine wpAnyL_take (i := 4) (oi := { dst := some 4, op := Go.Op.assign (Go.Operand.tmp 15), type := 57, pos := "l4_ways.go:259", after := #[{ on := 3, ground := Go.Ground.data }, { on := 3, ground := Go.Ground.chain }, { on := 0, ground := Go.Ground.phase }, { on := 1, ground := Go.Ground.phase }, { on := 2, ground := Go.Ground.phase }, { on := 3, ground := Go.Ground.phase }], guard := none }) (v := ?pv4) rfl (by kernel_rfl) (by kernel_rfl) (by kernel_rfl) (by kernel_rfl) (fun _ _ _ h => h) (Or.inl ⟨by rfl, ?ph4⟩) hS ?pr4
    case ph4 => (intro wS hSw; (try dsimp only at hSw); go_split_ands; go_simp; try with_reducible rfl)
    try simp only [Act.put, List.setIfInBounds_toArray, List.set_cons_zero, List.set_cons_succ]
    refine wpAnyL_done (by kernel_rfl) ?_ _
    have hml : mb < wp3.heap.size := Pp3.out.lt
    have XB := Lib.hid (Xp3.out.below (below_alloc wp3 (.cells #[] 3)))
    have BB := Lib.hid (Bp3.out.alloc (by have := Bp3.out.size; omega) (.cells #[] 3))
    have PB := Lib.hid (Pp3.out.below (below_alloc wp3 (.cells #[] 3)) hml)
    have OB := Lib.hid (ownsRow_empty wp3 w.heap.size 3 1 (by have := Bp3.out.size; omega))
    have HOK := Lib.hid (in_ok HVA.out (M.st0_ok HVA.out) Pp3.out)
    obtain ⟨c0, c1, c2⟩ := XB.out.cells
    go_wp2_with fail
    go_loopw [5, 6, 7, 17] (fun v5 _ _ vc wr => ∃ (k : Nat), k ≤ 7 ∧ vc = .int .i64 (k : Int) ∧ wr.ownsRow w.heap.size 3 1 v5 k (M.encIs (M.stepsTo m (M.keysP m) k)) ∧ Box3 wr w.heap.size 29 (.int .i64 m.size) (.slice a m.doors.length c) (.slice b m.keys.length d) ∧ MapP wr mb ml (M.dst (M.nexts m) [M.st0 m]) ∧ Below w.heap.size w wr) (fun _ _ _ vc _ => 7 - (intOf vc).toNat)
    case atStart => exact ⟨0, Nat.zero_le _, rfl, OB.out, XB.out, PB.out, BB.out⟩
    case round =>
      obtain ⟨k, hk, rfl, hso, hx, hmp, hlow⟩ := hrel
      obtain ⟨la, lc, hv, hl1, hl2, _⟩ := own_slice hso
      subst hv
      have SO := Lib.hid hso
      have X7 := Lib.hid hx
      have P7 := Lib.hid hmp
      have LO := Lib.hid hlow
      have hzr := hlow.size
      have hxl := hx.lt
      have hpl := hmp.lt
      clear hso hx hmp hlow c0 c1 c2
      by_cases hkl : k < 7
      · have b7 := below_alloc wr (.cells #[.int .i64 (k : Int)] 3)
        have cx : (wr.alloc (.cells #[.int .i64 (k : Int)] 3)).cell? ⟨wr.heap.size, 0, none⟩ = some (.int .i64 (k : Int)) := cell_one_new _ _ _ 0 _ rfl
        have HX8 := Lib.hid (X7.out.below b7)
        have HS8 := Lib.hid (M.stepsTo_succ m (M.keysP m) k)
        have hwant : WantOk 82 #[] #[.pointer (some ⟨w.heap.size, 0, none⟩), .pointer (some ⟨wr.heap.size, 0, none⟩)] ((M.keysP m) (k : Int)) (fun s => s ∈ ml) (wr.alloc (.cells #[.int .i64 (k : Int)] 3)) := fun W' s hb' hs => hasKeys_any m a b c d v1 v12 (k : Int) w.heap.size wr.heap.size W' s ⟨(HOK.out s hs).2.2.1, (HOK.out s hs).2.2.2⟩ (HX8.out.below hb').cells.1 (HX8.out.below hb').cells.2.1 (HX8.out.below hb').cells.2.2 ((hb'.cell (p := ⟨wr.heap.size, 0, none⟩) (by show wr.heap.size < _; simp)).trans cx) (by have := hb'.size; simp at this; omega) (by have := hb'.size; simp at this; omega)
        have CF := Lib.hid (fewestTo_any 82 #[] #[.pointer (some ⟨w.heap.size, 0, none⟩), .pointer (some ⟨wr.heap.size, 0, none⟩)] (enters_of Try.func82 (by kernel_rfl) rfl) ((M.keysP m) (k : Int)) _ mb ml _ (P7.out.below b7 hpl) hwant)
        have SO8 := Lib.hid (own_below SO.out b7)
        have P8 := Lib.hid (P7.out.below b7 hpl)
        have LO8 := Lib.hid (LO.out.trans (b7.mono hzr))
        clear hwant cx b7
        have hww : M.minO (fun s => (M.keysP m) (k : Int) s = true) (M.dst (M.nexts m) [M.st0 m]) = M.wayO m (M.st0 m) ((M.keysP m) (k : Int)) := rfl
        rw [hww] at CF
        clear hww
        generalize M.wayO m (M.st0 m) ((M.keysP m) (k : Int)) = r at *
        go_wp2_with fail
        refine (CF.out).mono ?_
        rintro e w4 ⟨rfl, hb4⟩
        have SO4 := Lib.hid (own_below SO8.out hb4)
        have X4 := Lib.hid (HX8.out.below hb4)
        have P4 := Lib.hid (P8.out.below hb4 (by simp; omega))
        have LO4 := Lib.hid (LO8.out.trans (hb4.mono LO8.out.size))
        have hz4 := hb4.size
        rw [World.size_alloc] at hz4
        clear hb4
        go_wp2_with fail
        refine (stepsOrNone_any r w4).mono ?_
        rintro e w5 ⟨rfl, rfl⟩
        have HNE := Lib.hid (own_ne_box SO4.out X4.out (by decide))
        have HNM := Lib.hid (fun e : (Value.slice la k lc).ownBlock = some mb => by
          rcases SO4.out with ⟨_, ⟨e1, _⟩ | ⟨g, cap, cur, e1, _, hh, _⟩⟩
          · rw [e1] at e; cases e
          · rw [e1] at e
            have : g = mb := by simpa [Value.ownBlock] using e
            subst this
            exact P4.out.block _ _ _ hh)
        go_wp2_with (at_builtin; refine wpList_append_own _ rfl _ _ 23 rfl w.heap.size 3 ii0 (.int .i64 0) 1 8 Try.underlying23 hi0 hz0 hzz1 hz2 rfl (by decide) _ _ _ rfl (SO4.out.alloc _) ⟨w4.heap.size, 0, none⟩ 1 1 [.int .i64 (M.optI r)] rfl rfl (cell_one_new _ _ _) (fun x hx => by simp at hx; subst hx; rfl) (by unfold maxLen; omega) (by omega) (by simp; omega) ?_; intro v' w3 hown' hgrow3 hnil3)
        go_roundw
        case rel =>
          refine ⟨k + 1, by omega, by go_num, ?_, (X4.out.alloc _).grown hgrow3 HNE.out, (P4.out.below (below_alloc _ _) P4.out.lt).grown hgrow3 (fun e => HNM.out e.symm), (LO4.out.alloc (by omega) _).grown hgrow3 (by simp; omega) (own_base SO4.out)⟩
          rw [HS8.out, M.encIs_append]
          exact hown'
        case measure => simp [intOf]; omega
      · obtain rfl : k = 7 := by omega
        have HLN := Lib.hid (M.stepsTo_len m (M.keysP m) 7)
        go_wp2_with fail
        go_ret2
        rw [HF.out, HM.out]
        exact intsOk_end (by rw [HLN.out]; exact SO.out) LO.out
end C
end Go.Proofs.Ytbpinhfjfjfbdaa
