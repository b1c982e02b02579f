/-
  CONTRACTS of impl's FewestWith, FewestSteps, StatesOf; what lay in memory stays. No condition but that the maze reads so.
-/
import Derived.Test.YtbpinhfjfjfbdaaWayI
import Derived.Test.YtbpinhfjfjfbdaaLate
import Derived.Test.YtbpinhfjfjfbdaaStep
import Derived.Test.YtbpinhfjfjfbdaaNodeB
namespace Go.Proofs.Ytbpinhfjfjfbdaa
open Go.RowKit
namespace M
/-- where one begins -/
def st0 (m : Mz) : St := stAt m 0 0
theorem st0_ok {m : Mz} (V : Valid m) : StOk m (st0 m) := stAt_ok V (by omega) (by have := V.size1; omega) (by decide) (by decide)
/-- the least number of steps from a state to where p holds -/
noncomputable def wayO (m : Mz) (s : St) (p : St → Bool) : Option Nat := minO (fun t => p t = true) (dst (nexts m) [s])
def wantW (m : Mz) (set : Int) (t : St) : Bool := (t.1 == m.size - 1) && hasB t.2 set
noncomputable def fwO (m : Mz) (set : Int) : Option Nat := if mazeB m && setB set then wayO m (st0 m) (wantW m set) else none
def wonB (m : Mz) (t : St) : Bool := t.1 == m.size - 1
def optV (r : Option Nat) : Int := (r.getD 0 : Nat)
noncomputable def ffO (m : Mz) (x set : Int) : Option Nat := if mazeB m && (nodeB m.size x && setB set) then wayO m (stAt m x set) (wonB m) else none
/-- how many keys there are -/
def IsCnt (f : St → Option Nat) (n : Nat) : Prop := ∃ L : List St, L.Nodup ∧ (∀ s, s ∈ L ↔ ∃ k, f s = some k) ∧ L.length = n
theorem IsCnt.unique {f : St → Option Nat} {n k : Nat} (h : IsCnt f n) (h' : IsCnt f k) : n = k := by
  obtain ⟨L, h1, h2, rfl⟩ := h
  obtain ⟨L', h3, h4, rfl⟩ := h'
  exact ((List.perm_ext_iff_of_nodup h1 h3).2 fun s => (h2 s).trans (h4 s).symm).length_eq
noncomputable def cntO (f : St → Option Nat) : Nat := by classical exact if h : ∃ n, IsCnt f n then Classical.choose h else 0
theorem cntO_eq {f : St → Option Nat} {n : Nat} (h : IsCnt f n) : cntO f = n := by
  unfold cntO
  have h' : ∃ n, IsCnt f n := ⟨n, h⟩
  rw [dif_pos h']
  exact (Classical.choose_spec h').unique h
noncomputable def statesV (m : Mz) : Int := if mazeB m then (cntO (dst (nexts m) [st0 m]) : Nat) else 0
end M
namespace C
set_option maxHeartbeats 3200000
set_option maxRecDepth 20000
theorem wantWith_any (m : M.Mz) (a b : Option Addr) (c d : Nat) (h1 : 1 ≤ m.size) (h2 : m.size ≤ 12) (set : Int) (g1 g2 : Nat) (w : World) (s : M.St) (c0 : w.cell? ⟨g1, 0, none⟩ = some (.int .i64 m.size)) (c1 : w.cell? ⟨g1, 1, none⟩ = some (.slice a m.doors.length c)) (c2 : w.cell? ⟨g1, 2, none⟩ = some (.slice b m.keys.length d))
    (cs : w.cell? ⟨g2, 0, none⟩ = some (.int .i64 set)) (hg1 : g1 < w.heap.size) (hg2 : g2 < w.heap.size) :
    Calls Try.prog 78 (#[].push (.agg #[.int .i64 s.1, .int .i64 s.2]) ++ #[.pointer (some ⟨g1, 0, none⟩), .pointer (some ⟨g2, 0, none⟩)]) w (BoolW w (M.wantW m set s)) := by
  show Calls Try.prog 78 #[.agg #[.int .i64 s.1, .int .i64 s.2], .pointer (some ⟨g1, 0, none⟩), .pointer (some ⟨g2, 0, none⟩)] w _
  have HWT : Hid (M.wantW m set s = ((s.1 == m.size - 1) && M.hasB s.2 set)) := Lib.hid rfl
  go_enter Try.func78, Try.ntmps78
  go_upto_region 1 with fail
  refine wp_named ?_
  intro W hW
  have hb : Below w.heap.size w W := by rw [hW]; exact below_alloc _ _
  have z1 : Box2 W w.heap.size 60 (.int .i64 s.1) (.int .i64 s.2) := by rw [hW]; exact Box2.new _ _ _ rfl
  clear hW
  have HB := Lib.hid hb
  have Z1 := Lib.hid z1
  have hzw := hb.size
  have c0' : W.cell? ⟨g1, 0, none⟩ = _ := (hb.cell (p := ⟨g1, 0, none⟩) hg1).trans c0
  have c1' : W.cell? ⟨g1, 1, none⟩ = _ := (hb.cell (p := ⟨g1, 1, none⟩) hg1).trans c1
  have c2' : W.cell? ⟨g1, 2, none⟩ = _ := (hb.cell (p := ⟨g1, 2, none⟩) hg1).trans c2
  have CS := Lib.hid ((hb.cell (p := ⟨g2, 0, none⟩) hg2).trans cs)
  obtain ⟨k0, k1⟩ := z1.cells
  have hzl := z1.lt
  have CW := isWon_any W m a b c d h1 h2 s
  clear hb z1 c0 c1 c2 cs
  cases hw : (s.1 == m.size - 1) with
  | false =>
    rw [hw] at CW
    have CW1 := Lib.hid CW
    have HF : Hid (M.wantW m set s = false) := Lib.hid (by rw [HWT.out, hw]; rfl)
    clear CW hw
    go_wp2_with fail
    refine (CW1.out).mono ?_
    rintro e w1 ⟨rfl, hb1⟩
    have HB1 := Lib.hid (HB.out.trans (hb1.mono hzw))
    clear hb1
    go_wp2_with fail
    go_ret
    rw [HF.out]
    exact ⟨rfl, HB1.out⟩
  | true =>
    rw [hw] at CW
    have CW1 := Lib.hid CW
    have HF : Hid (M.wantW m set s = M.hasB s.2 set) := Lib.hid (by rw [HWT.out, hw]; rfl)
    clear CW hw
    go_wp2_with fail
    refine (CW1.out).mono ?_
    rintro e w1 ⟨rfl, hb1⟩
    have HB1 := Lib.hid (HB.out.trans (hb1.mono hzw))
    have z2 := Z1.out.below hb1
    have cs1 : w1.cell? ⟨g2, 0, none⟩ = _ := (hb1.cell (p := ⟨g2, 0, none⟩) (show g2 < _ by omega)).trans CS.out
    obtain ⟨k2, k3⟩ := z2.cells
    clear hb1 z2 k0 k1 c0' c1' c2'
    go_wp2_with fail
    refine (hasAll_any _ _ _).mono ?_
    rintro e w2 ⟨rfl, rfl⟩
    go_wp2_with fail
    go_ret
    rw [HF.out]
    exact ⟨rfl, HB1.out⟩
theorem implFewW_lw (w : World) (lo hi : Nat) (m : M.Mz) (a b : Option Addr) (c d : Nat) (h : MzIn lo hi w m a c b d) (hz : hi ≤ w.heap.size) (_h1 : m.doors.length ≤ 1048576) (_h2 : m.keys.length ≤ 1048576) (set : Int) (_s1 : -9223372036854775808 ≤ set) (_s2 : set ≤ 9223372036854775807) :
    Calls Try.prog 40 #[.agg #[.int .i64 m.size, .slice a m.doors.length c, .slice b m.keys.length d], .int .i64 set] w (OptPost w (M.fwO m set)) := by
  have H := Lib.hid h
  clear h
  go_enter Try.func40, Try.ntmps40
  go_upto_region 1 with fail
  refine wp_named ?_
  intro W hW
  have hb : Below w.heap.size w W := by rw [hW]; exact (below_alloc _ _).alloc (by simp) _
  have x1 : Box3 W w.heap.size 29 (.int .i64 m.size) (.slice a m.doors.length c) (.slice b m.keys.length d) := by rw [hW]; exact (Box3.new _ _ _ _ rfl).alloc _
  have y1 : W.cell? ⟨w.heap.size + 1, 0, none⟩ = some (.int .i64 set) := by
    rw [hW]
    have := cell_one_new (w.alloc (.cells #[.int .i64 m.size, .slice a m.doors.length c, .slice b m.keys.length d] 29)) (.int .i64 set) 3 0 _ rfl
    rw [World.size_alloc] at this
    exact this
  have hsz : W.heap.size = w.heap.size + 1 + 1 := by rw [hW]; simp
  clear hW
  have hzw := hb.size
  obtain ⟨c0, c1, c2⟩ := x1.cells
  have HIM := Lib.hid (isMaze_any W lo hi m a b c d (H.out.below hb hz) (by omega))
  go_wp2_with fail
  refine (HIM.out).mono ?_
  rintro e w1 ⟨rfl, hb1⟩
  have X1 := Lib.hid (x1.below hb1)
  have y2 : w1.cell? ⟨w.heap.size + 1, 0, none⟩ = _ := (hb1.cell (p := ⟨w.heap.size + 1, 0, none⟩) (show w.heap.size + 1 < _ by omega)).trans y1
  have HB1 := Lib.hid (hb.trans (hb1.mono hzw))
  have hz1 := hb1.size
  clear hb hb1 x1 y1 c0 c1 c2
  cases q0 : M.mazeB m with
  | false =>
    have HF : Hid (M.fwO m set = none) := Lib.hid (by unfold M.fwO; rw [q0]; rfl)
    clear q0
    go_wp2_with fail
    go_ret2
    rw [HF.out]
    exact ⟨rfl, HB1.out⟩
  | true =>
    have HVA := Lib.hid (M.valid_of q0)
    have HM := Lib.hid q0
    clear q0
    go_wp2_with fail
    refine (isSet_any _ _).mono ?_
    rintro e w9 ⟨rfl, rfl⟩
    cases q1 : M.setB set with
    | false =>
      have HF : Hid (M.fwO m set = none) := Lib.hid (by unfold M.fwO; rw [HM.out, q1]; rfl)
      clear q1
      go_wp2_with fail
      go_ret2
      rw [HF.out]
      exact ⟨rfl, HB1.out⟩
    | true =>
      have HF : Hid (M.fwO m set = M.minO (fun t => M.wantW m set t = true) (M.dst (M.nexts m) [M.st0 m])) := Lib.hid (by unfold M.fwO M.wayO; rw [HM.out, q1]; rfl)
      have v1 := HVA.out.size1
      have v12 := HVA.out.size12
      clear q1
      go_wp2_with fail
      refine wp_region_late2 (fun (wq : World) => wq.cell? ⟨w.heap.size, 0, none⟩ = some (.int .i64 m.size) ∧ wq.cell? ⟨w.heap.size, 1, none⟩ = some (.slice a m.doors.length c) ∧ wq.cell? ⟨w.heap.size, 2, none⟩ = some (.slice b m.keys.length d)) [] 10 #[false, false, false, false, false, false, false, false, false, false] rfl rfl (by kernel_rfl) ?_
      have hS : (fun (wq : World) => wq.cell? ⟨w.heap.size, 0, none⟩ = some (.int .i64 m.size) ∧ wq.cell? ⟨w.heap.size, 1, none⟩ = some (.slice a m.doors.length c) ∧ wq.cell? ⟨w.heap.size, 2, none⟩ = some (.slice b m.keys.length d)) w1.drew := X1.out.cells
      refine wpAnyL_take (i := 0) (oi := { dst := some 16, op := Go.Op.load 29 (Go.Operand.tmp 2), type := 29, pos := "l4_ways.go:240", after := #[], guard := none }) (v := ?pv0) rfl (by kernel_rfl) (by kernel_rfl) (by kernel_rfl) (by kernel_rfl) (fun _ _ _ h => h) (Or.inl ⟨by rfl, ?ph0⟩) hS ?pr0
      case ph0 => (intro wS hSw; (try dsimp only at hSw); go_split_ands; go_simp; try with_reducible rfl)
      try simp only [Act.put, List.setIfInBounds_toArray, List.set_cons_zero, List.set_cons_succ]
      refine wpAnyL_take (i := 1) (oi := { dst := some 17, op := Go.Op.load 29 (Go.Operand.tmp 2), type := 29, pos := "l4_ways.go:240", after := #[], guard := none }) (v := ?pv1) rfl (by kernel_rfl) (by kernel_rfl) (by kernel_rfl) (by kernel_rfl) (fun _ _ _ h => h) (Or.inl ⟨by rfl, ?ph1⟩) hS ?pr1
      case ph1 => (intro wS hSw; (try dsimp only at hSw); go_split_ands; go_simp; try with_reducible rfl)
      try simp only [Act.put, List.setIfInBounds_toArray, List.set_cons_zero, List.set_cons_succ]
      refine wpAnyL_take (i := 4) (oi := { dst := some 20, op := Go.Op.move (Go.Operand.tmp 6), type := 62, pos := "l4_ways.go:240", after := #[], guard := none }) (v := ?pv4) rfl (by kernel_rfl) (by kernel_rfl) (by kernel_rfl) (by kernel_rfl) (fun _ _ _ h => h) (Or.inl ⟨by rfl, ?ph4⟩) hS ?pr4
      case ph4 => (intro wS hSw; (try dsimp only at hSw); go_split_ands; go_simp; try with_reducible rfl)
      try simp only [Act.put, List.setIfInBounds_toArray, List.set_cons_zero, List.set_cons_succ]
      refine wpAnyL_one (i := 2) (oi := { dst := some 18, op := Go.Op.call { callee := Go.Callee.value (Go.Operand.func 60), args := #[Go.Operand.tmp 17], argTypes := #[29] }, type := 60, pos := "l4_ways.go:240", after := #[{ on := 1, ground := Go.Ground.data }], guard := none }) (by kernel_rfl) rfl (fun Kp2 hKp2 => ?_)
      refine step_call (by rfl) 60 #[.agg #[.int .i64 m.size, .slice a m.doors.length c, .slice b m.keys.length d]] (by go_simp; try rfl) (show Calls _ _ _ _ (StPost _ (M.st0 m)) from firstState_any w1.drew lo hi m a b c d (H.out.below (Below.drawnN HB1.out 1) hz) (by have := HB1.out.size; show hi ≤ w1.heap.size; omega) HVA.out) ?_
      rintro e wp2 ⟨rfl, hbp2⟩
      refine ⟨_, rfl, ?_⟩
      have hbp2x : Below w1.heap.size w1 wp2 := (Below.refl w1.heap.size w1).drew.trans hbp2
      have Xp2 := Lib.hid (X1.out.below hbp2x)
      have Bp2 := Lib.hid (HB1.out.trans (hbp2x.mono HB1.out.size))
      have hzp2 := hbp2x.size
      have Y2 := Lib.hid ((hbp2x.cell (p := ⟨w.heap.size + 1, 0, none⟩) (show w.heap.size + 1 < _ by omega)).trans y2)
      refine hKp2 _ _ (fun _ => Xp2.out.cells) ?_
      clear hS
      have hS := Xp2.out.cells
      try simp only [Act.put, List.setIfInBounds_toArray, List.set_cons_zero, List.set_cons_succ]
      refine wpAnyL_one (i := 3) (oi := { dst := some 19, op := Go.Op.call { callee := Go.Callee.value (Go.Operand.func 59), args := #[Go.Operand.tmp 16, Go.Operand.tmp 18], argTypes := #[29, 60] }, type := 57, pos := "l4_ways.go:240", after := #[{ on := 0, ground := Go.Ground.data }, { on := 2, ground := Go.Ground.data }, { on := 2, ground := Go.Ground.chain }], guard := none }) (by kernel_rfl) rfl (fun Kp3 hKp3 => ?_)
      refine step_call (by rfl) 59 #[.agg #[.int .i64 m.size, .slice a m.doors.length c, .slice b m.keys.length d], .agg #[.int .i64 (M.st0 m).1, .int .i64 (M.st0 m).2]] (by go_simp; try rfl) (stepsFrom_any wp2 lo hi m a b c d (H.out.below Bp2.out hz) (by have := Bp2.out.size; omega) HVA.out (M.st0 m) (M.st0_ok HVA.out)) ?_
      rintro e wp3 ⟨mb, ml, rfl, hmbp3, hmpp3, hmlp3, hbp3⟩
      refine ⟨_, rfl, ?_⟩
      have Xp3 := Lib.hid (Xp2.out.below hbp3)
      have Bp3 := Lib.hid (Bp2.out.trans (hbp3.mono Bp2.out.size))
      have Pp3 := Lib.hid hmpp3
      have hzp3 := hbp3.size
      have Y3 := Lib.hid ((hbp3.cell (p := ⟨w.heap.size + 1, 0, none⟩) (show w.heap.size + 1 < _ by omega)).trans Y2.out)
      refine hKp3 _ _ (fun _ => Xp3.out.cells) ?_
      clear hS
      have hS := Xp3.out.cells
      try simp only [Act.put, List.setIfInBounds_toArray, List.set_cons_zero, List.set_cons_succ]
      refine wpAnyL_one (i := 5) (oi := { dst := some 21, op := Go.Op.call { callee := Go.Callee.value (Go.Operand.func 63), args := #[Go.Operand.tmp 19, Go.Operand.tmp 20], argTypes := #[57, 62] }, type := 27, pos := "l4_ways.go:240", after := #[{ on := 3, ground := Go.Ground.data }, { on := 4, ground := Go.Ground.data }, { on := 3, ground := Go.Ground.chain }], guard := none }) (by kernel_rfl) rfl (fun Kp5 hKp5 => ?_)
      refine step_call (by rfl) 63 #[.map (some mb), .func (.func 78) #[] #[.pointer (some ⟨w.heap.size, 0, none⟩), .pointer (some ⟨w.heap.size + 1, 0, none⟩)]] (by go_simp; try rfl) (fewestTo_any 78 #[] #[.pointer (some ⟨w.heap.size, 0, none⟩), .pointer (some ⟨w.heap.size + 1, 0, none⟩)] (enters_of Try.func78 (by kernel_rfl) rfl) (M.wantW m set) wp3 mb ml _ Pp3.out (fun W' s hb' _ => wantWith_any m a b c d v1 v12 set _ _ W' s (Xp3.out.below hb').cells.1 (Xp3.out.below hb').cells.2.1 (Xp3.out.below hb').cells.2.2 ((hb'.cell (p := ⟨w.heap.size + 1, 0, none⟩) (show w.heap.size + 1 < _ by omega)).trans Y3.out) (by have := hb'.size; omega) (by have := hb'.size; omega))) ?_
      rintro e wp4 ⟨rfl, hbp4⟩
      refine ⟨_, rfl, ?_⟩
      
      have Xp4 := Lib.hid (Xp3.out.below hbp4)
      have Bp4 := Lib.hid (Bp3.out.trans (hbp4.mono Bp3.out.size))
      have HB6 := Bp4
      refine hKp5 _ _ (fun _ => Xp4.out.cells) ?_
      clear hS
      have hS := Xp4.out.cells
      try simp only [Act.put, List.setIfInBounds_toArray, List.set_cons_zero, List.set_cons_succ]
      refine wpAnyL_take (i := 6) (oi := { dst := some 22, op := Go.Op.extract (Go.Operand.tmp 21) 0, type := 3, pos := "l4_ways.go:240", after := #[{ on := 5, ground := Go.Ground.data }], guard := none }) (v := ?pv6) rfl (by kernel_rfl) (by kernel_rfl) (by kernel_rfl) (by kernel_rfl) (fun _ _ _ h => h) (Or.inl ⟨by rfl, ?ph6⟩) hS ?pr6
      case ph6 => (intro wS hSw; (try dsimp only at hSw); go_split_ands; go_simp; try with_reducible rfl)
      try simp only [Act.put, List.setIfInBounds_toArray, List.set_cons_zero, List.set_cons_succ]
      refine wpAnyL_take (i := 7) (oi := { dst := some 23, op := Go.Op.extract (Go.Operand.tmp 21) 1, type := 4, pos := "l4_ways.go:240", after := #[{ on := 5, ground := Go.Ground.data }], guard := none }) (v := ?pv7) rfl (by kernel_rfl) (by kernel_rfl) (by kernel_rfl) (by kernel_rfl) (fun _ _ _ h => h) (Or.inl ⟨by rfl, ?ph7⟩) hS ?pr7
      case ph7 => (intro wS hSw; (try dsimp only at hSw); go_split_ands; go_simp; try with_reducible rfl)
      try simp only [Act.put, List.setIfInBounds_toArray, List.set_cons_zero, List.set_cons_succ]
      refine wpAnyL_take (i := 8) (oi := { dst := some 4, op := Go.Op.assign (Go.Operand.tmp 22), type := 3, pos := "l4_ways.go:240", after := #[{ on := 6, ground := Go.Ground.data }, { on := 5, ground := Go.Ground.chain }, { on := 0, ground := Go.Ground.phase }, { on := 1, ground := Go.Ground.phase }, { on := 2, ground := Go.Ground.phase }, { on := 3, ground := Go.Ground.phase }, { on := 4, ground := Go.Ground.phase }, { on := 5, ground := Go.Ground.phase }, { on := 6, ground := Go.Ground.phase }, { on := 7, ground := Go.Ground.phase }], guard := none }) (v := ?pv8) rfl (by kernel_rfl) (by kernel_rfl) (by kernel_rfl) (by kernel_rfl) (fun _ _ _ h => h) (Or.inl ⟨by rfl, ?ph8⟩) hS ?pr8
      case ph8 => (intro wS hSw; (try dsimp only at hSw); go_split_ands; go_simp; try with_reducible rfl)
      try simp only [Act.put, List.setIfInBounds_toArray, List.set_cons_zero, List.set_cons_succ]
      refine wpAnyL_take (i := 9) (oi := { dst := some 5, op := Go.Op.assign (Go.Operand.tmp 23), type := 4, pos := "l4_ways.go:240", after := #[{ on := 7, ground := Go.Ground.data }, { on := 8, ground := Go.Ground.chain }, { on := 0, ground := Go.Ground.phase }, { on := 1, ground := Go.Ground.phase }, { on := 2, ground := Go.Ground.phase }, { on := 3, ground := Go.Ground.phase }, { on := 4, ground := Go.Ground.phase }, { on := 5, ground := Go.Ground.phase }, { on := 6, ground := Go.Ground.phase }, { on := 7, ground := Go.Ground.phase }, { on := 8, ground := Go.Ground.phase }], guard := none }) (v := ?pv9) rfl (by kernel_rfl) (by kernel_rfl) (by kernel_rfl) (by kernel_rfl) (fun _ _ _ h => h) (Or.inl ⟨by rfl, ?ph9⟩) hS ?pr9
      case ph9 => (intro wS hSw; (try dsimp only at hSw); go_split_ands; go_simp; try with_reducible rfl)
      try simp only [Act.put, List.setIfInBounds_toArray, List.set_cons_zero, List.set_cons_succ]
      refine wpAnyL_done (by kernel_rfl) ?_ _
      go_wp2_with fail
      go_ret2
      rw [HF.out]
      exact ⟨rfl, HB6.out⟩
theorem implFewS_lw (w : World) (lo hi : Nat) (m : M.Mz) (a b : Option Addr) (c d : Nat) (h : MzIn lo hi w m a c b d) (hz : hi ≤ w.heap.size) (h1 : m.doors.length ≤ 1048576) (h2 : m.keys.length ≤ 1048576) :
    Calls Try.prog 18 #[.agg #[.int .i64 m.size, .slice a m.doors.length c, .slice b m.keys.length d]] w (OptPost w (M.fwO m 0)) := by
  have H := Lib.hid h
  clear h
  go_enter Try.func18, Try.ntmps18
  go_wp2_with fail
  have hb := below_alloc w (.cells #[.int .i64 m.size, .slice a m.doors.length c, .slice b m.keys.length d] 29)
  refine (implFewW_lw _ lo hi m a b c d (H.out.below hb hz) (Nat.le_trans hz hb.size) h1 h2 0 (by omega) (by omega)).mono ?_
  rintro e w1 ⟨rfl, hb1⟩
  have HB := Lib.hid (hb.trans (hb1.mono hb.size))
  clear hb hb1
  generalize M.fwO m 0 = r at *
  go_wp2_with fail
  go_ret2
  exact ⟨rfl, HB.out⟩
theorem implStates_lw (w : World) (lo hi : Nat) (m : M.Mz) (a b : Option Addr) (c d : Nat) (h : MzIn lo hi w m a c b d) (hz : hi ≤ w.heap.size) (_h1 : m.doors.length ≤ 1048576) (_h2 : m.keys.length ≤ 1048576) :
    Calls Try.prog 31 #[.agg #[.int .i64 m.size, .slice a m.doors.length c, .slice b m.keys.length d]] w (fun e w' => e = .returned (.tuple #[.int .i64 (M.statesV m), .bool (M.mazeB m)]) ∧ Below w.heap.size w w') := by
  have H := Lib.hid h
  clear h
  go_enter Try.func31, Try.ntmps31
  go_upto_region 1 with fail
  refine wp_named ?_
  intro W hW
  have hb : Below w.heap.size w W := by rw [hW]; exact below_alloc _ _
  have x1 : Box3 W w.heap.size 29 (.int .i64 m.size) (.slice a m.doors.length c) (.slice b m.keys.length d) := by rw [hW]; exact Box3.new _ _ _ _ rfl
  clear hW
  have hzw := hb.size
  obtain ⟨c0, c1, c2⟩ := x1.cells
  have HIM := Lib.hid (isMaze_any W lo hi m a b c d (H.out.below hb hz) (by omega))
  go_wp2_with fail
  refine (HIM.out).mono ?_
  rintro e w1 ⟨rfl, hb1⟩
  have X1 := Lib.hid (x1.below hb1)
  have HB1 := Lib.hid (hb.trans (hb1.mono hzw))
  have hz1 := hb1.size
  clear hb hb1 x1 c0 c1 c2
  cases q0 : M.mazeB m with
  | false =>
    have HF : Hid (M.statesV m = 0) := Lib.hid (by unfold M.statesV; rw [q0]; rfl)
    have HM := Lib.hid q0
    clear q0
    go_wp2_with fail
    go_ret2
    rw [HF.out, HM.out]
    exact ⟨rfl, HB1.out⟩
  | true =>
    have HVA := Lib.hid (M.valid_of q0)
    have HM := Lib.hid q0
    have HF : Hid (M.statesV m = (M.cntO (M.dst (M.nexts m) [M.st0 m]) : Nat)) := Lib.hid (by unfold M.statesV; rw [q0]; rfl)
    clear q0
    go_wp2_with fail
    refine wp_region_late2 (fun (wq : World) => wq.cell? ⟨w.heap.size, 0, none⟩ = some (.int .i64 m.size) ∧ wq.cell? ⟨w.heap.size, 1, none⟩ = some (.slice a m.doors.length c) ∧ wq.cell? ⟨w.heap.size, 2, none⟩ = some (.slice b m.keys.length d)) [] 7 #[false, false, false, false, false, false, false] rfl rfl (by kernel_rfl) ?_
    have hS : (fun (wq : World) => wq.cell? ⟨w.heap.size, 0, none⟩ = some (.int .i64 m.size) ∧ wq.cell? ⟨w.heap.size, 1, none⟩ = some (.slice a m.doors.length c) ∧ wq.cell? ⟨w.heap.size, 2, none⟩ = some (.slice b m.keys.length d)) w1.drew := X1.out.cells
    refine wpAnyL_take (i := 0) (oi := { dst := some 7, op := Go.Op.load 29 (Go.Operand.tmp 1), type := 29, pos := "l4_ways.go:200", after := #[], guard := none }) (v := ?pv0) rfl (by kernel_rfl) (by kernel_rfl) (by kernel_rfl) (by kernel_rfl) (fun _ _ _ h => h) (Or.inl ⟨by rfl, ?ph0⟩) hS ?pr0
    case ph0 => (intro wS hSw; (try dsimp only at hSw); go_split_ands; go_simp; try with_reducible rfl)
    try simp only [Act.put, List.setIfInBounds_toArray, List.set_cons_zero, List.set_cons_succ]
    refine wpAnyL_take (i := 1) (oi := { dst := some 8, op := Go.Op.load 29 (Go.Operand.tmp 1), type := 29, pos := "l4_ways.go:200", after := #[], guard := none }) (v := ?pv1) rfl (by kernel_rfl) (by kernel_rfl) (by kernel_rfl) (by kernel_rfl) (fun _ _ _ h => h) (Or.inl ⟨by rfl, ?ph1⟩) hS ?pr1
    case ph1 => (intro wS hSw; (try dsimp only at hSw); go_split_ands; go_simp; try with_reducible rfl)
    try simp only [Act.put, List.setIfInBounds_toArray, List.set_cons_zero, List.set_cons_succ]
    refine wpAnyL_one (i := 2) (oi := { dst := some 9, op := Go.Op.call { callee := Go.Callee.value (Go.Operand.func 60), args := #[Go.Operand.tmp 8], argTypes := #[29] }, type := 60, pos := "l4_ways.go:200", after := #[{ on := 1, ground := Go.Ground.data }], guard := none }) (by kernel_rfl) rfl (fun Kp2 hKp2 => ?_)
    refine step_call (by rfl) 60 #[.agg #[.int .i64 m.size, .slice a m.doors.length c, .slice b m.keys.length d]] (by go_simp; try rfl) (show Calls _ _ _ _ (StPost _ (M.st0 m)) from firstState_any w1.drew lo hi m a b c d (H.out.below (Below.drawnN HB1.out 1) hz) (by have := HB1.out.size; show hi ≤ w1.heap.size; omega) HVA.out) ?_
    rintro e wp2 ⟨rfl, hbp2⟩
    refine ⟨_, rfl, ?_⟩
    have hbp2x : Below w1.heap.size w1 wp2 := (Below.refl w1.heap.size w1).drew.trans hbp2
    have Xp2 := Lib.hid (X1.out.below hbp2x)
    have Bp2 := Lib.hid (HB1.out.trans (hbp2x.mono HB1.out.size))
    have hzp2 := hbp2x.size
    refine hKp2 _ _ (fun _ => Xp2.out.cells) ?_
    clear hS
    have hS := Xp2.out.cells
    try simp only [Act.put, List.setIfInBounds_toArray, List.set_cons_zero, List.set_cons_succ]
    refine wpAnyL_one (i := 3) (oi := { dst := some 10, op := Go.Op.call { callee := Go.Callee.value (Go.Operand.func 59), args := #[Go.Operand.tmp 7, Go.Operand.tmp 9], argTypes := #[29, 60] }, type := 57, pos := "l4_ways.go:200", after := #[{ on := 0, ground := Go.Ground.data }, { on := 2, ground := Go.Ground.data }, { on := 2, ground := Go.Ground.chain }], guard := none }) (by kernel_rfl) rfl (fun Kp3 hKp3 => ?_)
    refine step_call (by rfl) 59 #[.agg #[.int .i64 m.size, .slice a m.doors.length c, .slice b m.keys.length d], .agg #[.int .i64 (M.st0 m).1, .int .i64 (M.st0 m).2]] (by go_simp; try rfl) (stepsFrom_any wp2 lo hi m a b c d (H.out.below Bp2.out hz) (by have := Bp2.out.size; omega) HVA.out (M.st0 m) (M.st0_ok HVA.out)) ?_
    rintro e wp3 ⟨mb, ml, rfl, hmbp3, hmpp3, hmlp3, hbp3⟩
    refine ⟨_, rfl, ?_⟩
    have Xp3 := Lib.hid (Xp2.out.below hbp3)
    have Bp3 := Lib.hid (Bp2.out.trans (hbp3.mono Bp2.out.size))
    have Pp3 := Lib.hid hmpp3
    have hzp3 := hbp3.size
    have hlen := Pp3.out.len 3
    refine hKp3 _ _ (fun _ => Xp3.out.cells) ?_
    clear hS
    have hS := Xp3.out.cells
    try simp only [Act.put, List.setIfInBounds_toArray, List.set_cons_zero, List.set_cons_succ]
    refine wpAnyL_one (i := 4) (oi := { dst := some 11, op := Go.Op.call { callee := Go.Callee.builtin Go.Builtin.len, args := #[Go.Operand.tmp 10], argTypes := #[57] }, type := 3, pos := "l4_ways.go:200", after := #[{ on := 3, ground := Go.Ground.data }, { on := 3, ground := Go.Ground.chain }], guard := none }) (by kernel_rfl) rfl (fun Kp4 hKp4 => ?_)
    go_simp
    refine hKp4 _ _ (fun _ => hS) ?_
    try simp only [List.setIfInBounds_toArray, List.set_cons_zero, List.set_cons_succ]
    refine wpAnyL_take (i := 5) (oi := { dst := some 2, op := Go.Op.assign (Go.Operand.tmp 11), type := 3, pos := "l4_ways.go:200", after := #[{ on := 4, ground := Go.Ground.data }, { on := 4, ground := Go.Ground.chain }, { on := 0, ground := Go.Ground.phase }, { on := 1, ground := Go.Ground.phase }, { on := 2, ground := Go.Ground.phase }, { on := 3, ground := Go.Ground.phase }, { on := 4, ground := Go.Ground.phase }], guard := none }) (v := ?pv5) rfl (by kernel_rfl) (by kernel_rfl) (by kernel_rfl) (by kernel_rfl) (fun _ _ _ h => h) (Or.inl ⟨by rfl, ?ph5⟩) hS ?pr5
    case ph5 => (intro wS hSw; (try dsimp only at hSw); go_split_ands; go_simp; try with_reducible rfl)
    try simp only [Act.put, List.setIfInBounds_toArray, List.set_cons_zero, List.set_cons_succ]
    refine wpAnyL_take (i := 6) (oi := { dst := some 3, op := Go.Op.assign (Go.Operand.const (Go.Value.bool true)), type := 4, pos := "l4_ways.go:200", after := #[{ on := 5, ground := Go.Ground.chain }, { on := 0, ground := Go.Ground.phase }, { on := 1, ground := Go.Ground.phase }, { on := 2, ground := Go.Ground.phase }, { on := 3, ground := Go.Ground.phase }, { on := 4, ground := Go.Ground.phase }, { on := 5, ground := Go.Ground.phase }], guard := none }) (v := ?pv6) rfl (by kernel_rfl) (by kernel_rfl) (by kernel_rfl) (by kernel_rfl) (fun _ _ _ h => h) (Or.inl ⟨by rfl, ?ph6⟩) hS ?pr6
    case ph6 => (intro wS hSw; (try dsimp only at hSw); go_split_ands; go_simp; try with_reducible rfl)
    try simp only [Act.put, List.setIfInBounds_toArray, List.set_cons_zero, List.set_cons_succ]
    refine wpAnyL_done (by kernel_rfl) ?_ _
    go_wp2_with fail
    go_ret2
    rw [HF.out, M.cntO_eq ⟨ml, by obtain ⟨_, _, hn⟩ := Pp3.out; exact hn.2.1, Pp3.out.some_iff, rfl⟩, HM.out]
    exact ⟨rfl, Below.drawnN Bp3.out 0⟩
theorem implFewF_lw (w : World) (lo hi : Nat) (m : M.Mz) (a b : Option Addr) (c d : Nat) (h : MzIn lo hi w m a c b d) (hz : hi ≤ w.heap.size) (_h1 : m.doors.length ≤ 1048576) (_h2 : m.keys.length ≤ 1048576) (x : Int) (_x1 : -9223372036854775808 ≤ x) (_x2 : x ≤ 9223372036854775807) (set : Int) (_s1 : -9223372036854775808 ≤ set) (_s2 : set ≤ 9223372036854775807) :
    Calls Try.prog 38 #[.agg #[.int .i64 m.size, .slice a m.doors.length c, .slice b m.keys.length d], .int .i64 x, .int .i64 set] w (OptPost w (M.ffO m x set)) := by
  have H := Lib.hid h
  clear h
  go_enter Try.func38, Try.ntmps38
  go_upto_region 1 with fail
  refine wp_named ?_
  intro W hW
  have hb : Below w.heap.size w W := by rw [hW]; exact below_alloc _ _
  have x1 : Box3 W w.heap.size 29 (.int .i64 m.size) (.slice a m.doors.length c) (.slice b m.keys.length d) := by rw [hW]; exact Box3.new _ _ _ _ rfl
  clear hW
  have hzw := hb.size
  obtain ⟨c0, c1, c2⟩ := x1.cells
  have HIM := Lib.hid (isMaze_any W lo hi m a b c d (H.out.below hb hz) (by omega))
  go_wp2_with fail
  refine (HIM.out).mono ?_
  rintro e w1 ⟨rfl, hb1⟩
  have X1 := Lib.hid (x1.below hb1)
  have HB1 := Lib.hid (hb.trans (hb1.mono hzw))
  have hz1 := hb1.size
  clear hb hb1 x1 c0 c1 c2
  obtain ⟨c0, c1, c2⟩ := X1.out.cells
  cases q0 : M.mazeB m with
  | false =>
    have HF : Hid (M.ffO m x set = none) := Lib.hid (by unfold M.ffO; rw [q0]; rfl)
    clear q0
    go_wp2_with fail
    go_ret2
    rw [HF.out]
    exact ⟨rfl, HB1.out⟩
  | true =>
    have HVA := Lib.hid (M.valid_of q0)
    have HM := Lib.hid q0
    clear q0
    go_wp2_with fail
    refine (hasNode_b m a b c d x w1).mono ?_
    rintro e w9 ⟨rfl, hb9⟩
    have X9 := Lib.hid (X1.out.below hb9)
    have HB9 := Lib.hid (HB1.out.trans (hb9.mono HB1.out.size))
    have hz9 := hb9.size
    clear hb9 c0 c1 c2
    cases q1 : M.nodeB m.size x with
    | false =>
      have HF : Hid (M.ffO m x set = none) := Lib.hid (by unfold M.ffO; rw [HM.out, q1]; rfl)
      clear q1
      go_wp2_with fail
      go_ret2
      rw [HF.out]
      exact ⟨rfl, HB9.out⟩
    | true =>
      have hnode : 0 ≤ x ∧ x < m.size := by unfold M.nodeB at q1; exact of_decide_eq_true q1
      have HQ1 := Lib.hid q1
      clear q1
      go_wp2_with fail
      refine (isSet_any _ _).mono ?_
      rintro e w8 ⟨rfl, rfl⟩
      cases q2 : M.setB set with
      | false =>
        have HF : Hid (M.ffO m x set = none) := Lib.hid (by unfold M.ffO; rw [HM.out, HQ1.out, q2]; rfl)
        clear q2
        go_wp2_with fail
        go_ret2
        rw [HF.out]
        exact ⟨rfl, HB9.out⟩
      | true =>
        have hset : 0 ≤ set ∧ set < 64 := by unfold M.setB at q2; exact of_decide_eq_true q2
        have HF : Hid (M.ffO m x set = M.minO (fun t => M.wonB m t = true) (M.dst (M.nexts m) [M.stAt m x set])) := Lib.hid (by unfold M.ffO M.wayO; rw [HM.out, HQ1.out, q2]; rfl)
        have v1 := HVA.out.size1
        have v12 := HVA.out.size12
        clear q2
        go_wp2_with fail
        refine wp_region_late2 (fun (wq : World) => wq.cell? ⟨w.heap.size, 0, none⟩ = some (.int .i64 m.size) ∧ wq.cell? ⟨w.heap.size, 1, none⟩ = some (.slice a m.doors.length c) ∧ wq.cell? ⟨w.heap.size, 2, none⟩ = some (.slice b m.keys.length d)) [] 13 #[false, false, false, false, false, false, false, false, false, false, false, false, false] rfl rfl (by kernel_rfl) ?_
        have hS : (fun (wq : World) => wq.cell? ⟨w.heap.size, 0, none⟩ = some (.int .i64 m.size) ∧ wq.cell? ⟨w.heap.size, 1, none⟩ = some (.slice a m.doors.length c) ∧ wq.cell? ⟨w.heap.size, 2, none⟩ = some (.slice b m.keys.length d)) w9.drew := X9.out.cells
        refine wpAnyL_take (i := 0) (oi := { dst := some 22, op := Go.Op.load 29 (Go.Operand.tmp 3), type := 29, pos := "l4_ways.go:230", after := #[], guard := none }) (v := ?pv0) rfl (by kernel_rfl) (by kernel_rfl) (by kernel_rfl) (by kernel_rfl) (fun _ _ _ h => h) (Or.inl ⟨by rfl, ?ph0⟩) hS ?pr0
        case ph0 => (intro wS hSw; (try dsimp only at hSw); go_split_ands; go_simp; try with_reducible rfl)
        try simp only [Act.put, List.setIfInBounds_toArray, List.set_cons_zero, List.set_cons_succ]
        refine wpAnyL_take (i := 1) (oi := { dst := some 23, op := Go.Op.load 29 (Go.Operand.tmp 3), type := 29, pos := "l4_ways.go:230", after := #[], guard := none }) (v := ?pv1) rfl (by kernel_rfl) (by kernel_rfl) (by kernel_rfl) (by kernel_rfl) (fun _ _ _ h => h) (Or.inl ⟨by rfl, ?ph1⟩) hS ?pr1
        case ph1 => (intro wS hSw; (try dsimp only at hSw); go_split_ands; go_simp; try with_reducible rfl)
        try simp only [Act.put, List.setIfInBounds_toArray, List.set_cons_zero, List.set_cons_succ]
        refine wpAnyL_take (i := 2) (oi := { dst := some 24, op := Go.Op.move (Go.Operand.tmp 1), type := 3, pos := "l4_ways.go:230", after := #[], guard := none }) (v := ?pv2) rfl (by kernel_rfl) (by kernel_rfl) (by kernel_rfl) (by kernel_rfl) (fun _ _ _ h => h) (Or.inl ⟨by rfl, ?ph2⟩) hS ?pr2
        case ph2 => (intro wS hSw; (try dsimp only at hSw); go_split_ands; go_simp; try with_reducible rfl)
        try simp only [Act.put, List.setIfInBounds_toArray, List.set_cons_zero, List.set_cons_succ]
        refine wpAnyL_take (i := 3) (oi := { dst := some 25, op := Go.Op.move (Go.Operand.tmp 2), type := 3, pos := "l4_ways.go:230", after := #[], guard := none }) (v := ?pv3) rfl (by kernel_rfl) (by kernel_rfl) (by kernel_rfl) (by kernel_rfl) (fun _ _ _ h => h) (Or.inl ⟨by rfl, ?ph3⟩) hS ?pr3
        case ph3 => (intro wS hSw; (try dsimp only at hSw); go_split_ands; go_simp; try with_reducible rfl)
        try simp only [Act.put, List.setIfInBounds_toArray, List.set_cons_zero, List.set_cons_succ]
        refine wpAnyL_take (i := 6) (oi := { dst := some 28, op := Go.Op.load 29 (Go.Operand.tmp 3), type := 29, pos := "l4_ways.go:230", after := #[], guard := none }) (v := ?pv6) rfl (by kernel_rfl) (by kernel_rfl) (by kernel_rfl) (by kernel_rfl) (fun _ _ _ h => h) (Or.inl ⟨by rfl, ?ph6⟩) hS ?pr6
        case ph6 => (intro wS hSw; (try dsimp only at hSw); go_split_ands; go_simp; try with_reducible rfl)
        try simp only [Act.put, List.setIfInBounds_toArray, List.set_cons_zero, List.set_cons_succ]
        refine wpAnyL_take (i := 7) (oi := { dst := some 29, op := Go.Op.makeFunc (Go.Fn.func 77) #[Go.Operand.tmp 28] #[], type := 62, pos := "l4_ways.go:230", after := #[{ on := 6, ground := Go.Ground.data }], guard := none }) (v := ?pv7) rfl (by kernel_rfl) (by kernel_rfl) (by kernel_rfl) (by kernel_rfl) (fun _ _ _ h => h) (Or.inl ⟨by rfl, ?ph7⟩) hS ?pr7
        case ph7 => (intro wS hSw; (try dsimp only at hSw); go_split_ands; go_simp; try with_reducible rfl)
        try simp only [Act.put, List.setIfInBounds_toArray, List.set_cons_zero, List.set_cons_succ]
        refine wpAnyL_one (i := 4) (oi := { dst := some 26, op := Go.Op.call { callee := Go.Callee.value (Go.Operand.func 72), args := #[Go.Operand.tmp 23, Go.Operand.tmp 24, Go.Operand.tmp 25], argTypes := #[29, 3, 3] }, type := 60, pos := "l4_ways.go:230", after := #[{ on := 1, ground := Go.Ground.data }, { on := 2, ground := Go.Ground.data }, { on := 3, ground := Go.Ground.data }], guard := none }) (by kernel_rfl) rfl (fun Kp4 hKp4 => ?_)
        refine step_call (by rfl) 72 #[.agg #[.int .i64 m.size, .slice a m.doors.length c, .slice b m.keys.length d], .int .i64 x, .int .i64 set] (by go_simp; try rfl) (stateAt_any w9.drew lo hi m a b c d (H.out.below (Below.drawnN HB9.out 1) hz) (by have := HB9.out.size; show hi ≤ w9.heap.size; omega) HVA.out x set hnode.1 hnode.2) ?_
        rintro e wp2 ⟨rfl, hbp2⟩
        refine ⟨_, rfl, ?_⟩
        have hbp2x : Below w9.heap.size w9 wp2 := (Below.refl w9.heap.size w9).drew.trans hbp2
        have Xp2 := Lib.hid (X9.out.below hbp2x)
        have Bp2 := Lib.hid (HB9.out.trans (hbp2x.mono HB9.out.size))
        have hzp2 := hbp2x.size
        refine hKp4 _ _ (fun _ => Xp2.out.cells) ?_
        clear hS
        have hS := Xp2.out.cells
        try simp only [Act.put, List.setIfInBounds_toArray, List.set_cons_zero, List.set_cons_succ]
        refine wpAnyL_one (i := 5) (oi := { dst := some 27, op := Go.Op.call { callee := Go.Callee.value (Go.Operand.func 59), args := #[Go.Operand.tmp 22, Go.Operand.tmp 26], argTypes := #[29, 60] }, type := 57, pos := "l4_ways.go:230", after := #[{ on := 0, ground := Go.Ground.data }, { on := 4, ground := Go.Ground.data }, { on := 4, ground := Go.Ground.chain }], guard := none }) (by kernel_rfl) rfl (fun Kp5 hKp5 => ?_)
        refine step_call (by rfl) 59 #[.agg #[.int .i64 m.size, .slice a m.doors.length c, .slice b m.keys.length d], .agg #[.int .i64 (M.stAt m x set).1, .int .i64 (M.stAt m x set).2]] (by go_simp; try rfl) (stepsFrom_any wp2 lo hi m a b c d (H.out.below Bp2.out hz) (by have := Bp2.out.size; omega) HVA.out (M.stAt m x set) (M.stAt_ok HVA.out hnode.1 hnode.2 hset.1 hset.2)) ?_
        rintro e wp3 ⟨mb, ml, rfl, hmbp3, hmpp3, hmlp3, hbp3⟩
        refine ⟨_, rfl, ?_⟩
        have Xp3 := Lib.hid (Xp2.out.below hbp3)
        have Bp3 := Lib.hid (Bp2.out.trans (hbp3.mono Bp2.out.size))
        have Pp3 := Lib.hid hmpp3
        have hzp3 := hbp3.size
        refine hKp5 _ _ (fun _ => Xp3.out.cells) ?_
        clear hS
        have hS := Xp3.out.cells
        try simp only [Act.put, List.setIfInBounds_toArray, List.set_cons_zero, List.set_cons_succ]
        refine wpAnyL_one (i := 8) (oi := { dst := some 30, op := Go.Op.call { callee := Go.Callee.value (Go.Operand.func 63), args := #[Go.Operand.tmp 27, Go.Operand.tmp 29], argTypes := #[57, 62] }, type := 27, pos := "l4_ways.go:230", after := #[{ on := 5, ground := Go.Ground.data }, { on := 7, ground := Go.Ground.data }, { on := 5, ground := Go.Ground.chain }], guard := none }) (by kernel_rfl) rfl (fun Kp8 hKp8 => ?_)
        refine step_call (by rfl) 63 #[.map (some mb), .func (.func 77) #[.agg #[.int .i64 m.size, .slice a m.doors.length c, .slice b m.keys.length d]] #[]] (by go_simp; try rfl) (fewestTo_any 77 #[.agg #[.int .i64 m.size, .slice a m.doors.length c, .slice b m.keys.length d]] #[] (enters_of Try.func77 (by kernel_rfl) rfl) (M.wonB m) wp3 mb ml _ Pp3.out (fun W' s _ _ => isWon_any W' m a b c d v1 v12 s)) ?_
        rintro e wp4 ⟨rfl, hbp4⟩
        refine ⟨_, rfl, ?_⟩
        
        have Xp4 := Lib.hid (Xp3.out.below hbp4)
        have Bp4 := Lib.hid (Bp3.out.trans (hbp4.mono Bp3.out.size))
        have HB6 := Bp4
        refine hKp8 _ _ (fun _ => Xp4.out.cells) ?_
        clear hS
        have hS := Xp4.out.cells
        try simp only [Act.put, List.setIfInBounds_toArray, List.set_cons_zero, List.set_cons_succ]
        refine wpAnyL_take (i := 9) (oi := { dst := some 31, op := Go.Op.extract (Go.Operand.tmp 30) 0, type := 3, pos := "l4_ways.go:230", after := #[{ on := 8, ground := Go.Ground.data }], guard := none }) (v := ?pv9) rfl (by kernel_rfl) (by kernel_rfl) (by kernel_rfl) (by kernel_rfl) (fun _ _ _ h => h) (Or.inl ⟨by rfl, ?ph9⟩) hS ?pr9
        case ph9 => (intro wS hSw; (try dsimp only at hSw); go_split_ands; go_simp; try with_reducible rfl)
        try simp only [Act.put, List.setIfInBounds_toArray, List.set_cons_zero, List.set_cons_succ]
        refine wpAnyL_take (i := 10) (oi := { dst := some 32, op := Go.Op.extract (Go.Operand.tmp 30) 1, type := 4, pos := "l4_ways.go:230", after := #[{ on := 8, ground := Go.Ground.data }], guard := none }) (v := ?pv10) rfl (by kernel_rfl) (by kernel_rfl) (by kernel_rfl) (by kernel_rfl) (fun _ _ _ h => h) (Or.inl ⟨by rfl, ?ph10⟩) hS ?pr10
        case ph10 => (intro wS hSw; (try dsimp only at hSw); go_split_ands; go_simp; try with_reducible rfl)
        try simp only [Act.put, List.setIfInBounds_toArray, List.set_cons_zero, List.set_cons_succ]
        refine wpAnyL_take (i := 11) (oi := { dst := some 6, op := Go.Op.assign (Go.Operand.tmp 31), type := 3, pos := "l4_ways.go:230", after := #[{ on := 9, ground := Go.Ground.data }, { on := 8, ground := Go.Ground.chain }, { on := 0, ground := Go.Ground.phase }, { on := 1, ground := Go.Ground.phase }, { on := 2, ground := Go.Ground.phase }, { on := 3, ground := Go.Ground.phase }, { on := 4, ground := Go.Ground.phase }, { on := 5, ground := Go.Ground.phase }, { on := 6, ground := Go.Ground.phase }, { on := 7, ground := Go.Ground.phase }, { on := 8, ground := Go.Ground.phase }, { on := 9, ground := Go.Ground.phase }, { on := 10, ground := Go.Ground.phase }], guard := none }) (v := ?pv11) rfl (by kernel_rfl) (by kernel_rfl) (by kernel_rfl) (by kernel_rfl) (fun _ _ _ h => h) (Or.inl ⟨by rfl, ?ph11⟩) hS ?pr11
        case ph11 => (intro wS hSw; (try dsimp only at hSw); go_split_ands; go_simp; try with_reducible rfl)
        try simp only [Act.put, List.setIfInBounds_toArray, List.set_cons_zero, List.set_cons_succ]
        refine wpAnyL_take (i := 12) (oi := { dst := some 7, op := Go.Op.assign (Go.Operand.tmp 32), type := 4, pos := "l4_ways.go:230", after := #[{ on := 10, ground := Go.Ground.data }, { on := 11, ground := Go.Ground.chain }, { on := 0, ground := Go.Ground.phase }, { on := 1, ground := Go.Ground.phase }, { on := 2, ground := Go.Ground.phase }, { on := 3, ground := Go.Ground.phase }, { on := 4, ground := Go.Ground.phase }, { on := 5, ground := Go.Ground.phase }, { on := 6, ground := Go.Ground.phase }, { on := 7, ground := Go.Ground.phase }, { on := 8, ground := Go.Ground.phase }, { on := 9, ground := Go.Ground.phase }, { on := 10, ground := Go.Ground.phase }, { on := 11, ground := Go.Ground.phase }], guard := none }) (v := ?pv12) rfl (by kernel_rfl) (by kernel_rfl) (by kernel_rfl) (by kernel_rfl) (fun _ _ _ h => h) (Or.inl ⟨by rfl, ?ph12⟩) hS ?pr12
        case ph12 => (intro wS hSw; (try dsimp only at hSw); go_split_ands; go_simp; try with_reducible rfl)
        try simp only [Act.put, List.setIfInBounds_toArray, List.set_cons_zero, List.set_cons_succ]
        refine wpAnyL_done (by kernel_rfl) ?_ _
        go_wp2_with fail
        go_ret2
        rw [HF.out]
        exact ⟨rfl, HB6.out⟩
end C
end Go.Proofs.Ytbpinhfjfjfbdaa
