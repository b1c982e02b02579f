/-
  CONTRACTS of the program's actsFrom, wanderBehindPull, FewestActs, CountVisits, FewestPulls; what lay in memory stays. No condition for the exported ones but that the works read so.
-/
import Derived.Test.YtdgfceiobpnchaaWanI
import Derived.Test.YtdgfceiobpnchaaRunM
import Derived.Test.YtdgfceiobpnchaaWkImp
namespace Go.Proofs.Ytdgfceiobpnchaa
open Go.RowKit
namespace M
theorem steps_pulls {m : Wk} (V : WV m) {s : Vs} (h : VsOk m s) : C.StepsOk (nextP m) (VsOk m) (wanV m s) :=
  steps_of V (wanV_nodup m s) (fun t ht => wanV_ok V h ht) (fun t ht u hu => wanV_ok V (behindP_ok V ht) hu) (fun t ht => by have := wanV_len V (behindP_ok V ht); unfold nextP; omega)
noncomputable def fewV (m : Wk) : Option Nat := if worksB m then minO (fun t => wonV m t = true) (dst (nextW m) [(0, 0)]) else none
noncomputable def pullsV (m : Wk) : Option Nat := if worksB m then minO (fun t => wonV m t = true) (dst (nextP m) (wanV m (0, 0))) else none
theorem fewV_off {m : Wk} (h : worksB m = false) : fewV m = none := by unfold fewV; rw [h]; rfl
theorem fewV_on {m : Wk} (h : worksB m = true) : fewV m = minO (fun t => wonV m t = true) (dst (nextW m) [(0, 0)]) := by unfold fewV; rw [h]; rfl
theorem pullsV_off {m : Wk} (h : worksB m = false) : pullsV m = none := by unfold pullsV; rw [h]; rfl
theorem pullsV_on {m : Wk} (h : worksB m = true) : pullsV m = minO (fun t => wonV m t = true) (dst (nextP m) (wanV m (0, 0))) := by unfold pullsV; rw [h]; rfl
/-- how many keys there are -/
def IsCnt (f : Vs → Option Nat) (n : Nat) : Prop := ∃ L : List Vs, L.Nodup ∧ (∀ s, s ∈ L ↔ ∃ k, f s = some k) ∧ L.length = n
theorem IsCnt.unique {f : Vs → Option Nat} {n k : Nat} (h : IsCnt f n) (h' : IsCnt f k) : n = k := by
  obtain ⟨L, h1, h2, rfl⟩ := h
  obtain ⟨L', h3, h4, rfl⟩ := h'
  exact ((List.perm_ext_iff_of_nodup h1 h3).2 fun s => (h2 s).trans (h4 s).symm).length_eq
noncomputable def cntO (f : Vs → Option Nat) : Nat := by classical exact if h : ∃ n, IsCnt f n then Classical.choose h else 0
theorem cntO_eq {f : Vs → Option Nat} {n : Nat} (h : IsCnt f n) : cntO f = n := by
  unfold cntO
  have h' : ∃ n, IsCnt f n := ⟨n, h⟩
  rw [dif_pos h']
  exact (Classical.choose_spec h').unique h
noncomputable def visitsV (m : Wk) : Int := if worksB m then (cntO (dst (nextW m) [(0, 0)]) : Nat) else 0
theorem visits_off {m : Wk} (h : worksB m = false) : visitsV m = 0 := by unfold visitsV; rw [h]; rfl
theorem visits_on {m : Wk} (h : worksB m = true) : visitsV m = ((cntO (dst (nextW m) [(0, 0)]) : Nat) : Int) := by unfold visitsV; rw [h]; rfl
def apartB (m : Wk) (x a y b : Int) : Bool := visitB m x a && visitB m y b
noncomputable def apartV (m : Wk) (x a y b : Int) : Bool := apartB m x a y b && !(dst (nextW m) [(x, a)] (y, b)).isSome
theorem apart_no {m : Wk} {x a y b : Int} (h : apartB m x a y b = false) : apartV m x a y b = false := by unfold apartV; rw [h]; rfl
theorem apart_yes {m : Wk} {x a y b : Int} (h : apartB m x a y b = true) : apartV m x a y b = !(dst (nextW m) [(x, a)] (y, b)).isSome := by unfold apartV; rw [h]; rfl
/-- the least of one alone -/
theorem minO_one (t0 : Vs) (f : Vs → Option Nat) : (minO (fun t => decide (t = t0) = true) f).isSome = (f t0).isSome := by
  cases e : f t0 with
  | none =>
    have : minO (fun t => decide (t = t0) = true) f = none := lst_eq (by
      rintro k ⟨t, ht, hk⟩
      rw [of_decide_eq_true ht, e] at hk
      cases hk)
    rw [this]
  | some v =>
    have : minO (fun t => decide (t = t0) = true) f = some v := lst_eq (by
      refine ⟨⟨t0, decide_eq_true rfl, e⟩, ?_⟩
      rintro k ⟨t, ht, hk⟩
      rw [of_decide_eq_true ht, e] at hk
      injection hk with hk
      omega)
    rw [this]
end M
namespace C
set_option maxHeartbeats 3200000
set_option maxRecDepth 20000
def OptPostW (w : World) (r : Option Nat) (e : Ending) (w' : World) : Prop := e = .returned (.tuple #[.int .i64 ((r.getD 0 : Nat) : Int), .bool r.isSome]) ∧ Below w.heap.size w w'
theorem actsFrom_any (w : World) (lo hi : Nat) (m : M.Wk) (a b : Option Addr) (c d : Nat) (h : WkIn lo hi w m a c b d) (hz : hi ≤ w.heap.size) (V : M.WV m) (s : M.Vs) (hs : M.VsOk m s) :
    Calls Try.prog 84 #[.agg #[.int .i64 m.size, .slice a m.gates.length c, .slice b m.pulls.length d], .agg #[.int .i64 s.1, .int .i64 s.2]] w (MapPost w (M.dst (M.nextW m) [s])) := by
  have H := Lib.hid h
  have HV := Lib.hid V
  have HSO := Lib.hid (M.steps_next V hs)
  clear h V
  go_enter Try.func84, Try.ntmps84
  go_upto_region 1 with fail
  refine wp_named ?_
  intro W hW
  have hb : Below w.heap.size w W := by rw [hW]; exact (below_alloc _ _).alloc (by simp) _
  have x1 : Box3 W w.heap.size 28 (.int .i64 m.size) (.slice a m.gates.length c) (.slice b m.pulls.length d) := by rw [hW]; exact (Box3.new _ _ _ _ rfl).alloc _
  have z1 : Box2 W (w.heap.size + 1) 71 (.int .i64 s.1) (.int .i64 s.2) := by rw [hW]; exact Box2.new _ _ _ (by simp)
  clear hW
  have hzw := hb.size
  have hxl := x1.lt
  obtain ⟨c0, c1, c2⟩ := x1.cells
  obtain ⟨k0, k1⟩ := z1.cells
  obtain ⟨c3, c4, c5⟩ := (x1.alloc (.cells #[.int .i64 s.1, .int .i64 s.2] 71)).cells
  have HB := Lib.hid hb
  have hN : NextOk 118 #[.agg #[.int .i64 m.size, .slice a m.gates.length c, .slice b m.pulls.length d]] #[] (M.nextW m) (M.VsOk m) (W.alloc (.cells #[.int .i64 s.1, .int .i64 s.2] 71)) := fun W' t hb' ht => by
    rw [World.size_alloc] at hb'
    have hb2 : Below w.heap.size w W' := (HB.out.alloc (by omega) _).trans (hb'.mono (by omega))
    refine (nextVisits_any W' lo hi m a b c d (H.out.below hb2 hz) (by have := hb2.size; omega) HV.out t ht).mono ?_
    rintro e w3 ⟨a3, c3', rfl, ho, _, _, hb3⟩
    exact ⟨a3, c3', _, _, rfl, ho.row, Nat.le_refl _, .inr (Nat.le_refl _), hb3⟩
  have HN := Lib.hid hN
  have hrow : RowIn W.heap.size (W.heap.size + 1) (W.alloc (.cells #[.int .i64 s.1, .int .i64 s.2] 71)) (some ⟨W.heap.size, 0, none⟩) (M.encSs [s]) := by
    refine .inr ⟨W.heap.size, 0, rfl, Nat.le_refl _, Nat.lt_succ_self _, fun i u hu => ?_⟩
    rw [Nat.zero_add]
    have := newsS (w := W.alloc (.cells #[.int .i64 s.1, .int .i64 s.2] 71)) (g := W.heap.size) (Box2.new _ _ _ rfl) i u (by simpa [M.encSs, M.encS] using hu)
    rw [Addr.add_lit, Nat.zero_add] at this
    exact this
  have HL := leastSteps_any 118 #[.agg #[.int .i64 m.size, .slice a m.gates.length c, .slice b m.pulls.length d]] #[] (enters_of Try.func118 (by kernel_rfl) rfl) (M.nextW m) (M.VsOk m) _ _ _ _ 1 [s] hrow (by simp) HSO.out HN.out
  have HL1 := Lib.hid HL
  clear hb x1 z1 hN hrow HL
  go_wp2_with fail
  refine (HL1.out).mono ?_
  rintro e w2 ⟨b2, L, rfl, hb2, hm, hL, hbw⟩
  have H2 := Lib.hid hm
  have HB2 := Lib.hid ((HB.out.alloc (by omega) (.cells #[.int .i64 s.1, .int .i64 s.2] 71)).trans (hbw.mono (by simp; omega)))
  rw [World.size_alloc] at hb2
  clear hm hbw
  go_wp2_with fail
  go_ret
  exact ⟨b2, L, rfl, by omega, H2.out, hL, HB2.out⟩
theorem behindPull_any (w : World) (lo hi : Nat) (m : M.Wk) (a b : Option Addr) (c d : Nat) (h : WkIn lo hi w m a c b d) (hz : hi ≤ w.heap.size) (V : M.WV m) (s : M.Vs) (hs : M.VsOk m s) :
    Calls Try.prog 94 #[.agg #[.int .i64 m.size, .slice a m.gates.length c, .slice b m.pulls.length d], .agg #[.int .i64 s.1, .int .i64 s.2]] w (StsPost w (M.nextP m s)) := by
  have H := Lib.hid h
  have HV := Lib.hid V
  clear h V
  go_enter Try.func94, Try.ntmps94
  go_upto_region 1 with fail
  refine wp_named ?_
  intro W hW
  have hb : Below w.heap.size w W := by rw [hW]; exact (below_alloc _ _).alloc (by simp) _
  have x1 : Box3 W w.heap.size 28 (.int .i64 m.size) (.slice a m.gates.length c) (.slice b m.pulls.length d) := by rw [hW]; exact (Box3.new _ _ _ _ rfl).alloc _
  have z1 : Box2 W (w.heap.size + 1) 71 (.int .i64 s.1) (.int .i64 s.2) := by rw [hW]; exact Box2.new _ _ _ (by simp)
  clear hW
  have X1 := Lib.hid x1
  have Z1 := Lib.hid z1
  have HB := Lib.hid hb
  have hzw := hb.size
  obtain ⟨c0, c1, c2⟩ := x1.cells
  obtain ⟨k0, k1⟩ := z1.cells
  clear x1 z1 hb
  refine wp_region_late2 (fun (wq : World) => wq.cell? ⟨w.heap.size, 0, none⟩ = some (.int .i64 m.size) ∧ wq.cell? ⟨w.heap.size, 1, none⟩ = some (.slice a m.gates.length c) ∧ wq.cell? ⟨w.heap.size, 2, none⟩ = some (.slice b m.pulls.length d) ∧ wq.cell? ⟨w.heap.size + 1, 0, none⟩ = some (.int .i64 s.1) ∧ wq.cell? ⟨w.heap.size + 1, 1, none⟩ = some (.int .i64 s.2)) [] 6 #[false, false, false, false, false, false] rfl rfl (by kernel_rfl) ?_
  have hS : (fun (wq : World) => wq.cell? ⟨w.heap.size, 0, none⟩ = some (.int .i64 m.size) ∧ wq.cell? ⟨w.heap.size, 1, none⟩ = some (.slice a m.gates.length c) ∧ wq.cell? ⟨w.heap.size, 2, none⟩ = some (.slice b m.pulls.length d) ∧ wq.cell? ⟨w.heap.size + 1, 0, none⟩ = some (.int .i64 s.1) ∧ wq.cell? ⟨w.heap.size + 1, 1, none⟩ = some (.int .i64 s.2)) W.drew := ⟨c0, c1, c2, k0, k1⟩
  refine wpAnyL_take (i := 0) (oi := { dst := some 5, op := Go.Op.load 28 (Go.Operand.tmp 2), type := 28, pos := "l8_levers.go:276", after := #[], guard := none }) (v := ?pv0) rfl (by kernel_rfl) (by kernel_rfl) (by kernel_rfl) (by kernel_rfl) (fun _ _ _ h => h) (Or.inl ⟨by rfl, ?ph0⟩) hS ?pr0
  case ph0 => (intro wS hSw; (try dsimp only at hSw); go_split_ands; go_simp; try with_reducible rfl)
  try simp only [Act.put, List.setIfInBounds_toArray, List.set_cons_zero, List.set_cons_succ]
  refine wpAnyL_take (i := 1) (oi := { dst := some 6, op := Go.Op.load 28 (Go.Operand.tmp 2), type := 28, pos := "l8_levers.go:276", after := #[], guard := none }) (v := ?pv1) rfl (by kernel_rfl) (by kernel_rfl) (by kernel_rfl) (by kernel_rfl) (fun _ _ _ h => h) (Or.inl ⟨by rfl, ?ph1⟩) hS ?pr1
  case ph1 => (intro wS hSw; (try dsimp only at hSw); go_split_ands; go_simp; try with_reducible rfl)
  try simp only [Act.put, List.setIfInBounds_toArray, List.set_cons_zero, List.set_cons_succ]
  refine wpAnyL_take (i := 2) (oi := { dst := some 7, op := Go.Op.load 71 (Go.Operand.tmp 3), type := 71, pos := "l8_levers.go:276", after := #[], guard := none }) (v := ?pv2) rfl (by kernel_rfl) (by kernel_rfl) (by kernel_rfl) (by kernel_rfl) (fun _ _ _ h => h) (Or.inl ⟨by rfl, ?ph2⟩) hS ?pr2
  case ph2 => (intro wS hSw; (try dsimp only at hSw); go_split_ands; go_simp; try with_reducible rfl)
  try simp only [Act.put, List.setIfInBounds_toArray, List.set_cons_zero, List.set_cons_succ]
  refine wpAnyL_one (i := 3) (oi := { dst := some 8, op := Go.Op.call { callee := Go.Callee.value (Go.Operand.func 88), args := #[Go.Operand.tmp 6, Go.Operand.tmp 7, Go.Operand.const (Go.Value.int Go.IntKind.i64 (-1))], argTypes := #[28, 71, 3] }, type := 71, pos := "l8_levers.go:276", after := #[{ on := 1, ground := Go.Ground.data }, { on := 2, ground := Go.Ground.data }], guard := none }) (by kernel_rfl) rfl (fun Kp3 hKp3 => ?_)
  refine step_call (by rfl) 88 #[.agg #[.int .i64 m.size, .slice a m.gates.length c, .slice b m.pulls.length d], .agg #[.int .i64 s.1, .int .i64 s.2], .int .i64 (-1)] (by go_simp; try rfl) (show Calls _ _ _ _ (VsPost W.drew (M.behindP m s)) from behind_any W.drew lo hi m a b c d (H.out.below (Below.drawnN HB.out 1) hz) (by show hi ≤ W.heap.size; omega) HV.out s hs (-1) (by decide)) ?_
  rintro e w2 ⟨rfl, hb2⟩
  refine ⟨_, rfl, ?_⟩
  have hb2x : Below W.heap.size W w2 := (Below.refl W.heap.size W).drew.trans hb2
  have hS2 : (fun (wq : World) => wq.cell? ⟨w.heap.size, 0, none⟩ = some (.int .i64 m.size) ∧ wq.cell? ⟨w.heap.size, 1, none⟩ = some (.slice a m.gates.length c) ∧ wq.cell? ⟨w.heap.size, 2, none⟩ = some (.slice b m.pulls.length d) ∧ wq.cell? ⟨w.heap.size + 1, 0, none⟩ = some (.int .i64 s.1) ∧ wq.cell? ⟨w.heap.size + 1, 1, none⟩ = some (.int .i64 s.2)) w2 := ⟨(X1.out.below hb2x).cells.1, (X1.out.below hb2x).cells.2.1, (X1.out.below hb2x).cells.2.2, (Z1.out.below hb2x).cells.1, (Z1.out.below hb2x).cells.2⟩
  have HB2 := Lib.hid (HB.out.trans (hb2x.mono hzw))
  have hz2 := hb2x.size
  refine hKp3 _ _ (fun _ => hS2) ?_
  clear hS
  have hS := hS2
  try simp only [Act.put, List.setIfInBounds_toArray, List.set_cons_zero, List.set_cons_succ]
  refine wpAnyL_one (i := 4) (oi := { dst := some 9, op := Go.Op.call { callee := Go.Callee.value (Go.Operand.func 93), args := #[Go.Operand.tmp 5, Go.Operand.tmp 8], argTypes := #[28, 71] }, type := 92, pos := "l8_levers.go:276", after := #[{ on := 0, ground := Go.Ground.data }, { on := 3, ground := Go.Ground.data }, { on := 3, ground := Go.Ground.chain }], guard := none }) (by kernel_rfl) rfl (fun Kp4 hKp4 => ?_)
  refine step_call (by rfl) 93 #[.agg #[.int .i64 m.size, .slice a m.gates.length c, .slice b m.pulls.length d], .agg #[.int .i64 (M.behindP m s).1, .int .i64 (M.behindP m s).2]] (by go_simp; try rfl) (wander_any w2 lo hi m a b c d (H.out.below HB2.out hz) (by omega) HV.out (M.behindP m s) (M.behindP_ok HV.out hs)) ?_
  rintro e w3 ⟨ra, rc, rfl, ho, hq1, hq2, hb3⟩
  refine ⟨_, rfl, ?_⟩
  have hb3x : Below W.heap.size W w3 := hb2x.trans (hb3.mono hz2)
  have hS3 : (fun (wq : World) => wq.cell? ⟨w.heap.size, 0, none⟩ = some (.int .i64 m.size) ∧ wq.cell? ⟨w.heap.size, 1, none⟩ = some (.slice a m.gates.length c) ∧ wq.cell? ⟨w.heap.size, 2, none⟩ = some (.slice b m.pulls.length d) ∧ wq.cell? ⟨w.heap.size + 1, 0, none⟩ = some (.int .i64 s.1) ∧ wq.cell? ⟨w.heap.size + 1, 1, none⟩ = some (.int .i64 s.2)) w3 := ⟨(X1.out.below hb3x).cells.1, (X1.out.below hb3x).cells.2.1, (X1.out.below hb3x).cells.2.2, (Z1.out.below hb3x).cells.1, (Z1.out.below hb3x).cells.2⟩
  refine hKp4 _ _ (fun _ => hS3) ?_
  clear hS
  have hS := hS3
  try simp only [Act.put, List.setIfInBounds_toArray, List.set_cons_zero, List.set_cons_succ]
  refine wpAnyL_take (i := 5) (oi := { dst := some 4, op := Go.Op.assign (Go.Operand.tmp 9), type := 92, pos := "l8_levers.go:276", after := #[{ on := 4, ground := Go.Ground.data }, { on := 4, ground := Go.Ground.chain }, { on := 0, ground := Go.Ground.phase }, { on := 1, ground := Go.Ground.phase }, { on := 2, ground := Go.Ground.phase }, { on := 3, ground := Go.Ground.phase }, { on := 4, ground := Go.Ground.phase }], guard := none }) (v := ?pv5) rfl (by kernel_rfl) (by kernel_rfl) (by kernel_rfl) (by kernel_rfl) (fun _ _ _ h => h) (Or.inl ⟨by rfl, ?ph5⟩) hS ?pr5
  case ph5 => (intro wS hSw; (try dsimp only at hSw); go_split_ands; go_simp; try with_reducible rfl)
  try simp only [Act.put, List.setIfInBounds_toArray, List.set_cons_zero, List.set_cons_succ]
  refine wpAnyL_done (by kernel_rfl) ?_ _
  have HO := Lib.hid ho
  have HB3 := Lib.hid (HB2.out.trans (hb3.mono (by omega)))
  clear ho hb2 hb2x hb3 hb3x hS hS2 hS3 c0 c1 c2 k0 k1
  go_wp2_with fail
  go_ret
  exact ⟨ra, rc, rfl, HO.out.mono (by omega) (Nat.le_refl _), hq1, hq2, HB3.out⟩
theorem implFew_lw (w : World) (lo hi : Nat) (m : M.Wk) (a b : Option Addr) (c d : Nat) (h : WkIn lo hi w m a c b d) (hz : hi ≤ w.heap.size) (_h1 : m.gates.length ≤ 1048576) (_h2 : m.pulls.length ≤ 1048576) :
    Calls Try.prog 38 #[.agg #[.int .i64 m.size, .slice a m.gates.length c, .slice b m.pulls.length d]] w (OptPostW w (M.fewV m)) := by
  obtain ⟨ii0, hi0, hz0, hzz1, hz2⟩ := info_parts infoI
  have H := Lib.hid h
  have hc1 := h.c1
  have hc2 := h.c2
  have hd1 := h.d1
  have hd2 := h.d2
  clear h
  go_enter Try.func38, Try.ntmps38
  go_wp2_with fail
  refine named ?_
  intro W hW
  have hb : Below w.heap.size w W := by rw [hW]; exact below_alloc _ _
  have x1 : Box3 W w.heap.size 28 (.int .i64 m.size) (.slice a m.gates.length c) (.slice b m.pulls.length d) := by rw [hW]; exact Box3.new _ _ _ _ rfl
  clear hW
  have hzw := hb.size
  refine (isWorks_any W lo hi m a b c d (H.out.below hb hz) (by omega)).mono ?_
  rintro e w1 ⟨rfl, hb1⟩
  have X1 := Lib.hid (x1.below hb1)
  have HB1 := Lib.hid (hb.trans (hb1.mono hzw))
  have hz1 := hb1.size
  have hxl1 := X1.out.lt
  clear hb hb1 x1
  obtain ⟨c0, c1, c2⟩ := X1.out.cells
  cases q0 : M.worksB m with
  | false =>
    have HM := Lib.hid q0
    clear q0
    go_wp2_with fail
    go_ret2
    have HF := Lib.hid (M.fewV_off HM.out)
    rw [HF.out]
    exact ⟨rfl, HB1.out⟩
  | true =>
    have HM := Lib.hid q0
    have HV := Lib.hid (M.wv_of q0)
    clear q0
    have HF := Lib.hid (M.fewV_on HM.out)
    have v1 := HV.out.size1
    have v12 := HV.out.size12
    go_upto_region 3 with fail
    refine wp_region_late2 (fun (wq : World) => wq.cell? ⟨w.heap.size, 0, none⟩ = some (.int .i64 m.size) ∧ wq.cell? ⟨w.heap.size, 1, none⟩ = some (.slice a m.gates.length c) ∧ wq.cell? ⟨w.heap.size, 2, none⟩ = some (.slice b m.pulls.length d)) [] 10 #[false, false, false, false, false, false, false, false, false, false] rfl rfl (by kernel_rfl) ?_
    have hS : (fun (wq : World) => wq.cell? ⟨w.heap.size, 0, none⟩ = some (.int .i64 m.size) ∧ wq.cell? ⟨w.heap.size, 1, none⟩ = some (.slice a m.gates.length c) ∧ wq.cell? ⟨w.heap.size, 2, none⟩ = some (.slice b m.pulls.length d)) w1.drew := ⟨c0, c1, c2⟩
    refine wpAnyL_take (i := 0) (oi := { dst := some 7, op := Go.Op.load 28 (Go.Operand.tmp 1), type := 28, pos := "l8_levers.go:203", after := #[], guard := none }) (v := ?pv0) rfl (by kernel_rfl) (by kernel_rfl) (by kernel_rfl) (by kernel_rfl) (fun _ _ _ h => h) (Or.inl ⟨by rfl, ?ph0⟩) hS ?pr0
    case ph0 => (intro wS hSw; (try dsimp only at hSw); go_split_ands; go_simp; try with_reducible rfl)
    try simp only [Act.put, List.setIfInBounds_toArray, List.set_cons_zero, List.set_cons_succ]
    refine wpAnyL_take (i := 1) (oi := { dst := some 8, op := Go.Op.build 71 #[], type := 71, pos := "l8_levers.go:203", after := #[], guard := none }) (v := ?pv1) rfl (by kernel_rfl) (by kernel_rfl) (by kernel_rfl) (by kernel_rfl) (fun _ _ _ h => h) (Or.inl ⟨by rfl, ?ph1⟩) hS ?pr1
    case ph1 => (intro wS hSw; (try dsimp only at hSw); go_split_ands; go_simp; try with_reducible rfl)
    try simp only [Act.put, List.setIfInBounds_toArray, List.set_cons_zero, List.set_cons_succ]
    refine wpAnyL_take (i := 3) (oi := { dst := some 10, op := Go.Op.load 28 (Go.Operand.tmp 1), type := 28, pos := "l8_levers.go:203", after := #[], guard := none }) (v := ?pv3) rfl (by kernel_rfl) (by kernel_rfl) (by kernel_rfl) (by kernel_rfl) (fun _ _ _ h => h) (Or.inl ⟨by rfl, ?ph3⟩) hS ?pr3
    case ph3 => (intro wS hSw; (try dsimp only at hSw); go_split_ands; go_simp; try with_reducible rfl)
    try simp only [Act.put, List.setIfInBounds_toArray, List.set_cons_zero, List.set_cons_succ]
    refine wpAnyL_take (i := 4) (oi := { dst := some 11, op := Go.Op.makeFunc (Go.Fn.func 85) #[Go.Operand.tmp 10] #[], type := 72, pos := "l8_levers.go:203", after := #[{ on := 3, ground := Go.Ground.data }], guard := none }) (v := ?pv4) rfl (by kernel_rfl) (by kernel_rfl) (by kernel_rfl) (by kernel_rfl) (fun _ _ _ h => h) (Or.inl ⟨by rfl, ?ph4⟩) hS ?pr4
    case ph4 => (intro wS hSw; (try dsimp only at hSw); go_split_ands; go_simp; try with_reducible rfl)
    try simp only [Act.put, List.setIfInBounds_toArray, List.set_cons_zero, List.set_cons_succ]
    refine wpAnyL_one (i := 2) (oi := { dst := some 9, op := Go.Op.call { callee := Go.Callee.value (Go.Operand.func 84), args := #[Go.Operand.tmp 7, Go.Operand.tmp 8], argTypes := #[28, 71] }, type := 84, pos := "l8_levers.go:203", after := #[{ on := 0, ground := Go.Ground.data }, { on := 1, ground := Go.Ground.data }], guard := none }) (by kernel_rfl) rfl (fun Kp2 hKp2 => ?_)
    refine step_call (by rfl) 84 #[.agg #[.int .i64 m.size, .slice a m.gates.length c, .slice b m.pulls.length d], .agg #[.int .i64 0, .int .i64 0]] (by go_simp; try rfl) (show Calls _ _ _ _ (MapPost w1.drew (M.dst (M.nextW m) [(0, 0)])) from actsFrom_any w1.drew lo hi m a b c d (H.out.below (Below.drawnN HB1.out 1) hz) (by show hi ≤ w1.heap.size; omega) HV.out (0, 0) (M.vs0_ok HV.out)) ?_
    rintro e w2 ⟨mb, ml, rfl, hmb, hmp, hml, hb2⟩
    refine ⟨_, rfl, ?_⟩
    have hb2x : Below w1.heap.size w1 w2 := (Below.refl w1.heap.size w1).drew.trans hb2
    have hS2 : (fun (wq : World) => wq.cell? ⟨w.heap.size, 0, none⟩ = some (.int .i64 m.size) ∧ wq.cell? ⟨w.heap.size, 1, none⟩ = some (.slice a m.gates.length c) ∧ wq.cell? ⟨w.heap.size, 2, none⟩ = some (.slice b m.pulls.length d)) w2 := ⟨(X1.out.below hb2x).cells.1, (X1.out.below hb2x).cells.2.1, (X1.out.below hb2x).cells.2.2⟩
    have P2 := Lib.hid hmp
    refine hKp2 _ _ (fun _ => hS2) ?_
    clear hS
    have hS := hS2
    try simp only [Act.put, List.setIfInBounds_toArray, List.set_cons_zero, List.set_cons_succ]
    refine wpAnyL_one (i := 5) (oi := { dst := some 12, op := Go.Op.call { callee := Go.Callee.value (Go.Operand.func 83), args := #[Go.Operand.tmp 9, Go.Operand.tmp 11], argTypes := #[84, 72] }, type := 47, pos := "l8_levers.go:203", after := #[{ on := 2, ground := Go.Ground.data }, { on := 4, ground := Go.Ground.data }, { on := 2, ground := Go.Ground.chain }], guard := none }) (by kernel_rfl) rfl (fun Kp5 hKp5 => ?_)
    refine step_call (by rfl) 83 #[.map (some mb), .func (.func 85) #[.agg #[.int .i64 m.size, .slice a m.gates.length c, .slice b m.pulls.length d]] #[]] (by go_simp; try rfl) (fewestTo_any 85 #[.agg #[.int .i64 m.size, .slice a m.gates.length c, .slice b m.pulls.length d]] #[] (enters_of Try.func85 (by kernel_rfl) rfl) (M.wonV m) w2 mb ml _ P2.out (fun W' s _ _ => wonV_any W' m a b c d v1 v12 s)) ?_
    rintro e w3 ⟨rfl, hb3⟩
    refine ⟨_, rfl, ?_⟩
    have hb3x : Below w1.heap.size w1 w3 := hb2x.trans (hb3.mono hb2x.size)
    have hS3 : (fun (wq : World) => wq.cell? ⟨w.heap.size, 0, none⟩ = some (.int .i64 m.size) ∧ wq.cell? ⟨w.heap.size, 1, none⟩ = some (.slice a m.gates.length c) ∧ wq.cell? ⟨w.heap.size, 2, none⟩ = some (.slice b m.pulls.length d)) w3 := ⟨(X1.out.below hb3x).cells.1, (X1.out.below hb3x).cells.2.1, (X1.out.below hb3x).cells.2.2⟩
    refine hKp5 _ _ (fun _ => hS3) ?_
    clear hS
    have hS := hS3
    try simp only [Act.put, List.setIfInBounds_toArray, List.set_cons_zero, List.set_cons_succ]
    refine wpAnyL_take (i := 6) (oi := { dst := some 13, op := Go.Op.extract (Go.Operand.tmp 12) 0, type := 3, pos := "l8_levers.go:203", after := #[{ on := 5, ground := Go.Ground.data }], guard := none }) (v := ?pv6) rfl (by kernel_rfl) (by kernel_rfl) (by kernel_rfl) (by kernel_rfl) (fun _ _ _ h => h) (Or.inl ⟨by rfl, ?ph6⟩) hS ?pr6
    case ph6 => (intro wS hSw; (try dsimp only at hSw); go_split_ands; go_simp; try with_reducible rfl)
    try simp only [Act.put, List.setIfInBounds_toArray, List.set_cons_zero, List.set_cons_succ]
    refine wpAnyL_take (i := 7) (oi := { dst := some 14, op := Go.Op.extract (Go.Operand.tmp 12) 1, type := 4, pos := "l8_levers.go:203", after := #[{ on := 5, ground := Go.Ground.data }], guard := none }) (v := ?pv7) rfl (by kernel_rfl) (by kernel_rfl) (by kernel_rfl) (by kernel_rfl) (fun _ _ _ h => h) (Or.inl ⟨by rfl, ?ph7⟩) hS ?pr7
    case ph7 => (intro wS hSw; (try dsimp only at hSw); go_split_ands; go_simp; try with_reducible rfl)
    try simp only [Act.put, List.setIfInBounds_toArray, List.set_cons_zero, List.set_cons_succ]
    refine wpAnyL_take (i := 8) (oi := { dst := some 2, op := Go.Op.assign (Go.Operand.tmp 13), type := 3, pos := "l8_levers.go:203", after := #[{ on := 6, ground := Go.Ground.data }, { on := 5, ground := Go.Ground.chain }, { on := 0, ground := Go.Ground.phase }, { on := 1, ground := Go.Ground.phase }, { on := 2, ground := Go.Ground.phase }, { on := 3, ground := Go.Ground.phase }, { on := 4, ground := Go.Ground.phase }, { on := 5, ground := Go.Ground.phase }, { on := 6, ground := Go.Ground.phase }, { on := 7, ground := Go.Ground.phase }], guard := none }) (v := ?pv8) rfl (by kernel_rfl) (by kernel_rfl) (by kernel_rfl) (by kernel_rfl) (fun _ _ _ h => h) (Or.inl ⟨by rfl, ?ph8⟩) hS ?pr8
    case ph8 => (intro wS hSw; (try dsimp only at hSw); go_split_ands; go_simp; try with_reducible rfl)
    try simp only [Act.put, List.setIfInBounds_toArray, List.set_cons_zero, List.set_cons_succ]
    refine wpAnyL_take (i := 9) (oi := { dst := some 3, op := Go.Op.assign (Go.Operand.tmp 14), type := 4, pos := "l8_levers.go:203", after := #[{ on := 7, ground := Go.Ground.data }, { on := 8, ground := Go.Ground.chain }, { on := 0, ground := Go.Ground.phase }, { on := 1, ground := Go.Ground.phase }, { on := 2, ground := Go.Ground.phase }, { on := 3, ground := Go.Ground.phase }, { on := 4, ground := Go.Ground.phase }, { on := 5, ground := Go.Ground.phase }, { on := 6, ground := Go.Ground.phase }, { on := 7, ground := Go.Ground.phase }, { on := 8, ground := Go.Ground.phase }], guard := none }) (v := ?pv9) rfl (by kernel_rfl) (by kernel_rfl) (by kernel_rfl) (by kernel_rfl) (fun _ _ _ h => h) (Or.inl ⟨by rfl, ?ph9⟩) hS ?pr9
    case ph9 => (intro wS hSw; (try dsimp only at hSw); go_split_ands; go_simp; try with_reducible rfl)
    try simp only [Act.put, List.setIfInBounds_toArray, List.set_cons_zero, List.set_cons_succ]
    refine wpAnyL_done (by kernel_rfl) ?_ _
    have HB3 := Lib.hid (HB1.out.trans (hb3x.mono (by omega)))
    clear hb2 hb2x hb3 hb3x hS hS2 hS3 c0 c1 c2 hmp
    go_wp2_with fail
    go_ret2
    rw [HF.out]
    exact ⟨rfl, HB3.out⟩
theorem implVisits_lw (w : World) (lo hi : Nat) (m : M.Wk) (a b : Option Addr) (c d : Nat) (h : WkIn lo hi w m a c b d) (hz : hi ≤ w.heap.size) (_h1 : m.gates.length ≤ 1048576) (_h2 : m.pulls.length ≤ 1048576) :
    Calls Try.prog 42 #[.agg #[.int .i64 m.size, .slice a m.gates.length c, .slice b m.pulls.length d]] w (fun e w' => e = .returned (.tuple #[.int .i64 (M.visitsV m), .bool (M.worksB m)]) ∧ Below w.heap.size w w') := by
  obtain ⟨ii0, hi0, hz0, hzz1, hz2⟩ := info_parts infoI
  have H := Lib.hid h
  have hc1 := h.c1
  have hc2 := h.c2
  have hd1 := h.d1
  have hd2 := h.d2
  clear h
  go_enter Try.func42, Try.ntmps42
  go_wp2_with fail
  refine named ?_
  intro W hW
  have hb : Below w.heap.size w W := by rw [hW]; exact below_alloc _ _
  have x1 : Box3 W w.heap.size 28 (.int .i64 m.size) (.slice a m.gates.length c) (.slice b m.pulls.length d) := by rw [hW]; exact Box3.new _ _ _ _ rfl
  clear hW
  have hzw := hb.size
  refine (isWorks_any W lo hi m a b c d (H.out.below hb hz) (by omega)).mono ?_
  rintro e w1 ⟨rfl, hb1⟩
  have X1 := Lib.hid (x1.below hb1)
  have HB1 := Lib.hid (hb.trans (hb1.mono hzw))
  have hz1 := hb1.size
  have hxl1 := X1.out.lt
  clear hb hb1 x1
  obtain ⟨c0, c1, c2⟩ := X1.out.cells
  cases q0 : M.worksB m with
  | false =>
    have HM := Lib.hid q0
    clear q0
    go_wp2_with fail
    go_ret2
    have HF := Lib.hid (M.visits_off HM.out)
    rw [HF.out, HM.out]
    exact ⟨rfl, HB1.out⟩
  | true =>
    have HM := Lib.hid q0
    have HV := Lib.hid (M.wv_of q0)
    clear q0
    have HF := Lib.hid (M.visits_on HM.out)
    go_wp2_with fail
    refine (show Calls _ _ _ _ (MapPost w1 (M.dst (M.nextW m) [(0, 0)])) from actsFrom_any w1 lo hi m a b c d (H.out.below HB1.out hz) (by omega) HV.out (0, 0) (M.vs0_ok HV.out)).mono ?_
    rintro e w2 ⟨mb, ml, rfl, hmb, hmp, hml, hb2⟩
    have HB2 := Lib.hid (HB1.out.trans (hb2.mono (by omega)))
    have hlen := hmp.len 3
    have HC : Hid (M.cntO (M.dst (M.nextW m) [(0, 0)]) = ml.length) := Lib.hid (M.cntO_eq ⟨ml, by obtain ⟨_, _, _, hn, _⟩ := hmp; exact hn, fun s => hmp.some_iff s, rfl⟩)
    clear hb2 hmp
    go_wp2_with fail
    go_ret2
    rw [HF.out, HC.out, HM.out]
    exact ⟨rfl, HB2.out⟩
theorem implPulls_lw (w : World) (lo hi : Nat) (m : M.Wk) (a b : Option Addr) (c d : Nat) (h : WkIn lo hi w m a c b d) (hz : hi ≤ w.heap.size) (_h1 : m.gates.length ≤ 1048576) (_h2 : m.pulls.length ≤ 1048576) :
    Calls Try.prog 49 #[.agg #[.int .i64 m.size, .slice a m.gates.length c, .slice b m.pulls.length d]] w (OptPostW w (M.pullsV m)) := by
  obtain ⟨ii0, hi0, hz0, hzz1, hz2⟩ := info_parts infoI
  have H := Lib.hid h
  have hc1 := h.c1
  have hc2 := h.c2
  have hd1 := h.d1
  have hd2 := h.d2
  clear h
  go_enter Try.func49, Try.ntmps49
  go_wp2_with fail
  refine named ?_
  intro W hW
  have hb : Below w.heap.size w W := by rw [hW]; exact below_alloc _ _
  have x1 : Box3 W w.heap.size 28 (.int .i64 m.size) (.slice a m.gates.length c) (.slice b m.pulls.length d) := by rw [hW]; exact Box3.new _ _ _ _ rfl
  clear hW
  have hzw := hb.size
  refine (isWorks_any W lo hi m a b c d (H.out.below hb hz) (by omega)).mono ?_
  rintro e w1 ⟨rfl, hb1⟩
  have X1 := Lib.hid (x1.below hb1)
  have HB1 := Lib.hid (hb.trans (hb1.mono hzw))
  have hz1 := hb1.size
  have hxl1 := X1.out.lt
  clear hb hb1 x1
  obtain ⟨c0, c1, c2⟩ := X1.out.cells
  cases q0 : M.worksB m with
  | false =>
    have HM := Lib.hid q0
    clear q0
    go_wp2_with fail
    go_ret2
    have HF := Lib.hid (M.pullsV_off HM.out)
    rw [HF.out]
    exact ⟨rfl, HB1.out⟩
  | true =>
    have HM := Lib.hid q0
    have HV := Lib.hid (M.wv_of q0)
    clear q0
    have HF := Lib.hid (M.pullsV_on HM.out)
    have v1 := HV.out.size1
    have v12 := HV.out.size12
    go_upto_region 3 with fail
    refine wp_region_late2 (fun (wq : World) => wq.cell? ⟨w.heap.size, 0, none⟩ = some (.int .i64 m.size) ∧ wq.cell? ⟨w.heap.size, 1, none⟩ = some (.slice a m.gates.length c) ∧ wq.cell? ⟨w.heap.size, 2, none⟩ = some (.slice b m.pulls.length d)) [] 7 #[false, false, false, false, false, false, false] rfl rfl (by kernel_rfl) ?_
    have hS : (fun (wq : World) => wq.cell? ⟨w.heap.size, 0, none⟩ = some (.int .i64 m.size) ∧ wq.cell? ⟨w.heap.size, 1, none⟩ = some (.slice a m.gates.length c) ∧ wq.cell? ⟨w.heap.size, 2, none⟩ = some (.slice b m.pulls.length d)) w1.drew := ⟨c0, c1, c2⟩
    refine wpAnyL_take (i := 0) (oi := { dst := some 8, op := Go.Op.load 28 (Go.Operand.tmp 1), type := 28, pos := "l8_levers.go:255", after := #[], guard := none }) (v := ?pv0) rfl (by kernel_rfl) (by kernel_rfl) (by kernel_rfl) (by kernel_rfl) (fun _ _ _ h => h) (Or.inl ⟨by rfl, ?ph0⟩) hS ?pr0
    case ph0 => (intro wS hSw; (try dsimp only at hSw); go_split_ands; go_simp; try with_reducible rfl)
    try simp only [Act.put, List.setIfInBounds_toArray, List.set_cons_zero, List.set_cons_succ]
    refine wpAnyL_take (i := 1) (oi := { dst := some 9, op := Go.Op.build 71 #[], type := 71, pos := "l8_levers.go:255", after := #[], guard := none }) (v := ?pv1) rfl (by kernel_rfl) (by kernel_rfl) (by kernel_rfl) (by kernel_rfl) (fun _ _ _ h => h) (Or.inl ⟨by rfl, ?ph1⟩) hS ?pr1
    case ph1 => (intro wS hSw; (try dsimp only at hSw); go_split_ands; go_simp; try with_reducible rfl)
    try simp only [Act.put, List.setIfInBounds_toArray, List.set_cons_zero, List.set_cons_succ]
    refine wpAnyL_take (i := 3) (oi := { dst := some 11, op := Go.Op.load 28 (Go.Operand.tmp 1), type := 28, pos := "l8_levers.go:255", after := #[], guard := none }) (v := ?pv3) rfl (by kernel_rfl) (by kernel_rfl) (by kernel_rfl) (by kernel_rfl) (fun _ _ _ h => h) (Or.inl ⟨by rfl, ?ph3⟩) hS ?pr3
    case ph3 => (intro wS hSw; (try dsimp only at hSw); go_split_ands; go_simp; try with_reducible rfl)
    try simp only [Act.put, List.setIfInBounds_toArray, List.set_cons_zero, List.set_cons_succ]
    refine wpAnyL_take (i := 4) (oi := { dst := some 12, op := Go.Op.makeFunc (Go.Fn.func 94) #[Go.Operand.tmp 11] #[], type := 93, pos := "l8_levers.go:255", after := #[{ on := 3, ground := Go.Ground.data }], guard := none }) (v := ?pv4) rfl (by kernel_rfl) (by kernel_rfl) (by kernel_rfl) (by kernel_rfl) (fun _ _ _ h => h) (Or.inl ⟨by rfl, ?ph4⟩) hS ?pr4
    case ph4 => (intro wS hSw; (try dsimp only at hSw); go_split_ands; go_simp; try with_reducible rfl)
    try simp only [Act.put, List.setIfInBounds_toArray, List.set_cons_zero, List.set_cons_succ]
    refine wpAnyL_one (i := 2) (oi := { dst := some 10, op := Go.Op.call { callee := Go.Callee.value (Go.Operand.func 93), args := #[Go.Operand.tmp 8, Go.Operand.tmp 9], argTypes := #[28, 71] }, type := 92, pos := "l8_levers.go:255", after := #[{ on := 0, ground := Go.Ground.data }, { on := 1, ground := Go.Ground.data }], guard := none }) (by kernel_rfl) rfl (fun Kp2 hKp2 => ?_)
    refine step_call (by rfl) 93 #[.agg #[.int .i64 m.size, .slice a m.gates.length c, .slice b m.pulls.length d], .agg #[.int .i64 0, .int .i64 0]] (by go_simp; try rfl) (show Calls _ _ _ _ (StsPost w1.drew (M.wanV m (0, 0))) from wander_any w1.drew lo hi m a b c d (H.out.below (Below.drawnN HB1.out 1) hz) (by show hi ≤ w1.heap.size; omega) HV.out (0, 0) (M.vs0_ok HV.out)) ?_
    rintro e w2 ⟨ra, rc, rfl, ho, hq1, hq2, hb2⟩
    refine ⟨_, rfl, ?_⟩
    have hb2x : Below w1.heap.size w1 w2 := (Below.refl w1.heap.size w1).drew.trans hb2
    have hS2 : (fun (wq : World) => wq.cell? ⟨w.heap.size, 0, none⟩ = some (.int .i64 m.size) ∧ wq.cell? ⟨w.heap.size, 1, none⟩ = some (.slice a m.gates.length c) ∧ wq.cell? ⟨w.heap.size, 2, none⟩ = some (.slice b m.pulls.length d)) w2 := ⟨(X1.out.below hb2x).cells.1, (X1.out.below hb2x).cells.2.1, (X1.out.below hb2x).cells.2.2⟩
    have HB2 := Lib.hid (HB1.out.trans (hb2x.mono (by omega)))
    have hN : NextOk 94 #[.agg #[.int .i64 m.size, .slice a m.gates.length c, .slice b m.pulls.length d]] #[] (M.nextP m) (M.VsOk m) w2 := fun W' t hb' ht => ((behindPull_any W' lo hi m a b c d (H.out.below (HB2.out.trans (hb'.mono HB2.out.size)) hz) (by have := hb'.size; have := HB2.out.size; omega) HV.out t ht).mono (by rintro e w3 ⟨a3, c3', rfl, ho3, _, _, hb3⟩; exact ⟨a3, c3', _, _, rfl, ho3.row, Nat.le_refl _, .inr (Nat.le_refl _), hb3⟩))
    have HL := Lib.hid (leastSteps_any 94 #[.agg #[.int .i64 m.size, .slice a m.gates.length c, .slice b m.pulls.length d]] #[] (enters_of Try.func94 (by kernel_rfl) rfl) (M.nextP m) (M.VsOk m) w2 _ _ ra rc (M.wanV m (0, 0)) ho.row (Nat.le_refl _) (M.steps_pulls HV.out (M.vs0_ok HV.out)) hN)
    refine hKp2 _ _ (fun _ => hS2) ?_
    clear hS
    have hS := hS2
    try simp only [Act.put, List.setIfInBounds_toArray, List.set_cons_zero, List.set_cons_succ]
    refine wpAnyL_one (i := 5) (oi := { dst := some 13, op := Go.Op.call { callee := Go.Callee.value (Go.Operand.func 92), args := #[Go.Operand.tmp 10, Go.Operand.tmp 12], argTypes := #[92, 93] }, type := 84, pos := "l8_levers.go:255", after := #[{ on := 2, ground := Go.Ground.data }, { on := 4, ground := Go.Ground.data }, { on := 2, ground := Go.Ground.chain }], guard := none }) (by kernel_rfl) rfl (fun Kp5 hKp5 => ?_)
    refine step_call (by rfl) 92 #[.slice ra (M.wanV m (0, 0)).length rc, .func (.func 94) #[.agg #[.int .i64 m.size, .slice a m.gates.length c, .slice b m.pulls.length d]] #[]] (by go_simp; try rfl) (HL.out) ?_
    rintro e w3 ⟨mb, ml, rfl, hmb, hmp, hml, hb3⟩
    refine ⟨_, rfl, ?_⟩
    have hb3x : Below w1.heap.size w1 w3 := hb2x.trans (hb3.mono hb2x.size)
    have hS3 : (fun (wq : World) => wq.cell? ⟨w.heap.size, 0, none⟩ = some (.int .i64 m.size) ∧ wq.cell? ⟨w.heap.size, 1, none⟩ = some (.slice a m.gates.length c) ∧ wq.cell? ⟨w.heap.size, 2, none⟩ = some (.slice b m.pulls.length d)) w3 := ⟨(X1.out.below hb3x).cells.1, (X1.out.below hb3x).cells.2.1, (X1.out.below hb3x).cells.2.2⟩
    refine hKp5 _ _ (fun _ => hS3) ?_
    clear hS
    have hS := hS3
    try simp only [Act.put, List.setIfInBounds_toArray, List.set_cons_zero, List.set_cons_succ]
    refine wpAnyL_take (i := 6) (oi := { dst := some 4, op := Go.Op.assign (Go.Operand.tmp 13), type := 84, pos := "l8_levers.go:255", after := #[{ on := 5, ground := Go.Ground.data }, { on := 5, ground := Go.Ground.chain }, { on := 0, ground := Go.Ground.phase }, { on := 1, ground := Go.Ground.phase }, { on := 2, ground := Go.Ground.phase }, { on := 3, ground := Go.Ground.phase }, { on := 4, ground := Go.Ground.phase }, { on := 5, ground := Go.Ground.phase }], guard := none }) (v := ?pv6) rfl (by kernel_rfl) (by kernel_rfl) (by kernel_rfl) (by kernel_rfl) (fun _ _ _ h => h) (Or.inl ⟨by rfl, ?ph6⟩) hS ?pr6
    case ph6 => (intro wS hSw; (try dsimp only at hSw); go_split_ands; go_simp; try with_reducible rfl)
    try simp only [Act.put, List.setIfInBounds_toArray, List.set_cons_zero, List.set_cons_succ]
    refine wpAnyL_done (by kernel_rfl) ?_ _
    have X3 := Lib.hid (X1.out.below hb3x)
    have HB3 := Lib.hid (HB1.out.trans (hb3x.mono (by omega)))
    have P3 := Lib.hid hmp
    have hz3 := hb3x.size
    clear hb2 hb2x hb3 hb3x hS hS2 hS3 c0 c1 c2 hmp hN ho
    obtain ⟨c0, c1, c2⟩ := X3.out.cells
    go_wp2_with fail
    refine (fewestTo_any 85 #[.agg #[.int .i64 m.size, .slice a m.gates.length c, .slice b m.pulls.length d]] #[] (enters_of Try.func85 (by kernel_rfl) rfl) (M.wonV m) w3 mb ml _ P3.out (fun W' s _ _ => wonV_any W' m a b c d v1 v12 s)).mono ?_
    rintro e w4 ⟨rfl, hb4⟩
    have HB4 := Lib.hid (HB3.out.trans (hb4.mono (by omega)))
    clear hb4 c0 c1 c2
    go_wp2_with fail
    go_ret2
    rw [HF.out]
    exact ⟨rfl, HB4.out⟩
end C
end Go.Proofs.Ytdgfceiobpnchaa
