/-
  CONTRACTS of the model's FewestActs, FewestPulls, CountVisits; what lay in memory stays. No condition but that the works read so.
-/
import Derived.Test.YtdgfceiobpnchaaSpr8
import Derived.Test.YtdgfceiobpnchaaLeas8
import Derived.Test.YtdgfceiobpnchaaFewI
import Derived.Test.YtdgfceiobpnchaaWkSpec
namespace Go.Proofs.Ytdgfceiobpnchaa
open Go.RowKit
namespace M
theorem edgeW_in {m : Wk} (V : WV m) {b : Bool} {s0 : Vs} (h0 : VsOk m s0) (t : Vs) (n : Nat) (h : dstC (edgeW m b) s0 t = some n) : VsOk m t :=
  Cst.inside (S := VsOk m) h0 (fun _ hs' _ hp => edgeW_ok V hs' hp) (by
    have := lst_is fun n => Cst (edgeW m b) s0 n t
    rw [show lst (fun n => Cst (edgeW m b) s0 n t) = some n from h] at this
    exact this.1)
theorem dst_same {m : Wk} (s0 : Vs) : dstC (edgeW m false) s0 = dst (nextW m) [s0] := funext fun t => dstC_wlk (edgeW_false m) t
theorem few_same {m : Wk} (h : worksB m = true) : minO (fun t => wonV m t = true) (dstC (edgeW m false) (0, 0)) = fewV m := by rw [fewV_on h, dst_same]
theorem pulls_min {m : Wk} (V : WV m) (h : worksB m = true) : minO (fun t => wonV m t = true) (dstC (edgeW m true) (0, 0)) = pullsV m := by
  rw [pullsV_on h, minO_dst, minO_dstC]
  exact (pulls_same V (vs0_ok V) _).symm
/-- how many of the first k numbers have an entry -/
def cntTo (f : Vs → Option Nat) : Nat → Nat
  | 0 => 0
  | k + 1 => cntTo f k + (if (f (unid k)).isSome then 1 else 0)
theorem cntTo_le (f : Vs → Option Nat) : ∀ k, cntTo f k ≤ k
  | 0 => Nat.le_refl _
  | k + 1 => by have := cntTo_le f k; unfold cntTo; split <;> omega
theorem cntTo_list (f : Vs → Option Nat) : ∀ k, ∃ L : List Vs, L.Nodup ∧ (∀ s, s ∈ L ↔ ∃ i, i < k ∧ s = unid i ∧ (f s).isSome = true) ∧ L.length = cntTo f k
  | 0 => ⟨[], List.nodup_nil, fun s => ⟨fun h => (by cases h), fun ⟨i, h, _⟩ => (by omega)⟩, rfl⟩
  | k + 1 => by
    obtain ⟨L, h1, h2, h3⟩ := cntTo_list f k
    cases e : (f (unid k)).isSome with
    | false =>
      refine ⟨L, h1, fun s => ?_, by unfold cntTo; rw [e, h3]; rfl⟩
      rw [h2]
      constructor
      · rintro ⟨i, hi, hs⟩; exact ⟨i, by omega, hs⟩
      · rintro ⟨i, hi, rfl, hs⟩
        refine ⟨i, ?_, rfl, hs⟩
        rcases Nat.lt_or_ge i k with h | h
        · exact h
        · obtain rfl : i = k := by omega
          rw [e] at hs; cases hs
    | true =>
      refine ⟨L ++ [unid k], ?_, fun s => ?_, by unfold cntTo; rw [e, List.length_append, h3]; rfl⟩
      · rw [List.nodup_append]
        refine ⟨h1, by simp, fun a ha b hb hab => ?_⟩
        rw [List.mem_singleton] at hb
        obtain ⟨i, hi, hs, _⟩ := (h2 a).1 ha
        have : i = k := by rw [← idN_unid i, ← hs, hab, hb, idN_unid]
        omega
      · rw [List.mem_append, List.mem_singleton, h2]
        constructor
        · rintro (⟨i, hi, hs⟩ | rfl)
          · exact ⟨i, by omega, hs⟩
          · exact ⟨k, by omega, rfl, e⟩
        · rintro ⟨i, hi, rfl, hs⟩
          rcases Nat.lt_or_ge i k with h | h
          · exact .inl ⟨i, h, rfl, hs⟩
          · obtain rfl : i = k := by omega
            exact .inr rfl
theorem cntTo_end {m : Wk} {f : Vs → Option Nat} (hf : ∀ t n, f t = some n → VsOk m t) : cntO f = cntTo f (size64 m) := by
  obtain ⟨L, h1, h2, h3⟩ := cntTo_list f (size64 m)
  refine cntO_eq ⟨L, h1, fun s => ?_, h3⟩
  rw [h2]
  constructor
  · rintro ⟨i, hi, hs, h⟩
    exact Option.isSome_iff_exists.1 h
  · rintro ⟨k, h⟩
    have hs := hf s k h
    exact ⟨idN s, idN_lt hs, (unid_idN hs).symm, by rw [h]; rfl⟩
theorem cnt_same {m : Wk} (V : WV m) : cntO (dst (nextW m) [(0, 0)]) = cntTo (dstC (edgeW m false) (0, 0)) (size64 m) := by
  rw [← dst_same]
  exact cntTo_end fun t n h => edgeW_in V (vs0_ok V) t n h
end M
namespace C
set_option maxHeartbeats 3200000
set_option maxRecDepth 20000
theorem specFew_lw (w : World) (lo hi : Nat) (m : M.Wk) (a b : Option Addr) (c d : Nat) (h : WkIn lo hi w m a c b d) (hz : hi ≤ w.heap.size) (_h1 : m.gates.length ≤ 1048576) (_h2 : m.pulls.length ≤ 1048576) :
    Calls Try.prog 37 #[.agg #[.int .i64 m.size, .slice a m.gates.length c, .slice b m.pulls.length d]] w (OptPostW w (M.fewV m)) := by
  obtain ⟨ii0, hi0, hz0, hzz1, hz2⟩ := info_parts infoI
  have H := Lib.hid h
  have hc1 := h.c1
  have hc2 := h.c2
  have hd1 := h.d1
  have hd2 := h.d2
  clear h
  go_enter Try.func37, Try.ntmps37
  go_wp2_with fail
  refine named ?_
  intro W hW
  have hb : Below w.heap.size w W := by rw [hW]; exact below_alloc _ _
  have x1 : Box3 W w.heap.size 28 (.int .i64 m.size) (.slice a m.gates.length c) (.slice b m.pulls.length d) := by rw [hW]; exact Box3.new _ _ _ _ rfl
  clear hW
  have hzw := hb.size
  refine (specWorks_any W lo hi m a b c d (H.out.below hb hz) (by omega)).mono ?_
  rintro e w1 ⟨rfl, hb1⟩
  have X1 := Lib.hid (x1.below hb1)
  have HB1 := Lib.hid (hb.trans (hb1.mono hzw))
  have hz1 := hb1.size
  have hxl1 := X1.out.lt
  clear hb hb1 x1
  obtain ⟨c0, c1, c2⟩ := X1.out.cells
  cases q0 : M.worksB m with
  | false =>
    have HM := Lib.hid q0
    clear q0
    go_wp2_with fail
    go_ret2
    have HF := Lib.hid (M.fewV_off HM.out)
    rw [HF.out]
    exact ⟨rfl, HB1.out⟩
  | true =>
    have HM := Lib.hid q0
    have HV := Lib.hid (M.wv_of q0)
    clear q0
    have HSV : Hid (M.minO (fun t => M.wonV m t = true) (M.dstC (M.edgeW m false) (0, 0)) = M.fewV m) := Lib.hid (M.few_same HM.out)
    have HIN := Lib.hid (fun t n h => M.edgeW_in HV.out (b := false) (M.vs0_ok HV.out) t n h)
    generalize hfn : M.dstC (M.edgeW m false) (0, 0) = f at *
    have HFN := Lib.hid hfn
    clear hfn
    go_upto_region 3 with fail
    refine wp_region_late2 (fun (wq : World) => wq.cell? ⟨w.heap.size, 0, none⟩ = some (.int .i64 m.size) ∧ wq.cell? ⟨w.heap.size, 1, none⟩ = some (.slice a m.gates.length c) ∧ wq.cell? ⟨w.heap.size, 2, none⟩ = some (.slice b m.pulls.length d)) [] 9 #[false, false, false, false, false, false, false, false, false] rfl rfl (by kernel_rfl) ?_
    have hS : (fun (wq : World) => wq.cell? ⟨w.heap.size, 0, none⟩ = some (.int .i64 m.size) ∧ wq.cell? ⟨w.heap.size, 1, none⟩ = some (.slice a m.gates.length c) ∧ wq.cell? ⟨w.heap.size, 2, none⟩ = some (.slice b m.pulls.length d)) w1.drew := X1.out.cells
    refine wpAnyL_take (i := 0) (oi := { dst := some 7, op := Go.Op.load 28 (Go.Operand.tmp 1), type := 28, pos := "l8_levers.go:164", after := #[], guard := none }) (v := ?pv0) rfl (by kernel_rfl) (by kernel_rfl) (by kernel_rfl) (by kernel_rfl) (fun _ _ _ h => h) (Or.inl ⟨by rfl, ?ph0⟩) hS ?pr0
    case ph0 => (intro wS hSw; (try dsimp only at hSw); go_split_ands; go_simp; try with_reducible rfl)
    try simp only [Act.put, List.setIfInBounds_toArray, List.set_cons_zero, List.set_cons_succ]
    refine wpAnyL_take (i := 1) (oi := { dst := some 8, op := Go.Op.load 28 (Go.Operand.tmp 1), type := 28, pos := "l8_levers.go:164", after := #[], guard := none }) (v := ?pv1) rfl (by kernel_rfl) (by kernel_rfl) (by kernel_rfl) (by kernel_rfl) (fun _ _ _ h => h) (Or.inl ⟨by rfl, ?ph1⟩) hS ?pr1
    case ph1 => (intro wS hSw; (try dsimp only at hSw); go_split_ands; go_simp; try with_reducible rfl)
    try simp only [Act.put, List.setIfInBounds_toArray, List.set_cons_zero, List.set_cons_succ]
    refine wpAnyL_one (i := 2) (oi := { dst := some 9, op := Go.Op.call { callee := Go.Callee.value (Go.Operand.func 82), args := #[Go.Operand.tmp 8, Go.Operand.const (Go.Value.int Go.IntKind.i64 0), Go.Operand.const (Go.Value.int Go.IntKind.i64 0), Go.Operand.const (Go.Value.bool false)], argTypes := #[28, 3, 3, 4] }, type := 23, pos := "l8_levers.go:164", after := #[{ on := 1, ground := Go.Ground.data }], guard := none }) (by kernel_rfl) rfl (fun Kp2 hKp2 => ?_)
    refine step_call (by rfl) 82 #[.agg #[.int .i64 m.size, .slice a m.gates.length c, .slice b m.pulls.length d], .int .i64 0, .int .i64 0, .bool false] (by go_simp; try rfl) ((by have := l8Spread_any w1.drew lo hi m a b c d (H.out.below (Below.drawnN HB1.out 1) hz) (by show hi ≤ w1.heap.size; omega) HV.out (0, 0) (M.vs0_ok HV.out) false; rw [HFN.out] at this; exact this : Calls _ _ _ _ (IntsPost w1.drew (M.tblL (M.size64 m) f)))) ?_
    rintro e w2 ⟨ra, rc, rfl, ho2, hq1, hq2, hb2⟩
    refine ⟨_, rfl, ?_⟩
    have hb2x : Below w1.heap.size w1 w2 := (Below.refl w1.heap.size w1).drew.trans hb2
    have X2 := Lib.hid (X1.out.below hb2x)
    have HB2 := Lib.hid (HB1.out.trans (hb2x.mono (by omega)))
    have hz2 := hb2x.size
    have hS2 : (fun (wq : World) => wq.cell? ⟨w.heap.size, 0, none⟩ = some (.int .i64 m.size) ∧ wq.cell? ⟨w.heap.size, 1, none⟩ = some (.slice a m.gates.length c) ∧ wq.cell? ⟨w.heap.size, 2, none⟩ = some (.slice b m.pulls.length d)) w2 := X2.out.cells
    refine hKp2 _ _ (fun _ => hS2) ?_
    clear hS
    have hS := hS2
    try simp only [Act.put, List.setIfInBounds_toArray, List.set_cons_zero, List.set_cons_succ]
    refine wpAnyL_one (i := 3) (oi := { dst := some 10, op := Go.Op.call { callee := Go.Callee.value (Go.Operand.func 81), args := #[Go.Operand.tmp 7, Go.Operand.tmp 9], argTypes := #[28, 23] }, type := 3, pos := "l8_levers.go:164", after := #[{ on := 0, ground := Go.Ground.data }, { on := 2, ground := Go.Ground.data }, { on := 2, ground := Go.Ground.chain }], guard := none }) (by kernel_rfl) rfl (fun Kp3 hKp3 => ?_)
    refine step_call (by rfl) 81 #[.agg #[.int .i64 m.size, .slice a m.gates.length c, .slice b m.pulls.length d], .slice ra (M.tblL (M.size64 m) f).length rc] (by go_simp; try rfl) ((by have := l8Goal_any w2 _ _ m HV.out a b ra c d rc f ho2.row (Nat.le_refl _) HIN.out; rw [HSV.out, show M.size64 m = (M.tblL (M.size64 m) f).length from (M.tblL_len _ _).symm] at this; exact this)) ?_
    rintro e w3 ⟨rfl, hb3⟩
    refine ⟨_, rfl, ?_⟩
    have X3 := Lib.hid (X2.out.below hb3)
    have HB3 := Lib.hid (HB2.out.trans (hb3.mono (by omega)))
    have hz3 := hb3.size
    have hS3 : (fun (wq : World) => wq.cell? ⟨w.heap.size, 0, none⟩ = some (.int .i64 m.size) ∧ wq.cell? ⟨w.heap.size, 1, none⟩ = some (.slice a m.gates.length c) ∧ wq.cell? ⟨w.heap.size, 2, none⟩ = some (.slice b m.pulls.length d)) w3 := X3.out.cells
    refine hKp3 _ _ (fun _ => hS3) ?_
    clear hS
    have hS := hS3
    try simp only [Act.put, List.setIfInBounds_toArray, List.set_cons_zero, List.set_cons_succ]
    refine wpAnyL_one (i := 4) (oi := { dst := some 11, op := Go.Op.call { callee := Go.Callee.value (Go.Operand.func 80), args := #[Go.Operand.tmp 10], argTypes := #[3] }, type := 47, pos := "l8_levers.go:164", after := #[{ on := 3, ground := Go.Ground.data }, { on := 3, ground := Go.Ground.chain }], guard := none }) (by kernel_rfl) rfl (fun Kp4 hKp4 => ?_)
    refine step_call (by rfl) 80 #[.int .i64 (M.optI (M.fewV m))] (by go_simp; try rfl) (l4Told_any _ w3) ?_
    rintro e w4 ⟨rfl, rfl⟩
    refine ⟨_, rfl, ?_⟩
    refine hKp4 _ _ (fun _ => hS3) ?_
    clear hS
    have hS := hS3
    try simp only [Act.put, List.setIfInBounds_toArray, List.set_cons_zero, List.set_cons_succ]
    refine wpAnyL_take (i := 5) (oi := { dst := some 12, op := Go.Op.extract (Go.Operand.tmp 11) 0, type := 3, pos := "l8_levers.go:164", after := #[{ on := 4, ground := Go.Ground.data }], guard := none }) (v := ?pv5) rfl (by kernel_rfl) (by kernel_rfl) (by kernel_rfl) (by kernel_rfl) (fun _ _ _ h => h) (Or.inl ⟨by rfl, ?ph5⟩) hS ?pr5
    case ph5 => (intro wS hSw; (try dsimp only at hSw); go_split_ands; go_simp; try with_reducible rfl)
    try simp only [Act.put, List.setIfInBounds_toArray, List.set_cons_zero, List.set_cons_succ]
    refine wpAnyL_take (i := 6) (oi := { dst := some 13, op := Go.Op.extract (Go.Operand.tmp 11) 1, type := 4, pos := "l8_levers.go:164", after := #[{ on := 4, ground := Go.Ground.data }], guard := none }) (v := ?pv6) rfl (by kernel_rfl) (by kernel_rfl) (by kernel_rfl) (by kernel_rfl) (fun _ _ _ h => h) (Or.inl ⟨by rfl, ?ph6⟩) hS ?pr6
    case ph6 => (intro wS hSw; (try dsimp only at hSw); go_split_ands; go_simp; try with_reducible rfl)
    try simp only [Act.put, List.setIfInBounds_toArray, List.set_cons_zero, List.set_cons_succ]
    refine wpAnyL_take (i := 7) (oi := { dst := some 2, op := Go.Op.assign (Go.Operand.tmp 12), type := 3, pos := "l8_levers.go:164", after := #[{ on := 5, ground := Go.Ground.data }, { on := 4, ground := Go.Ground.chain }, { on := 0, ground := Go.Ground.phase }, { on := 1, ground := Go.Ground.phase }, { on := 2, ground := Go.Ground.phase }, { on := 3, ground := Go.Ground.phase }, { on := 4, ground := Go.Ground.phase }, { on := 5, ground := Go.Ground.phase }, { on := 6, ground := Go.Ground.phase }], guard := none }) (v := ?pv7) rfl (by kernel_rfl) (by kernel_rfl) (by kernel_rfl) (by kernel_rfl) (fun _ _ _ h => h) (Or.inl ⟨by rfl, ?ph7⟩) hS ?pr7
    case ph7 => (intro wS hSw; (try dsimp only at hSw); go_split_ands; go_simp; try with_reducible rfl)
    try simp only [Act.put, List.setIfInBounds_toArray, List.set_cons_zero, List.set_cons_succ]
    refine wpAnyL_take (i := 8) (oi := { dst := some 3, op := Go.Op.assign (Go.Operand.tmp 13), type := 4, pos := "l8_levers.go:164", after := #[{ on := 6, ground := Go.Ground.data }, { on := 7, ground := Go.Ground.chain }, { on := 0, ground := Go.Ground.phase }, { on := 1, ground := Go.Ground.phase }, { on := 2, ground := Go.Ground.phase }, { on := 3, ground := Go.Ground.phase }, { on := 4, ground := Go.Ground.phase }, { on := 5, ground := Go.Ground.phase }, { on := 6, ground := Go.Ground.phase }, { on := 7, ground := Go.Ground.phase }], guard := none }) (v := ?pv8) rfl (by kernel_rfl) (by kernel_rfl) (by kernel_rfl) (by kernel_rfl) (fun _ _ _ h => h) (Or.inl ⟨by rfl, ?ph8⟩) hS ?pr8
    case ph8 => (intro wS hSw; (try dsimp only at hSw); go_split_ands; go_simp; try with_reducible rfl)
    try simp only [Act.put, List.setIfInBounds_toArray, List.set_cons_zero, List.set_cons_succ]
    refine wpAnyL_done (by kernel_rfl) ?_ _
    clear hS hS2 hS3 hb2 hb2x hb3 c0 c1 c2
    go_wp2_with fail
    go_ret2
    exact ⟨rfl, HB3.out⟩
theorem specPulls_lw (w : World) (lo hi : Nat) (m : M.Wk) (a b : Option Addr) (c d : Nat) (h : WkIn lo hi w m a c b d) (hz : hi ≤ w.heap.size) (_h1 : m.gates.length ≤ 1048576) (_h2 : m.pulls.length ≤ 1048576) :
    Calls Try.prog 48 #[.agg #[.int .i64 m.size, .slice a m.gates.length c, .slice b m.pulls.length d]] w (OptPostW w (M.pullsV m)) := by
  obtain ⟨ii0, hi0, hz0, hzz1, hz2⟩ := info_parts infoI
  have H := Lib.hid h
  have hc1 := h.c1
  have hc2 := h.c2
  have hd1 := h.d1
  have hd2 := h.d2
  clear h
  go_enter Try.func48, Try.ntmps48
  go_wp2_with fail
  refine named ?_
  intro W hW
  have hb : Below w.heap.size w W := by rw [hW]; exact below_alloc _ _
  have x1 : Box3 W w.heap.size 28 (.int .i64 m.size) (.slice a m.gates.length c) (.slice b m.pulls.length d) := by rw [hW]; exact Box3.new _ _ _ _ rfl
  clear hW
  have hzw := hb.size
  refine (specWorks_any W lo hi m a b c d (H.out.below hb hz) (by omega)).mono ?_
  rintro e w1 ⟨rfl, hb1⟩
  have X1 := Lib.hid (x1.below hb1)
  have HB1 := Lib.hid (hb.trans (hb1.mono hzw))
  have hz1 := hb1.size
  have hxl1 := X1.out.lt
  clear hb hb1 x1
  obtain ⟨c0, c1, c2⟩ := X1.out.cells
  cases q0 : M.worksB m with
  | false =>
    have HM := Lib.hid q0
    clear q0
    go_wp2_with fail
    go_ret2
    have HF := Lib.hid (M.pullsV_off HM.out)
    rw [HF.out]
    exact ⟨rfl, HB1.out⟩
  | true =>
    have HM := Lib.hid q0
    have HV := Lib.hid (M.wv_of q0)
    clear q0
    have HSV : Hid (M.minO (fun t => M.wonV m t = true) (M.dstC (M.edgeW m true) (0, 0)) = M.pullsV m) := Lib.hid (M.pulls_min HV.out HM.out)
    have HIN := Lib.hid (fun t n h => M.edgeW_in HV.out (b := true) (M.vs0_ok HV.out) t n h)
    generalize hfn : M.dstC (M.edgeW m true) (0, 0) = f at *
    have HFN := Lib.hid hfn
    clear hfn
    go_upto_region 3 with fail
    refine wp_region_late2 (fun (wq : World) => wq.cell? ⟨w.heap.size, 0, none⟩ = some (.int .i64 m.size) ∧ wq.cell? ⟨w.heap.size, 1, none⟩ = some (.slice a m.gates.length c) ∧ wq.cell? ⟨w.heap.size, 2, none⟩ = some (.slice b m.pulls.length d)) [] 9 #[false, false, false, false, false, false, false, false, false] rfl rfl (by kernel_rfl) ?_
    have hS : (fun (wq : World) => wq.cell? ⟨w.heap.size, 0, none⟩ = some (.int .i64 m.size) ∧ wq.cell? ⟨w.heap.size, 1, none⟩ = some (.slice a m.gates.length c) ∧ wq.cell? ⟨w.heap.size, 2, none⟩ = some (.slice b m.pulls.length d)) w1.drew := X1.out.cells
    refine wpAnyL_take (i := 0) (oi := { dst := some 7, op := Go.Op.load 28 (Go.Operand.tmp 1), type := 28, pos := "l8_levers.go:224", after := #[], guard := none }) (v := ?pv0) rfl (by kernel_rfl) (by kernel_rfl) (by kernel_rfl) (by kernel_rfl) (fun _ _ _ h => h) (Or.inl ⟨by rfl, ?ph0⟩) hS ?pr0
    case ph0 => (intro wS hSw; (try dsimp only at hSw); go_split_ands; go_simp; try with_reducible rfl)
    try simp only [Act.put, List.setIfInBounds_toArray, List.set_cons_zero, List.set_cons_succ]
    refine wpAnyL_take (i := 1) (oi := { dst := some 8, op := Go.Op.load 28 (Go.Operand.tmp 1), type := 28, pos := "l8_levers.go:224", after := #[], guard := none }) (v := ?pv1) rfl (by kernel_rfl) (by kernel_rfl) (by kernel_rfl) (by kernel_rfl) (fun _ _ _ h => h) (Or.inl ⟨by rfl, ?ph1⟩) hS ?pr1
    case ph1 => (intro wS hSw; (try dsimp only at hSw); go_split_ands; go_simp; try with_reducible rfl)
    try simp only [Act.put, List.setIfInBounds_toArray, List.set_cons_zero, List.set_cons_succ]
    refine wpAnyL_one (i := 2) (oi := { dst := some 9, op := Go.Op.call { callee := Go.Callee.value (Go.Operand.func 82), args := #[Go.Operand.tmp 8, Go.Operand.const (Go.Value.int Go.IntKind.i64 0), Go.Operand.const (Go.Value.int Go.IntKind.i64 0), Go.Operand.const (Go.Value.bool true)], argTypes := #[28, 3, 3, 4] }, type := 23, pos := "l8_levers.go:224", after := #[{ on := 1, ground := Go.Ground.data }], guard := none }) (by kernel_rfl) rfl (fun Kp2 hKp2 => ?_)
    refine step_call (by rfl) 82 #[.agg #[.int .i64 m.size, .slice a m.gates.length c, .slice b m.pulls.length d], .int .i64 0, .int .i64 0, .bool true] (by go_simp; try rfl) ((by have := l8Spread_any w1.drew lo hi m a b c d (H.out.below (Below.drawnN HB1.out 1) hz) (by show hi ≤ w1.heap.size; omega) HV.out (0, 0) (M.vs0_ok HV.out) true; rw [HFN.out] at this; exact this : Calls _ _ _ _ (IntsPost w1.drew (M.tblL (M.size64 m) f)))) ?_
    rintro e w2 ⟨ra, rc, rfl, ho2, hq1, hq2, hb2⟩
    refine ⟨_, rfl, ?_⟩
    have hb2x : Below w1.heap.size w1 w2 := (Below.refl w1.heap.size w1).drew.trans hb2
    have X2 := Lib.hid (X1.out.below hb2x)
    have HB2 := Lib.hid (HB1.out.trans (hb2x.mono (by omega)))
    have hz2 := hb2x.size
    have hS2 : (fun (wq : World) => wq.cell? ⟨w.heap.size, 0, none⟩ = some (.int .i64 m.size) ∧ wq.cell? ⟨w.heap.size, 1, none⟩ = some (.slice a m.gates.length c) ∧ wq.cell? ⟨w.heap.size, 2, none⟩ = some (.slice b m.pulls.length d)) w2 := X2.out.cells
    refine hKp2 _ _ (fun _ => hS2) ?_
    clear hS
    have hS := hS2
    try simp only [Act.put, List.setIfInBounds_toArray, List.set_cons_zero, List.set_cons_succ]
    refine wpAnyL_one (i := 3) (oi := { dst := some 10, op := Go.Op.call { callee := Go.Callee.value (Go.Operand.func 81), args := #[Go.Operand.tmp 7, Go.Operand.tmp 9], argTypes := #[28, 23] }, type := 3, pos := "l8_levers.go:224", after := #[{ on := 0, ground := Go.Ground.data }, { on := 2, ground := Go.Ground.data }, { on := 2, ground := Go.Ground.chain }], guard := none }) (by kernel_rfl) rfl (fun Kp3 hKp3 => ?_)
    refine step_call (by rfl) 81 #[.agg #[.int .i64 m.size, .slice a m.gates.length c, .slice b m.pulls.length d], .slice ra (M.tblL (M.size64 m) f).length rc] (by go_simp; try rfl) ((by have := l8Goal_any w2 _ _ m HV.out a b ra c d rc f ho2.row (Nat.le_refl _) HIN.out; rw [HSV.out, show M.size64 m = (M.tblL (M.size64 m) f).length from (M.tblL_len _ _).symm] at this; exact this)) ?_
    rintro e w3 ⟨rfl, hb3⟩
    refine ⟨_, rfl, ?_⟩
    have X3 := Lib.hid (X2.out.below hb3)
    have HB3 := Lib.hid (HB2.out.trans (hb3.mono (by omega)))
    have hz3 := hb3.size
    have hS3 : (fun (wq : World) => wq.cell? ⟨w.heap.size, 0, none⟩ = some (.int .i64 m.size) ∧ wq.cell? ⟨w.heap.size, 1, none⟩ = some (.slice a m.gates.length c) ∧ wq.cell? ⟨w.heap.size, 2, none⟩ = some (.slice b m.pulls.length d)) w3 := X3.out.cells
    refine hKp3 _ _ (fun _ => hS3) ?_
    clear hS
    have hS := hS3
    try simp only [Act.put, List.setIfInBounds_toArray, List.set_cons_zero, List.set_cons_succ]
    refine wpAnyL_one (i := 4) (oi := { dst := some 11, op := Go.Op.call { callee := Go.Callee.value (Go.Operand.func 80), args := #[Go.Operand.tmp 10], argTypes := #[3] }, type := 47, pos := "l8_levers.go:224", after := #[{ on := 3, ground := Go.Ground.data }, { on := 3, ground := Go.Ground.chain }], guard := none }) (by kernel_rfl) rfl (fun Kp4 hKp4 => ?_)
    refine step_call (by rfl) 80 #[.int .i64 (M.optI (M.pullsV m))] (by go_simp; try rfl) (l4Told_any _ w3) ?_
    rintro e w4 ⟨rfl, rfl⟩
    refine ⟨_, rfl, ?_⟩
    refine hKp4 _ _ (fun _ => hS3) ?_
    clear hS
    have hS := hS3
    try simp only [Act.put, List.setIfInBounds_toArray, List.set_cons_zero, List.set_cons_succ]
    refine wpAnyL_take (i := 5) (oi := { dst := some 12, op := Go.Op.extract (Go.Operand.tmp 11) 0, type := 3, pos := "l8_levers.go:224", after := #[{ on := 4, ground := Go.Ground.data }], guard := none }) (v := ?pv5) rfl (by kernel_rfl) (by kernel_rfl) (by kernel_rfl) (by kernel_rfl) (fun _ _ _ h => h) (Or.inl ⟨by rfl, ?ph5⟩) hS ?pr5
    case ph5 => (intro wS hSw; (try dsimp only at hSw); go_split_ands; go_simp; try with_reducible rfl)
    try simp only [Act.put, List.setIfInBounds_toArray, List.set_cons_zero, List.set_cons_succ]
    refine wpAnyL_take (i := 6) (oi := { dst := some 13, op := Go.Op.extract (Go.Operand.tmp 11) 1, type := 4, pos := "l8_levers.go:224", after := #[{ on := 4, ground := Go.Ground.data }], guard := none }) (v := ?pv6) rfl (by kernel_rfl) (by kernel_rfl) (by kernel_rfl) (by kernel_rfl) (fun _ _ _ h => h) (Or.inl ⟨by rfl, ?ph6⟩) hS ?pr6
    case ph6 => (intro wS hSw; (try dsimp only at hSw); go_split_ands; go_simp; try with_reducible rfl)
    try simp only [Act.put, List.setIfInBounds_toArray, List.set_cons_zero, List.set_cons_succ]
    refine wpAnyL_take (i := 7) (oi := { dst := some 2, op := Go.Op.assign (Go.Operand.tmp 12), type := 3, pos := "l8_levers.go:224", after := #[{ on := 5, ground := Go.Ground.data }, { on := 4, ground := Go.Ground.chain }, { on := 0, ground := Go.Ground.phase }, { on := 1, ground := Go.Ground.phase }, { on := 2, ground := Go.Ground.phase }, { on := 3, ground := Go.Ground.phase }, { on := 4, ground := Go.Ground.phase }, { on := 5, ground := Go.Ground.phase }, { on := 6, ground := Go.Ground.phase }], guard := none }) (v := ?pv7) rfl (by kernel_rfl) (by kernel_rfl) (by kernel_rfl) (by kernel_rfl) (fun _ _ _ h => h) (Or.inl ⟨by rfl, ?ph7⟩) hS ?pr7
    case ph7 => (intro wS hSw; (try dsimp only at hSw); go_split_ands; go_simp; try with_reducible rfl)
    try simp only [Act.put, List.setIfInBounds_toArray, List.set_cons_zero, List.set_cons_succ]
    refine wpAnyL_take (i := 8) (oi := { dst := some 3, op := Go.Op.assign (Go.Operand.tmp 13), type := 4, pos := "l8_levers.go:224", after := #[{ on := 6, ground := Go.Ground.data }, { on := 7, ground := Go.Ground.chain }, { on := 0, ground := Go.Ground.phase }, { on := 1, ground := Go.Ground.phase }, { on := 2, ground := Go.Ground.phase }, { on := 3, ground := Go.Ground.phase }, { on := 4, ground := Go.Ground.phase }, { on := 5, ground := Go.Ground.phase }, { on := 6, ground := Go.Ground.phase }, { on := 7, ground := Go.Ground.phase }], guard := none }) (v := ?pv8) rfl (by kernel_rfl) (by kernel_rfl) (by kernel_rfl) (by kernel_rfl) (fun _ _ _ h => h) (Or.inl ⟨by rfl, ?ph8⟩) hS ?pr8
    case ph8 => (intro wS hSw; (try dsimp only at hSw); go_split_ands; go_simp; try with_reducible rfl)
    try simp only [Act.put, List.setIfInBounds_toArray, List.set_cons_zero, List.set_cons_succ]
    refine wpAnyL_done (by kernel_rfl) ?_ _
    clear hS hS2 hS3 hb2 hb2x hb3 c0 c1 c2
    go_wp2_with fail
    go_ret2
    exact ⟨rfl, HB3.out⟩
theorem specVisits_lw (w : World) (lo hi : Nat) (m : M.Wk) (a b : Option Addr) (c d : Nat) (h : WkIn lo hi w m a c b d) (hz : hi ≤ w.heap.size) (_h1 : m.gates.length ≤ 1048576) (_h2 : m.pulls.length ≤ 1048576) :
    Calls Try.prog 41 #[.agg #[.int .i64 m.size, .slice a m.gates.length c, .slice b m.pulls.length d]] w (fun e w' => e = .returned (.tuple #[.int .i64 (M.visitsV m), .bool (M.worksB m)]) ∧ Below w.heap.size w w') := by
  obtain ⟨ii0, hi0, hz0, hzz1, hz2⟩ := info_parts infoI
  have H := Lib.hid h
  have hc1 := h.c1
  have hc2 := h.c2
  have hd1 := h.d1
  have hd2 := h.d2
  clear h
  go_enter Try.func41, Try.ntmps41
  go_wp2_with fail
  refine named ?_
  intro W hW
  have hb : Below w.heap.size w W := by rw [hW]; exact below_alloc _ _
  have x1 : Box3 W w.heap.size 28 (.int .i64 m.size) (.slice a m.gates.length c) (.slice b m.pulls.length d) := by rw [hW]; exact Box3.new _ _ _ _ rfl
  clear hW
  have hzw := hb.size
  refine (specWorks_any W lo hi m a b c d (H.out.below hb hz) (by omega)).mono ?_
  rintro e w1 ⟨rfl, hb1⟩
  have X1 := Lib.hid (x1.below hb1)
  have HB1 := Lib.hid (hb.trans (hb1.mono hzw))
  have hz1 := hb1.size
  have hxl1 := X1.out.lt
  clear hb hb1 x1
  obtain ⟨c0, c1, c2⟩ := X1.out.cells
  cases q0 : M.worksB m with
  | false =>
    have HM := Lib.hid q0
    clear q0
    go_wp2_with fail
    go_ret2
    have HF := Lib.hid (M.visits_off HM.out)
    rw [HF.out, HM.out]
    exact ⟨rfl, HB1.out⟩
  | true =>
    have HM := Lib.hid q0
    have HV := Lib.hid (M.wv_of q0)
    clear q0
    have HCS := Lib.hid (M.cnt_same HV.out)
    have v12 := HV.out.size12
    have v1 := HV.out.size1
    have hsz : M.size64 m ≤ 768 := by unfold M.size64; omega
    have HSPR := Lib.hid (l8Spread_any w1 lo hi m a b c d (H.out.below HB1.out hz) (by omega) HV.out (0, 0) (M.vs0_ok HV.out) false)
    have HVIS := Lib.hid (M.visits_on HM.out)
    generalize M.dstC (M.edgeW m false) (0, 0) = f at *
    generalize M.size64 m = sz at *
    go_wp2_with fail
    refine (HSPR.out).mono ?_
    rintro e w2 ⟨ra, rc, rfl, ho2, hq1, hq2, hb2⟩
    have HTL := Lib.hid (M.tblL_len sz f)
    have HR := Lib.hid (show RowIn w1.heap.size w2.heap.size w2 ra (M.encIs (M.tblL sz f)) from ho2.row)
    have HB2 := Lib.hid (HB1.out.trans (hb2.mono (by omega)))
    have HAT := Lib.hid (fun i (hi : i < sz) => M.tblL_at (f := f) hi)
    clear ho2 hb2 c0 c1 c2
    rw [HTL.out] at hq1
    rw [HTL.out]
    go_wp2_with fail
    go_loop [4, 6] (fun v4 v6 => ∃ k : Nat, k ≤ sz ∧ v6 = .int .i64 (k : Int) ∧ v4 = .int .i64 ((M.cntTo f k : Nat) : Int)) (fun _ v6 => sz - (intOf v6).toNat)
    case atStart => exact ⟨0, Nat.zero_le _, rfl, rfl⟩
    case round =>
      obtain ⟨k, hk, rfl, rfl⟩ := hrel
      have hcl := M.cntTo_le f k
      by_cases hkl : k < sz
      · obtain ⟨sb, off, hsa, _, hsb, hcell⟩ := HR.out.at_ (k := k) (by rw [M.encIs_len, HTL.out]; exact hkl)
        subst hsa
        have y0 := hcell _ _ (HAT.out k hkl)
        have HS1 := Lib.hid (show M.cntTo f (k + 1) = M.cntTo f k + (if (f (M.unid k)).isSome then 1 else 0) from rfl)
        clear hcell
        generalize f (M.unid k) = r at *
        generalize M.cntTo f k = n at *
        cases r with
        | none =>
          rw [M.optI_none] at y0
          go_wp2_with fail
          go_round
          case rel => exact ⟨k + 1, by omega, by go_num, by rw [HS1.out]; rfl⟩
          case measure => simp [intOf]; omega
        | some v =>
          rw [M.optI_some] at y0
          go_wp2_with fail
          go_round
          case rel => exact ⟨k + 1, by omega, by go_num, by rw [HS1.out]; go_num⟩
          case measure => simp [intOf]; omega
      · obtain rfl : k = sz := by omega
        go_wp2_with fail
        go_ret2
        rw [HVIS.out, HCS.out, HM.out]
        exact ⟨rfl, HB2.out⟩
end C
end Go.Proofs.Ytdgfceiobpnchaa
