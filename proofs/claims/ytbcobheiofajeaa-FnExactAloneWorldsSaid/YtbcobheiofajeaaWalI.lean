/-
  CONTRACT of impl.AloneWorlds: the worlds of a single maze. Condition: the maze reads so, at most 1048576 doors and keys.
-/
import Derived.Test.YtbcobheiofajeaaWalM
import Derived.Test.YtbcobheiofajeaaWCOwnMaz2
import Derived.Test.YtbcobheiofajeaaWBReachMath
namespace Go.Proofs.Ytbcobheiofajeaa
open Go.RowKit
namespace C
set_option linter.unusedVariables false
set_option maxHeartbeats 6400000
set_option maxRecDepth 20000
theorem implAlone_lw (w : World) (lo hi : Nat) (m : M.Mz) (a b : Option Addr) (c d : Nat) (h : MzIn lo hi w m a c b d) (hz : hi ≤ w.heap.size) (_h1 : m.doors.length ≤ 1048576) (_h2 : m.keys.length ≤ 1048576) :
    Calls Try.prog 46 #[.agg #[.int .i64 m.size, .slice a m.doors.length c, .slice b m.keys.length d]] w (WlOkPost w (M.aloneV m) (M.mazeB m)) := by
  obtain ⟨i0, hi0, hz0, hzz1, hz2⟩ := info_parts infoI
  have H := Lib.hid h
  clear h
  go_enter Try.func46, Try.ntmps46
  go_wp2_with fail
  refine named ?_
  intro W hW
  have hb : Below w.heap.size w W := by rw [hW]; exact ((Below.refl _ _).alloc (Nat.le_refl _) _).alloc (by simp) _
  have x1 : Box3 W w.heap.size 55 (.int .i64 m.size) (.slice a m.doors.length c) (.slice b m.keys.length d) := by rw [hW]; exact (Box3.new _ _ _ _ rfl).alloc _
  have r1 : Box2 W (w.heap.size + 1) 30 (.slice none 0 0) (.slice none 0 0) := by rw [hW]; exact Box2.new _ _ _ (by simp)
  clear hW
  refine (isMaze_any W lo hi m a b c d (H.out.below hb hz) (Nat.le_trans hz hb.size)).mono ?_
  rintro e w1 ⟨rfl, hb1⟩
  have HB1 := Lib.hid (hb.trans (hb1.mono hb.size))
  have X1 := Lib.hid (x1.below hb1)
  have R1 := Lib.hid (r1.below hb1)
  have hz1 := HB1.out.size
  have hxl := X1.out.lt
  have hrl1 := R1.out.lt
  obtain ⟨c0, c1, c2⟩ := X1.out.cells
  clear hb hb1 x1 r1
  cases qm : M.mazeB m with
  | false =>
    obtain ⟨rf0, rf1⟩ := R1.out.free
    obtain ⟨rc0, rc1⟩ := R1.out.cells
    have QM := Lib.hid qm
    have QN := Lib.hid (M.alone_off qm)
    clear qm
    go_wp2_with fail
    refine bodyPost_ret (v := .tuple #[.agg #[.slice none 0 0, .slice none 0 0], .bool false]) (by simp [results, Try.results46, go_sem, rc0, rc1]) rfl ?_
    rw [QN.out, QM.out]
    exact ⟨none, 0, none, 0, rfl, WlOwn.zero _ _ _, Below.thenTurned (lo := w.heap.size + 1) (hi := w.heap.size + 1 + 1) HB1.out ((Turned.setCell _ _ _ _ (by omega) (by omega)).trans (Turned.setCell _ _ _ _ (by omega) (by omega))) (by omega) (by omega)⟩
  | true =>
    have HMB := Lib.hid qm
    have V := M.valid_of qm
    have v1 := V.size1
    have v12 := V.size12
    obtain ⟨n, hn⟩ : ∃ n : Nat, m.size = (n : Int) := ⟨m.size.toNat, by omega⟩
    have hn12 : n ≤ 12 := by omega
    have HSN := Lib.hid hn
    have X3 := Lib.hid (show Box3 w1.drew w.heap.size 55 (.int .i64 m.size) (.slice a m.doors.length c) (.slice b m.keys.length d) from X1.out)
    have R3 := Lib.hid (show Box2 w1.drew (w.heap.size + 1) 30 (.slice none 0 0) (.slice none 0 0) from R1.out)
    have HB3 := Lib.hid HB1.out.drew
    have hdz : w1.drew.heap.size = w1.heap.size := rfl
    clear qm V v1 v12 hn
    go_wp2_with fail
    refine wp_region_late2 (fun (wq : World) => wq.cell? ⟨w.heap.size, 0, none⟩ = some (.int .i64 m.size) ∧ wq.cell? ⟨w.heap.size, 1, none⟩ = some (.slice a m.doors.length c) ∧ wq.cell? ⟨w.heap.size, 2, none⟩ = some (.slice b m.keys.length d)) [] 10 #[false, false, false, false, false, false, false, false, false, false] rfl rfl (by kernel_rfl) ?_
    have hS : (fun (wq : World) => wq.cell? ⟨w.heap.size, 0, none⟩ = some (.int .i64 m.size) ∧ wq.cell? ⟨w.heap.size, 1, none⟩ = some (.slice a m.doors.length c) ∧ wq.cell? ⟨w.heap.size, 2, none⟩ = some (.slice b m.keys.length d)) w1.drew := X3.out.cells
    refine wpAnyL_take (i := 0) (oi := { dst := some 8, op := Go.Op.load 55 (Go.Operand.tmp 1), type := 55, pos := "l10_worlds.go:211", after := #[], guard := none }) (v := ?t1v0) rfl (by kernel_rfl) (by kernel_rfl) (by kernel_rfl) (by kernel_rfl) (fun _ _ _ h => h) (Or.inl ⟨by rfl, ?t1h0⟩) hS ?t1r0
    case t1h0 => (intro wS hSw; (try dsimp only at hSw); go_split_ands; go_simp; try with_reducible rfl)
    try simp only [Act.put, List.setIfInBounds_toArray, List.set_cons_zero, List.set_cons_succ]
    refine wpAnyL_take (i := 3) (oi := { dst := some 11, op := Go.Op.fieldAddr 55 (Go.Operand.tmp 1) 0, type := 0, pos := "l10_worlds.go:211", after := #[], guard := none }) (v := ?t2v3) rfl (by kernel_rfl) (by kernel_rfl) (by kernel_rfl) (by kernel_rfl) (fun _ _ _ h => h) (Or.inl ⟨by rfl, ?t2h3⟩) hS ?t2r3
    case t2h3 => (intro wS hSw; (try dsimp only at hSw); go_split_ands; go_simp; try with_reducible rfl)
    try simp only [Act.put, List.setIfInBounds_toArray, List.set_cons_zero, List.set_cons_succ]
    refine wpAnyL_take (i := 4) (oi := { dst := some 12, op := Go.Op.load 3 (Go.Operand.tmp 11), type := 3, pos := "l10_worlds.go:211", after := #[{ on := 3, ground := Go.Ground.data }], guard := none }) (v := ?t3v4) rfl (by kernel_rfl) (by kernel_rfl) (by kernel_rfl) (by kernel_rfl) (fun _ _ _ h => h) (Or.inl ⟨by rfl, ?t3h4⟩) hS ?t3r4
    case t3h4 => (intro wS hSw; (try dsimp only at hSw); go_split_ands; go_simp; try with_reducible rfl)
    try simp only [Act.put, List.setIfInBounds_toArray, List.set_cons_zero, List.set_cons_succ]
    refine wpAnyL_two (i := 1) (j := 5) (oi := { dst := some 9, op := Go.Op.call { callee := Go.Callee.value (Go.Operand.func 87), args := #[Go.Operand.tmp 8], argTypes := #[55] }, type := 55, pos := "l10_worlds.go:211", after := #[{ on := 0, ground := Go.Ground.data }], guard := none }) (oj := { dst := some 13, op := Go.Op.makeSlice 39 (Go.Operand.tmp 12) (Go.Operand.tmp 12), type := 39, pos := "l10_worlds.go:211", after := #[{ on := 4, ground := Go.Ground.data }, { on := 4, ground := Go.Ground.data }], guard := none }) (by kernel_rfl) rfl rfl (fun Kk4a hKk4a => ?_) (fun Kk4b hKk4b => ?_)
    · skip
      refine step_call (by rfl) 87 #[.agg #[.int .i64 m.size, .slice a m.doors.length c, .slice b m.keys.length d]] (by go_simp; try rfl) (clone_any w1.drew lo hi m a b c d (H.out.below HB3.out hz) (Nat.le_trans hz HB3.out.size) _h1 _h2) ?_
      rintro e wk4a ⟨pa, pc, pb, pd, rfl, hmo, hb_k4a⟩
      refine ⟨_, rfl, ?_⟩
      have HB_k4a := Lib.hid (HB3.out.trans (hb_k4a.mono HB3.out.size))
      have X_k4a := Lib.hid (X3.out.below hb_k4a)
      have R_k4a := Lib.hid (R3.out.below hb_k4a)
      have hz_k4a : w.heap.size ≤ wk4a.heap.size := by first | exact HB_k4a.out.size | simpa only [World.size_alloc] using HB_k4a.out.size
      have hy_k4a : w1.heap.size ≤ wk4a.heap.size := by first | exact hb_k4a.size | simpa only [World.size_alloc] using hb_k4a.size
      have M_k4a := Lib.hid (show MzOwn (w1.heap.size) wk4a.heap.size wk4a m pa pc pb pd from by first | exact hmo | simpa only [World.size_alloc] using hmo)
      have mu_k4a := Nat.le_refl wk4a.heap.size
      have hSn : (fun (wq : World) => wq.cell? ⟨w.heap.size, 0, none⟩ = some (.int .i64 m.size) ∧ wq.cell? ⟨w.heap.size, 1, none⟩ = some (.slice a m.doors.length c) ∧ wq.cell? ⟨w.heap.size, 2, none⟩ = some (.slice b m.keys.length d)) wk4a := X_k4a.out.cells
      clear hmo hb_k4a
      refine hKk4a _ _ (fun _ => hSn) ?_
      clear hS
      have hS := hSn
      clear hSn
      try simp only [Act.put, List.setIfInBounds_toArray, List.set_cons_zero, List.set_cons_succ]
      refine wpAnyL_two (i := 2) (j := 5) (oi := { dst := some 10, op := Go.Op.buildSlice 28 1 #[(0, Go.Operand.tmp 9)], type := 28, pos := "l10_worlds.go:211", after := #[{ on := 1, ground := Go.Ground.data }], guard := none }) (oj := { dst := some 13, op := Go.Op.makeSlice 39 (Go.Operand.tmp 12) (Go.Operand.tmp 12), type := 39, pos := "l10_worlds.go:211", after := #[{ on := 4, ground := Go.Ground.data }, { on := 4, ground := Go.Ground.data }], guard := none }) (by kernel_rfl) rfl rfl (fun Kk5a hKk5a => ?_) (fun Kk5b hKk5b => ?_)
      · skip
        go_simp
        have hb_k5a : Below wk4a.heap.size wk4a (wk4a.alloc (.cells #[.int .i64 m.size, .slice pa m.doors.length pc, .slice pb m.keys.length pd] 55)) := below_alloc _ _
        have HB_k5a := Lib.hid (HB_k4a.out.trans (hb_k5a.mono HB_k4a.out.size))
        have X_k5a := Lib.hid (X_k4a.out.below hb_k5a)
        have R_k5a := Lib.hid (R_k4a.out.below hb_k5a)
        have M_k5a := Lib.hid (M_k4a.out.below hb_k5a mu_k4a)
        have mu_k5a := Nat.le_trans mu_k4a hb_k5a.size
        have hz_k5a : w.heap.size ≤ wk4a.heap.size + 1 := by first | exact HB_k5a.out.size | simpa only [World.size_alloc] using HB_k5a.out.size
        have hy_k5a : wk4a.heap.size ≤ wk4a.heap.size + 1 := by first | exact hb_k5a.size | simpa only [World.size_alloc] using hb_k5a.size
        have G1_k5a := Lib.hid (Box3.new (w := wk4a) 55 (.int .i64 m.size) (.slice pa m.doors.length pc) (.slice pb m.keys.length pd) (show wk4a.heap.size = _ from by first | rfl | (simp only [World.size_alloc]; done)))
        have hSn : (fun (wq : World) => wq.cell? ⟨w.heap.size, 0, none⟩ = some (.int .i64 m.size) ∧ wq.cell? ⟨w.heap.size, 1, none⟩ = some (.slice a m.doors.length c) ∧ wq.cell? ⟨w.heap.size, 2, none⟩ = some (.slice b m.keys.length d)) (wk4a.alloc (.cells #[.int .i64 m.size, .slice pa m.doors.length pc, .slice pb m.keys.length pd] 55)) := X_k5a.out.cells
        clear hb_k5a
        refine hKk5a _ _ (fun _ => hSn) ?_
        clear hS
        have hS := hSn
        clear hSn
        try simp only [List.setIfInBounds_toArray, List.set_cons_zero, List.set_cons_succ]
        refine wpAnyL_one (i := 5) (oi := { dst := some 13, op := Go.Op.makeSlice 39 (Go.Operand.tmp 12) (Go.Operand.tmp 12), type := 39, pos := "l10_worlds.go:211", after := #[{ on := 4, ground := Go.Ground.data }, { on := 4, ground := Go.Ground.data }], guard := none }) (by kernel_rfl) rfl (fun Kk6 hKk6 => ?_)
        refine step_make rfl _ _ 39 rfl (wk4a.alloc (.cells #[.int .i64 m.size, .slice pa m.doors.length pc, .slice pb m.keys.length pd] 55)).heap.size 3 i0 (.int .i64 0) 1 Try.underlying39 hi0 hz0 hzz1 .i64 .i64 _ _ n rfl rfl HSN.out HSN.out (by rw [hz2]; omega) (by unfold maxLen; omega) (Nat.le_refl _) ?_
        intro wk6 hown_k6 hgrow_k6
        rw [made_ints] at hown_k6
        have hb_k6 : Below (wk4a.alloc (.cells #[.int .i64 m.size, .slice pa m.doors.length pc, .slice pb m.keys.length pd] 55)).heap.size (wk4a.alloc (.cells #[.int .i64 m.size, .slice pa m.doors.length pc, .slice pb m.keys.length pd] 55)) wk6 := (Below.refl _ _).grown hgrow_k6 (Nat.le_refl _) (fun k e => by cases e)
        have HB_k6 := Lib.hid (HB_k5a.out.trans (hb_k6.mono HB_k5a.out.size))
        have X_k6 := Lib.hid (X_k5a.out.below hb_k6)
        have R_k6 := Lib.hid (R_k5a.out.below hb_k6)
        have G1_k6 := Lib.hid (G1_k5a.out.below hb_k6)
        have M_k6 := Lib.hid (M_k5a.out.below hb_k6 mu_k5a)
        have mu_k6 := Nat.le_trans mu_k5a hb_k6.size
        have hz_k6 : w.heap.size ≤ wk6.heap.size := by first | exact HB_k6.out.size | simpa only [World.size_alloc] using HB_k6.out.size
        have hy_k6 : wk4a.heap.size + 1 ≤ wk6.heap.size := by first | exact hb_k6.size | simpa only [World.size_alloc] using hb_k6.size
        have Z_k6 := Lib.hid (show OwnAt (wk4a.heap.size + 1) (wk4a.heap.size + 1 + 1) wk6 3 (some ⟨wk4a.heap.size + 1, 0, none⟩) (M.encIs (List.replicate n 0)) from by first | exact made_at hown_k6 | simpa only [World.size_alloc] using made_at hown_k6)
        have zu_k6 : wk4a.heap.size + 1 + 1 ≤ wk6.heap.size := by first | exact made_lt hown_k6 | simpa only [World.size_alloc] using made_lt hown_k6
        have hSn : (fun (wq : World) => wq.cell? ⟨w.heap.size, 0, none⟩ = some (.int .i64 m.size) ∧ wq.cell? ⟨w.heap.size, 1, none⟩ = some (.slice a m.doors.length c) ∧ wq.cell? ⟨w.heap.size, 2, none⟩ = some (.slice b m.keys.length d)) wk6 := X_k6.out.cells
        clear hown_k6 hgrow_k6 hb_k6
        refine hKk6 _ _ (fun _ => hSn) ?_
        clear hS
        have hS := hSn
        clear hSn
        try simp only [Act.put, List.setIfInBounds_toArray, List.set_cons_zero, List.set_cons_succ]
        refine wpAnyL_one (i := 6) (oi := { dst := some 14, op := Go.Op.buildSlice 23 1 #[(0, Go.Operand.tmp 13)], type := 23, pos := "l10_worlds.go:211", after := #[{ on := 5, ground := Go.Ground.data }], guard := none }) (by kernel_rfl) rfl (fun Kk7 hKk7 => ?_)
        go_simp
        have hb_k7 : Below wk6.heap.size wk6 (wk6.alloc (.cells #[.slice (some ⟨wk4a.heap.size + 1, 0, none⟩) n n] 39)) := below_alloc _ _
        have HB_k7 := Lib.hid (HB_k6.out.trans (hb_k7.mono HB_k6.out.size))
        have X_k7 := Lib.hid (X_k6.out.below hb_k7)
        have R_k7 := Lib.hid (R_k6.out.below hb_k7)
        have G1_k7 := Lib.hid (G1_k6.out.below hb_k7)
        have M_k7 := Lib.hid (M_k6.out.below hb_k7 mu_k6)
        have mu_k7 := Nat.le_trans mu_k6 hb_k7.size
        have Z_k7 := Lib.hid (Z_k6.out.below hb_k7 zu_k6)
        have zu_k7 := Nat.le_trans zu_k6 hb_k7.size
        have hz_k7 : w.heap.size ≤ wk6.heap.size + 1 := by first | exact HB_k7.out.size | simpa only [World.size_alloc] using HB_k7.out.size
        have hy_k7 : wk6.heap.size ≤ wk6.heap.size + 1 := by first | exact hb_k7.size | simpa only [World.size_alloc] using hb_k7.size
        have G2_k7 := Lib.hid (Box1w.new (w := wk6) 39 (.slice (some ⟨wk4a.heap.size + 1, 0, none⟩) n n) (show wk6.heap.size = _ from by first | rfl | (simp only [World.size_alloc]; done)))
        have hSn : (fun (wq : World) => wq.cell? ⟨w.heap.size, 0, none⟩ = some (.int .i64 m.size) ∧ wq.cell? ⟨w.heap.size, 1, none⟩ = some (.slice a m.doors.length c) ∧ wq.cell? ⟨w.heap.size, 2, none⟩ = some (.slice b m.keys.length d)) (wk6.alloc (.cells #[.slice (some ⟨wk4a.heap.size + 1, 0, none⟩) n n] 39)) := X_k7.out.cells
        clear hb_k7
        refine hKk7 _ _ (fun _ => hSn) ?_
        clear hS
        have hS := hSn
        clear hSn
        try simp only [List.setIfInBounds_toArray, List.set_cons_zero, List.set_cons_succ]
        refine wpAnyL_take (i := 7) (oi := { dst := some 15, op := Go.Op.build 30 #[(0, Go.Operand.tmp 10), (1, Go.Operand.tmp 14)], type := 30, pos := "l10_worlds.go:211", after := #[{ on := 2, ground := Go.Ground.data }, { on := 6, ground := Go.Ground.data }], guard := none }) (v := ?t8v7) rfl (by kernel_rfl) (by kernel_rfl) (by kernel_rfl) (by kernel_rfl) (fun _ _ _ h => h) (Or.inl ⟨by rfl, ?t8h7⟩) hS ?t8r7
        case t8h7 => (intro wS hSw; (try dsimp only at hSw); go_split_ands; go_simp; try with_reducible rfl)
        try simp only [Act.put, List.setIfInBounds_toArray, List.set_cons_zero, List.set_cons_succ]
        refine wpAnyL_one (i := 8) (oi := { dst := none, op := Go.Op.store 30 (Go.Operand.tmp 2) (Go.Operand.tmp 15), type := 0, pos := "l10_worlds.go:211", after := #[{ on := 7, ground := Go.Ground.data }, { on := 1, ground := Go.Ground.chain }, { on := 0, ground := Go.Ground.phase }, { on := 1, ground := Go.Ground.phase }, { on := 2, ground := Go.Ground.phase }, { on := 3, ground := Go.Ground.phase }, { on := 4, ground := Go.Ground.phase }, { on := 5, ground := Go.Ground.phase }, { on := 6, ground := Go.Ground.phase }, { on := 7, ground := Go.Ground.phase }], guard := none }) (by kernel_rfl) rfl (fun Kk9 hKk9 => ?_)
        obtain ⟨rf0, rf1⟩ := R_k7.out.free
        obtain ⟨rc0, rc1⟩ := R_k7.out.cells
        have hrl := R_k7.out.lt
        have hT : Turned (w.heap.size + 1) (w.heap.size + 1 + 1) (wk6.alloc (.cells #[.slice (some ⟨wk4a.heap.size + 1, 0, none⟩) n n] 39)) (((wk6.alloc (.cells #[.slice (some ⟨wk4a.heap.size + 1, 0, none⟩) n n] 39)).setCell ⟨w.heap.size + 1, 0, none⟩ (.slice (some ⟨wk4a.heap.size, 0, none⟩) 1 1)).setCell ⟨w.heap.size + 1, 1, none⟩ (.slice (some ⟨wk6.heap.size, 0, none⟩) 1 1)) := (Turned.setCell _ _ _ _ (by omega) (by omega)).trans (Turned.setCell _ _ _ _ (by omega) (by omega))
        have HT := Lib.hid hT
        have hSn : (fun (wq : World) => wq.cell? ⟨w.heap.size, 0, none⟩ = some (.int .i64 m.size) ∧ wq.cell? ⟨w.heap.size, 1, none⟩ = some (.slice a m.doors.length c) ∧ wq.cell? ⟨w.heap.size, 2, none⟩ = some (.slice b m.keys.length d)) (((wk6.alloc (.cells #[.slice (some ⟨wk4a.heap.size + 1, 0, none⟩) n n] 39)).setCell ⟨w.heap.size + 1, 0, none⟩ (.slice (some ⟨wk4a.heap.size, 0, none⟩) 1 1)).setCell ⟨w.heap.size + 1, 1, none⟩ (.slice (some ⟨wk6.heap.size, 0, none⟩) 1 1)) := (X_k7.out.turned hT (.inl (by omega))).cells
        clear hT
        go_simp
        refine hKk9 _ _ (fun _ => hSn) ?_
        clear hS
        have hS := hSn
        clear hSn
        try simp only [List.setIfInBounds_toArray, List.set_cons_zero, List.set_cons_succ]
        refine wpAnyL_take (i := 9) (oi := { dst := some 3, op := Go.Op.assign (Go.Operand.const (Go.Value.bool true)), type := 4, pos := "l10_worlds.go:211", after := #[{ on := 8, ground := Go.Ground.chain }, { on := 0, ground := Go.Ground.phase }, { on := 1, ground := Go.Ground.phase }, { on := 2, ground := Go.Ground.phase }, { on := 3, ground := Go.Ground.phase }, { on := 4, ground := Go.Ground.phase }, { on := 5, ground := Go.Ground.phase }, { on := 6, ground := Go.Ground.phase }, { on := 7, ground := Go.Ground.phase }, { on := 8, ground := Go.Ground.phase }], guard := none }) (v := ?t10v9) rfl (by kernel_rfl) (by kernel_rfl) (by kernel_rfl) (by kernel_rfl) (fun _ _ _ h => h) (Or.inl ⟨by rfl, ?t10h9⟩) hS ?t10r9
        case t10h9 => (intro wS hSw; (try dsimp only at hSw); go_split_ands; go_simp; try with_reducible rfl)
        try simp only [Act.put, List.setIfInBounds_toArray, List.set_cons_zero, List.set_cons_succ]
        refine wpAnyL_done (by kernel_rfl) ?_ _
        go_wp2_with fail
        refine bodyPost_ret (v := .tuple #[.agg #[(.slice (some ⟨wk4a.heap.size, 0, none⟩) 1 1), (.slice (some ⟨wk6.heap.size, 0, none⟩) 1 1)], .bool true]) (by simp [results, Try.results46, go_sem, rc0, rc1]) rfl ?_
        have hsT := HT.out.size
        exact alone_end HMB.out HSN.out (M_k7.out.turned HT.out mu_k7 (by omega)) (Z_k7.out.turned HT.out zu_k7 (by omega)) (G1_k7.out.turned HT.out (by omega)) (G2_k7.out.turned HT.out (by omega)) (by omega) (by omega) (Nat.le_trans mu_k7 hsT) (by omega) (Nat.lt_of_lt_of_le (Nat.lt_of_succ_le zu_k7) hsT) (by omega) (by omega) (Below.thenTurned HB_k7.out HT.out (by omega) (by omega))
      · skip
        refine step_make rfl _ _ 39 rfl wk4a.heap.size 3 i0 (.int .i64 0) 1 Try.underlying39 hi0 hz0 hzz1 .i64 .i64 _ _ n rfl rfl HSN.out HSN.out (by rw [hz2]; omega) (by unfold maxLen; omega) (Nat.le_refl _) ?_
        intro wk5b hown_k5b hgrow_k5b
        rw [made_ints] at hown_k5b
        have hb_k5b : Below wk4a.heap.size wk4a wk5b := (Below.refl _ _).grown hgrow_k5b (Nat.le_refl _) (fun k e => by cases e)
        have HB_k5b := Lib.hid (HB_k4a.out.trans (hb_k5b.mono HB_k4a.out.size))
        have X_k5b := Lib.hid (X_k4a.out.below hb_k5b)
        have R_k5b := Lib.hid (R_k4a.out.below hb_k5b)
        have M_k5b := Lib.hid (M_k4a.out.below hb_k5b mu_k4a)
        have mu_k5b := Nat.le_trans mu_k4a hb_k5b.size
        have hz_k5b : w.heap.size ≤ wk5b.heap.size := by first | exact HB_k5b.out.size | simpa only [World.size_alloc] using HB_k5b.out.size
        have hy_k5b : wk4a.heap.size ≤ wk5b.heap.size := by first | exact hb_k5b.size | simpa only [World.size_alloc] using hb_k5b.size
        have Z_k5b := Lib.hid (show OwnAt (wk4a.heap.size) (wk4a.heap.size + 1) wk5b 3 (some ⟨wk4a.heap.size, 0, none⟩) (M.encIs (List.replicate n 0)) from by first | exact made_at hown_k5b | simpa only [World.size_alloc] using made_at hown_k5b)
        have zu_k5b : wk4a.heap.size + 1 ≤ wk5b.heap.size := by first | exact made_lt hown_k5b | simpa only [World.size_alloc] using made_lt hown_k5b
        have hSn : (fun (wq : World) => wq.cell? ⟨w.heap.size, 0, none⟩ = some (.int .i64 m.size) ∧ wq.cell? ⟨w.heap.size, 1, none⟩ = some (.slice a m.doors.length c) ∧ wq.cell? ⟨w.heap.size, 2, none⟩ = some (.slice b m.keys.length d)) wk5b := X_k5b.out.cells
        clear hown_k5b hgrow_k5b hb_k5b
        refine hKk5b _ _ (fun _ => hSn) ?_
        clear hS
        have hS := hSn
        clear hSn
        try simp only [Act.put, List.setIfInBounds_toArray, List.set_cons_zero, List.set_cons_succ]
        refine wpAnyL_two (i := 2) (j := 6) (oi := { dst := some 10, op := Go.Op.buildSlice 28 1 #[(0, Go.Operand.tmp 9)], type := 28, pos := "l10_worlds.go:211", after := #[{ on := 1, ground := Go.Ground.data }], guard := none }) (oj := { dst := some 14, op := Go.Op.buildSlice 23 1 #[(0, Go.Operand.tmp 13)], type := 23, pos := "l10_worlds.go:211", after := #[{ on := 5, ground := Go.Ground.data }], guard := none }) (by kernel_rfl) rfl rfl (fun Kk11a hKk11a => ?_) (fun Kk11b hKk11b => ?_)
        · skip
          go_simp
          have hb_k11a : Below wk5b.heap.size wk5b (wk5b.alloc (.cells #[.int .i64 m.size, .slice pa m.doors.length pc, .slice pb m.keys.length pd] 55)) := below_alloc _ _
          have HB_k11a := Lib.hid (HB_k5b.out.trans (hb_k11a.mono HB_k5b.out.size))
          have X_k11a := Lib.hid (X_k5b.out.below hb_k11a)
          have R_k11a := Lib.hid (R_k5b.out.below hb_k11a)
          have M_k11a := Lib.hid (M_k5b.out.below hb_k11a mu_k5b)
          have mu_k11a := Nat.le_trans mu_k5b hb_k11a.size
          have Z_k11a := Lib.hid (Z_k5b.out.below hb_k11a zu_k5b)
          have zu_k11a := Nat.le_trans zu_k5b hb_k11a.size
          have hz_k11a : w.heap.size ≤ wk5b.heap.size + 1 := by first | exact HB_k11a.out.size | simpa only [World.size_alloc] using HB_k11a.out.size
          have hy_k11a : wk5b.heap.size ≤ wk5b.heap.size + 1 := by first | exact hb_k11a.size | simpa only [World.size_alloc] using hb_k11a.size
          have G1_k11a := Lib.hid (Box3.new (w := wk5b) 55 (.int .i64 m.size) (.slice pa m.doors.length pc) (.slice pb m.keys.length pd) (show wk5b.heap.size = _ from by first | rfl | (simp only [World.size_alloc]; done)))
          have hSn : (fun (wq : World) => wq.cell? ⟨w.heap.size, 0, none⟩ = some (.int .i64 m.size) ∧ wq.cell? ⟨w.heap.size, 1, none⟩ = some (.slice a m.doors.length c) ∧ wq.cell? ⟨w.heap.size, 2, none⟩ = some (.slice b m.keys.length d)) (wk5b.alloc (.cells #[.int .i64 m.size, .slice pa m.doors.length pc, .slice pb m.keys.length pd] 55)) := X_k11a.out.cells
          clear hb_k11a
          refine hKk11a _ _ (fun _ => hSn) ?_
          clear hS
          have hS := hSn
          clear hSn
          try simp only [List.setIfInBounds_toArray, List.set_cons_zero, List.set_cons_succ]
          refine wpAnyL_one (i := 6) (oi := { dst := some 14, op := Go.Op.buildSlice 23 1 #[(0, Go.Operand.tmp 13)], type := 23, pos := "l10_worlds.go:211", after := #[{ on := 5, ground := Go.Ground.data }], guard := none }) (by kernel_rfl) rfl (fun Kk12 hKk12 => ?_)
          go_simp
          have hb_k12 : Below (wk5b.alloc (.cells #[.int .i64 m.size, .slice pa m.doors.length pc, .slice pb m.keys.length pd] 55)).heap.size (wk5b.alloc (.cells #[.int .i64 m.size, .slice pa m.doors.length pc, .slice pb m.keys.length pd] 55)) ((wk5b.alloc (.cells #[.int .i64 m.size, .slice pa m.doors.length pc, .slice pb m.keys.length pd] 55)).alloc (.cells #[.slice (some ⟨wk4a.heap.size, 0, none⟩) n n] 39)) := below_alloc _ _
          have HB_k12 := Lib.hid (HB_k11a.out.trans (hb_k12.mono HB_k11a.out.size))
          have X_k12 := Lib.hid (X_k11a.out.below hb_k12)
          have R_k12 := Lib.hid (R_k11a.out.below hb_k12)
          have G1_k12 := Lib.hid (G1_k11a.out.below hb_k12)
          have M_k12 := Lib.hid (M_k11a.out.below hb_k12 mu_k11a)
          have mu_k12 := Nat.le_trans mu_k11a hb_k12.size
          have Z_k12 := Lib.hid (Z_k11a.out.below hb_k12 zu_k11a)
          have zu_k12 := Nat.le_trans zu_k11a hb_k12.size
          have hz_k12 : w.heap.size ≤ wk5b.heap.size + 1 + 1 := by first | exact HB_k12.out.size | simpa only [World.size_alloc] using HB_k12.out.size
          have hy_k12 : wk5b.heap.size + 1 ≤ wk5b.heap.size + 1 + 1 := by first | exact hb_k12.size | simpa only [World.size_alloc] using hb_k12.size
          have G2_k12 := Lib.hid (Box1w.new (w := (wk5b.alloc (.cells #[.int .i64 m.size, .slice pa m.doors.length pc, .slice pb m.keys.length pd] 55))) 39 (.slice (some ⟨wk4a.heap.size, 0, none⟩) n n) (show wk5b.heap.size + 1 = _ from by first | rfl | (simp only [World.size_alloc]; done)))
          have hSn : (fun (wq : World) => wq.cell? ⟨w.heap.size, 0, none⟩ = some (.int .i64 m.size) ∧ wq.cell? ⟨w.heap.size, 1, none⟩ = some (.slice a m.doors.length c) ∧ wq.cell? ⟨w.heap.size, 2, none⟩ = some (.slice b m.keys.length d)) ((wk5b.alloc (.cells #[.int .i64 m.size, .slice pa m.doors.length pc, .slice pb m.keys.length pd] 55)).alloc (.cells #[.slice (some ⟨wk4a.heap.size, 0, none⟩) n n] 39)) := X_k12.out.cells
          clear hb_k12
          refine hKk12 _ _ (fun _ => hSn) ?_
          clear hS
          have hS := hSn
          clear hSn
          try simp only [List.setIfInBounds_toArray, List.set_cons_zero, List.set_cons_succ]
          refine wpAnyL_take (i := 7) (oi := { dst := some 15, op := Go.Op.build 30 #[(0, Go.Operand.tmp 10), (1, Go.Operand.tmp 14)], type := 30, pos := "l10_worlds.go:211", after := #[{ on := 2, ground := Go.Ground.data }, { on := 6, ground := Go.Ground.data }], guard := none }) (v := ?t13v7) rfl (by kernel_rfl) (by kernel_rfl) (by kernel_rfl) (by kernel_rfl) (fun _ _ _ h => h) (Or.inl ⟨by rfl, ?t13h7⟩) hS ?t13r7
          case t13h7 => (intro wS hSw; (try dsimp only at hSw); go_split_ands; go_simp; try with_reducible rfl)
          try simp only [Act.put, List.setIfInBounds_toArray, List.set_cons_zero, List.set_cons_succ]
          refine wpAnyL_one (i := 8) (oi := { dst := none, op := Go.Op.store 30 (Go.Operand.tmp 2) (Go.Operand.tmp 15), type := 0, pos := "l10_worlds.go:211", after := #[{ on := 7, ground := Go.Ground.data }, { on := 1, ground := Go.Ground.chain }, { on := 0, ground := Go.Ground.phase }, { on := 1, ground := Go.Ground.phase }, { on := 2, ground := Go.Ground.phase }, { on := 3, ground := Go.Ground.phase }, { on := 4, ground := Go.Ground.phase }, { on := 5, ground := Go.Ground.phase }, { on := 6, ground := Go.Ground.phase }, { on := 7, ground := Go.Ground.phase }], guard := none }) (by kernel_rfl) rfl (fun Kk14 hKk14 => ?_)
          obtain ⟨rf0, rf1⟩ := R_k12.out.free
          obtain ⟨rc0, rc1⟩ := R_k12.out.cells
          have hrl := R_k12.out.lt
          have hT : Turned (w.heap.size + 1) (w.heap.size + 1 + 1) ((wk5b.alloc (.cells #[.int .i64 m.size, .slice pa m.doors.length pc, .slice pb m.keys.length pd] 55)).alloc (.cells #[.slice (some ⟨wk4a.heap.size, 0, none⟩) n n] 39)) ((((wk5b.alloc (.cells #[.int .i64 m.size, .slice pa m.doors.length pc, .slice pb m.keys.length pd] 55)).alloc (.cells #[.slice (some ⟨wk4a.heap.size, 0, none⟩) n n] 39)).setCell ⟨w.heap.size + 1, 0, none⟩ (.slice (some ⟨wk5b.heap.size, 0, none⟩) 1 1)).setCell ⟨w.heap.size + 1, 1, none⟩ (.slice (some ⟨wk5b.heap.size + 1, 0, none⟩) 1 1)) := (Turned.setCell _ _ _ _ (by omega) (by omega)).trans (Turned.setCell _ _ _ _ (by omega) (by omega))
          have HT := Lib.hid hT
          have hSn : (fun (wq : World) => wq.cell? ⟨w.heap.size, 0, none⟩ = some (.int .i64 m.size) ∧ wq.cell? ⟨w.heap.size, 1, none⟩ = some (.slice a m.doors.length c) ∧ wq.cell? ⟨w.heap.size, 2, none⟩ = some (.slice b m.keys.length d)) ((((wk5b.alloc (.cells #[.int .i64 m.size, .slice pa m.doors.length pc, .slice pb m.keys.length pd] 55)).alloc (.cells #[.slice (some ⟨wk4a.heap.size, 0, none⟩) n n] 39)).setCell ⟨w.heap.size + 1, 0, none⟩ (.slice (some ⟨wk5b.heap.size, 0, none⟩) 1 1)).setCell ⟨w.heap.size + 1, 1, none⟩ (.slice (some ⟨wk5b.heap.size + 1, 0, none⟩) 1 1)) := (X_k12.out.turned hT (.inl (by omega))).cells
          clear hT
          go_simp
          refine hKk14 _ _ (fun _ => hSn) ?_
          clear hS
          have hS := hSn
          clear hSn
          try simp only [List.setIfInBounds_toArray, List.set_cons_zero, List.set_cons_succ]
          refine wpAnyL_take (i := 9) (oi := { dst := some 3, op := Go.Op.assign (Go.Operand.const (Go.Value.bool true)), type := 4, pos := "l10_worlds.go:211", after := #[{ on := 8, ground := Go.Ground.chain }, { on := 0, ground := Go.Ground.phase }, { on := 1, ground := Go.Ground.phase }, { on := 2, ground := Go.Ground.phase }, { on := 3, ground := Go.Ground.phase }, { on := 4, ground := Go.Ground.phase }, { on := 5, ground := Go.Ground.phase }, { on := 6, ground := Go.Ground.phase }, { on := 7, ground := Go.Ground.phase }, { on := 8, ground := Go.Ground.phase }], guard := none }) (v := ?t15v9) rfl (by kernel_rfl) (by kernel_rfl) (by kernel_rfl) (by kernel_rfl) (fun _ _ _ h => h) (Or.inl ⟨by rfl, ?t15h9⟩) hS ?t15r9
          case t15h9 => (intro wS hSw; (try dsimp only at hSw); go_split_ands; go_simp; try with_reducible rfl)
          try simp only [Act.put, List.setIfInBounds_toArray, List.set_cons_zero, List.set_cons_succ]
          refine wpAnyL_done (by kernel_rfl) ?_ _
          go_wp2_with fail
          refine bodyPost_ret (v := .tuple #[.agg #[(.slice (some ⟨wk5b.heap.size, 0, none⟩) 1 1), (.slice (some ⟨wk5b.heap.size + 1, 0, none⟩) 1 1)], .bool true]) (by simp [results, Try.results46, go_sem, rc0, rc1]) rfl ?_
          have hsT := HT.out.size
          exact alone_end HMB.out HSN.out (M_k12.out.turned HT.out mu_k12 (by omega)) (Z_k12.out.turned HT.out zu_k12 (by omega)) (G1_k12.out.turned HT.out (by omega)) (G2_k12.out.turned HT.out (by omega)) (by omega) (by omega) (Nat.le_trans mu_k12 hsT) (by omega) (Nat.lt_of_lt_of_le (Nat.lt_of_succ_le zu_k12) hsT) (by omega) (by omega) (Below.thenTurned HB_k12.out HT.out (by omega) (by omega))
        · skip
          go_simp
          have hb_k11b : Below wk5b.heap.size wk5b (wk5b.alloc (.cells #[.slice (some ⟨wk4a.heap.size, 0, none⟩) n n] 39)) := below_alloc _ _
          have HB_k11b := Lib.hid (HB_k5b.out.trans (hb_k11b.mono HB_k5b.out.size))
          have X_k11b := Lib.hid (X_k5b.out.below hb_k11b)
          have R_k11b := Lib.hid (R_k5b.out.below hb_k11b)
          have M_k11b := Lib.hid (M_k5b.out.below hb_k11b mu_k5b)
          have mu_k11b := Nat.le_trans mu_k5b hb_k11b.size
          have Z_k11b := Lib.hid (Z_k5b.out.below hb_k11b zu_k5b)
          have zu_k11b := Nat.le_trans zu_k5b hb_k11b.size
          have hz_k11b : w.heap.size ≤ wk5b.heap.size + 1 := by first | exact HB_k11b.out.size | simpa only [World.size_alloc] using HB_k11b.out.size
          have hy_k11b : wk5b.heap.size ≤ wk5b.heap.size + 1 := by first | exact hb_k11b.size | simpa only [World.size_alloc] using hb_k11b.size
          have G2_k11b := Lib.hid (Box1w.new (w := wk5b) 39 (.slice (some ⟨wk4a.heap.size, 0, none⟩) n n) (show wk5b.heap.size = _ from by first | rfl | (simp only [World.size_alloc]; done)))
          have hSn : (fun (wq : World) => wq.cell? ⟨w.heap.size, 0, none⟩ = some (.int .i64 m.size) ∧ wq.cell? ⟨w.heap.size, 1, none⟩ = some (.slice a m.doors.length c) ∧ wq.cell? ⟨w.heap.size, 2, none⟩ = some (.slice b m.keys.length d)) (wk5b.alloc (.cells #[.slice (some ⟨wk4a.heap.size, 0, none⟩) n n] 39)) := X_k11b.out.cells
          clear hb_k11b
          refine hKk11b _ _ (fun _ => hSn) ?_
          clear hS
          have hS := hSn
          clear hSn
          try simp only [List.setIfInBounds_toArray, List.set_cons_zero, List.set_cons_succ]
          refine wpAnyL_one (i := 2) (oi := { dst := some 10, op := Go.Op.buildSlice 28 1 #[(0, Go.Operand.tmp 9)], type := 28, pos := "l10_worlds.go:211", after := #[{ on := 1, ground := Go.Ground.data }], guard := none }) (by kernel_rfl) rfl (fun Kk16 hKk16 => ?_)
          go_simp
          have hb_k16 : Below (wk5b.alloc (.cells #[.slice (some ⟨wk4a.heap.size, 0, none⟩) n n] 39)).heap.size (wk5b.alloc (.cells #[.slice (some ⟨wk4a.heap.size, 0, none⟩) n n] 39)) ((wk5b.alloc (.cells #[.slice (some ⟨wk4a.heap.size, 0, none⟩) n n] 39)).alloc (.cells #[.int .i64 m.size, .slice pa m.doors.length pc, .slice pb m.keys.length pd] 55)) := below_alloc _ _
          have HB_k16 := Lib.hid (HB_k11b.out.trans (hb_k16.mono HB_k11b.out.size))
          have X_k16 := Lib.hid (X_k11b.out.below hb_k16)
          have R_k16 := Lib.hid (R_k11b.out.below hb_k16)
          have G2_k16 := Lib.hid (G2_k11b.out.below hb_k16)
          have M_k16 := Lib.hid (M_k11b.out.below hb_k16 mu_k11b)
          have mu_k16 := Nat.le_trans mu_k11b hb_k16.size
          have Z_k16 := Lib.hid (Z_k11b.out.below hb_k16 zu_k11b)
          have zu_k16 := Nat.le_trans zu_k11b hb_k16.size
          have hz_k16 : w.heap.size ≤ wk5b.heap.size + 1 + 1 := by first | exact HB_k16.out.size | simpa only [World.size_alloc] using HB_k16.out.size
          have hy_k16 : wk5b.heap.size + 1 ≤ wk5b.heap.size + 1 + 1 := by first | exact hb_k16.size | simpa only [World.size_alloc] using hb_k16.size
          have G1_k16 := Lib.hid (Box3.new (w := (wk5b.alloc (.cells #[.slice (some ⟨wk4a.heap.size, 0, none⟩) n n] 39))) 55 (.int .i64 m.size) (.slice pa m.doors.length pc) (.slice pb m.keys.length pd) (show wk5b.heap.size + 1 = _ from by first | rfl | (simp only [World.size_alloc]; done)))
          have hSn : (fun (wq : World) => wq.cell? ⟨w.heap.size, 0, none⟩ = some (.int .i64 m.size) ∧ wq.cell? ⟨w.heap.size, 1, none⟩ = some (.slice a m.doors.length c) ∧ wq.cell? ⟨w.heap.size, 2, none⟩ = some (.slice b m.keys.length d)) ((wk5b.alloc (.cells #[.slice (some ⟨wk4a.heap.size, 0, none⟩) n n] 39)).alloc (.cells #[.int .i64 m.size, .slice pa m.doors.length pc, .slice pb m.keys.length pd] 55)) := X_k16.out.cells
          clear hb_k16
          refine hKk16 _ _ (fun _ => hSn) ?_
          clear hS
          have hS := hSn
          clear hSn
          try simp only [List.setIfInBounds_toArray, List.set_cons_zero, List.set_cons_succ]
          refine wpAnyL_take (i := 7) (oi := { dst := some 15, op := Go.Op.build 30 #[(0, Go.Operand.tmp 10), (1, Go.Operand.tmp 14)], type := 30, pos := "l10_worlds.go:211", after := #[{ on := 2, ground := Go.Ground.data }, { on := 6, ground := Go.Ground.data }], guard := none }) (v := ?t17v7) rfl (by kernel_rfl) (by kernel_rfl) (by kernel_rfl) (by kernel_rfl) (fun _ _ _ h => h) (Or.inl ⟨by rfl, ?t17h7⟩) hS ?t17r7
          case t17h7 => (intro wS hSw; (try dsimp only at hSw); go_split_ands; go_simp; try with_reducible rfl)
          try simp only [Act.put, List.setIfInBounds_toArray, List.set_cons_zero, List.set_cons_succ]
          refine wpAnyL_one (i := 8) (oi := { dst := none, op := Go.Op.store 30 (Go.Operand.tmp 2) (Go.Operand.tmp 15), type := 0, pos := "l10_worlds.go:211", after := #[{ on := 7, ground := Go.Ground.data }, { on := 1, ground := Go.Ground.chain }, { on := 0, ground := Go.Ground.phase }, { on := 1, ground := Go.Ground.phase }, { on := 2, ground := Go.Ground.phase }, { on := 3, ground := Go.Ground.phase }, { on := 4, ground := Go.Ground.phase }, { on := 5, ground := Go.Ground.phase }, { on := 6, ground := Go.Ground.phase }, { on := 7, ground := Go.Ground.phase }], guard := none }) (by kernel_rfl) rfl (fun Kk18 hKk18 => ?_)
          obtain ⟨rf0, rf1⟩ := R_k16.out.free
          obtain ⟨rc0, rc1⟩ := R_k16.out.cells
          have hrl := R_k16.out.lt
          have hT : Turned (w.heap.size + 1) (w.heap.size + 1 + 1) ((wk5b.alloc (.cells #[.slice (some ⟨wk4a.heap.size, 0, none⟩) n n] 39)).alloc (.cells #[.int .i64 m.size, .slice pa m.doors.length pc, .slice pb m.keys.length pd] 55)) ((((wk5b.alloc (.cells #[.slice (some ⟨wk4a.heap.size, 0, none⟩) n n] 39)).alloc (.cells #[.int .i64 m.size, .slice pa m.doors.length pc, .slice pb m.keys.length pd] 55)).setCell ⟨w.heap.size + 1, 0, none⟩ (.slice (some ⟨wk5b.heap.size + 1, 0, none⟩) 1 1)).setCell ⟨w.heap.size + 1, 1, none⟩ (.slice (some ⟨wk5b.heap.size, 0, none⟩) 1 1)) := (Turned.setCell _ _ _ _ (by omega) (by omega)).trans (Turned.setCell _ _ _ _ (by omega) (by omega))
          have HT := Lib.hid hT
          have hSn : (fun (wq : World) => wq.cell? ⟨w.heap.size, 0, none⟩ = some (.int .i64 m.size) ∧ wq.cell? ⟨w.heap.size, 1, none⟩ = some (.slice a m.doors.length c) ∧ wq.cell? ⟨w.heap.size, 2, none⟩ = some (.slice b m.keys.length d)) ((((wk5b.alloc (.cells #[.slice (some ⟨wk4a.heap.size, 0, none⟩) n n] 39)).alloc (.cells #[.int .i64 m.size, .slice pa m.doors.length pc, .slice pb m.keys.length pd] 55)).setCell ⟨w.heap.size + 1, 0, none⟩ (.slice (some ⟨wk5b.heap.size + 1, 0, none⟩) 1 1)).setCell ⟨w.heap.size + 1, 1, none⟩ (.slice (some ⟨wk5b.heap.size, 0, none⟩) 1 1)) := (X_k16.out.turned hT (.inl (by omega))).cells
          clear hT
          go_simp
          refine hKk18 _ _ (fun _ => hSn) ?_
          clear hS
          have hS := hSn
          clear hSn
          try simp only [List.setIfInBounds_toArray, List.set_cons_zero, List.set_cons_succ]
          refine wpAnyL_take (i := 9) (oi := { dst := some 3, op := Go.Op.assign (Go.Operand.const (Go.Value.bool true)), type := 4, pos := "l10_worlds.go:211", after := #[{ on := 8, ground := Go.Ground.chain }, { on := 0, ground := Go.Ground.phase }, { on := 1, ground := Go.Ground.phase }, { on := 2, ground := Go.Ground.phase }, { on := 3, ground := Go.Ground.phase }, { on := 4, ground := Go.Ground.phase }, { on := 5, ground := Go.Ground.phase }, { on := 6, ground := Go.Ground.phase }, { on := 7, ground := Go.Ground.phase }, { on := 8, ground := Go.Ground.phase }], guard := none }) (v := ?t19v9) rfl (by kernel_rfl) (by kernel_rfl) (by kernel_rfl) (by kernel_rfl) (fun _ _ _ h => h) (Or.inl ⟨by rfl, ?t19h9⟩) hS ?t19r9
          case t19h9 => (intro wS hSw; (try dsimp only at hSw); go_split_ands; go_simp; try with_reducible rfl)
          try simp only [Act.put, List.setIfInBounds_toArray, List.set_cons_zero, List.set_cons_succ]
          refine wpAnyL_done (by kernel_rfl) ?_ _
          go_wp2_with fail
          refine bodyPost_ret (v := .tuple #[.agg #[(.slice (some ⟨wk5b.heap.size + 1, 0, none⟩) 1 1), (.slice (some ⟨wk5b.heap.size, 0, none⟩) 1 1)], .bool true]) (by simp [results, Try.results46, go_sem, rc0, rc1]) rfl ?_
          have hsT := HT.out.size
          exact alone_end HMB.out HSN.out (M_k16.out.turned HT.out mu_k16 (by omega)) (Z_k16.out.turned HT.out zu_k16 (by omega)) (G1_k16.out.turned HT.out (by omega)) (G2_k16.out.turned HT.out (by omega)) (by omega) (by omega) (Nat.le_trans mu_k16 hsT) (by omega) (Nat.lt_of_lt_of_le (Nat.lt_of_succ_le zu_k16) hsT) (by omega) (by omega) (Below.thenTurned HB_k16.out HT.out (by omega) (by omega))
    · skip
      refine step_make rfl _ _ 39 rfl w1.drew.heap.size 3 i0 (.int .i64 0) 1 Try.underlying39 hi0 hz0 hzz1 .i64 .i64 _ _ n rfl rfl HSN.out HSN.out (by rw [hz2]; omega) (by unfold maxLen; omega) (Nat.le_refl _) ?_
      intro wk4b hown_k4b hgrow_k4b
      rw [made_ints] at hown_k4b
      have hb_k4b : Below w1.drew.heap.size w1.drew wk4b := (Below.refl _ _).grown hgrow_k4b (Nat.le_refl _) (fun k e => by cases e)
      have HB_k4b := Lib.hid (HB3.out.trans (hb_k4b.mono HB3.out.size))
      have X_k4b := Lib.hid (X3.out.below hb_k4b)
      have R_k4b := Lib.hid (R3.out.below hb_k4b)
      have hz_k4b : w.heap.size ≤ wk4b.heap.size := by first | exact HB_k4b.out.size | simpa only [World.size_alloc] using HB_k4b.out.size
      have hy_k4b : w1.heap.size ≤ wk4b.heap.size := by first | exact hb_k4b.size | simpa only [World.size_alloc] using hb_k4b.size
      have Z_k4b := Lib.hid (show OwnAt (w1.heap.size) (w1.heap.size + 1) wk4b 3 (some ⟨w1.heap.size, 0, none⟩) (M.encIs (List.replicate n 0)) from by first | exact made_at hown_k4b | simpa only [World.size_alloc] using made_at hown_k4b)
      have zu_k4b : w1.heap.size + 1 ≤ wk4b.heap.size := by first | exact made_lt hown_k4b | simpa only [World.size_alloc] using made_lt hown_k4b
      have hSn : (fun (wq : World) => wq.cell? ⟨w.heap.size, 0, none⟩ = some (.int .i64 m.size) ∧ wq.cell? ⟨w.heap.size, 1, none⟩ = some (.slice a m.doors.length c) ∧ wq.cell? ⟨w.heap.size, 2, none⟩ = some (.slice b m.keys.length d)) wk4b := X_k4b.out.cells
      clear hown_k4b hgrow_k4b hb_k4b
      refine hKk4b _ _ (fun _ => hSn) ?_
      clear hS
      have hS := hSn
      clear hSn
      try simp only [Act.put, List.setIfInBounds_toArray, List.set_cons_zero, List.set_cons_succ]
      refine wpAnyL_two (i := 1) (j := 6) (oi := { dst := some 9, op := Go.Op.call { callee := Go.Callee.value (Go.Operand.func 87), args := #[Go.Operand.tmp 8], argTypes := #[55] }, type := 55, pos := "l10_worlds.go:211", after := #[{ on := 0, ground := Go.Ground.data }], guard := none }) (oj := { dst := some 14, op := Go.Op.buildSlice 23 1 #[(0, Go.Operand.tmp 13)], type := 23, pos := "l10_worlds.go:211", after := #[{ on := 5, ground := Go.Ground.data }], guard := none }) (by kernel_rfl) rfl rfl (fun Kk20a hKk20a => ?_) (fun Kk20b hKk20b => ?_)
      · skip
        refine step_call (by rfl) 87 #[.agg #[.int .i64 m.size, .slice a m.doors.length c, .slice b m.keys.length d]] (by go_simp; try rfl) (clone_any wk4b lo hi m a b c d (H.out.below HB_k4b.out hz) (Nat.le_trans hz HB_k4b.out.size) _h1 _h2) ?_
        rintro e wk20a ⟨pa, pc, pb, pd, rfl, hmo, hb_k20a⟩
        refine ⟨_, rfl, ?_⟩
        have HB_k20a := Lib.hid (HB_k4b.out.trans (hb_k20a.mono HB_k4b.out.size))
        have X_k20a := Lib.hid (X_k4b.out.below hb_k20a)
        have R_k20a := Lib.hid (R_k4b.out.below hb_k20a)
        have Z_k20a := Lib.hid (Z_k4b.out.below hb_k20a zu_k4b)
        have zu_k20a := Nat.le_trans zu_k4b hb_k20a.size
        have hz_k20a : w.heap.size ≤ wk20a.heap.size := by first | exact HB_k20a.out.size | simpa only [World.size_alloc] using HB_k20a.out.size
        have hy_k20a : wk4b.heap.size ≤ wk20a.heap.size := by first | exact hb_k20a.size | simpa only [World.size_alloc] using hb_k20a.size
        have M_k20a := Lib.hid (show MzOwn (wk4b.heap.size) wk20a.heap.size wk20a m pa pc pb pd from by first | exact hmo | simpa only [World.size_alloc] using hmo)
        have mu_k20a := Nat.le_refl wk20a.heap.size
        have hSn : (fun (wq : World) => wq.cell? ⟨w.heap.size, 0, none⟩ = some (.int .i64 m.size) ∧ wq.cell? ⟨w.heap.size, 1, none⟩ = some (.slice a m.doors.length c) ∧ wq.cell? ⟨w.heap.size, 2, none⟩ = some (.slice b m.keys.length d)) wk20a := X_k20a.out.cells
        clear hmo hb_k20a
        refine hKk20a _ _ (fun _ => hSn) ?_
        clear hS
        have hS := hSn
        clear hSn
        try simp only [Act.put, List.setIfInBounds_toArray, List.set_cons_zero, List.set_cons_succ]
        refine wpAnyL_two (i := 2) (j := 6) (oi := { dst := some 10, op := Go.Op.buildSlice 28 1 #[(0, Go.Operand.tmp 9)], type := 28, pos := "l10_worlds.go:211", after := #[{ on := 1, ground := Go.Ground.data }], guard := none }) (oj := { dst := some 14, op := Go.Op.buildSlice 23 1 #[(0, Go.Operand.tmp 13)], type := 23, pos := "l10_worlds.go:211", after := #[{ on := 5, ground := Go.Ground.data }], guard := none }) (by kernel_rfl) rfl rfl (fun Kk21a hKk21a => ?_) (fun Kk21b hKk21b => ?_)
        · skip
          go_simp
          have hb_k21a : Below wk20a.heap.size wk20a (wk20a.alloc (.cells #[.int .i64 m.size, .slice pa m.doors.length pc, .slice pb m.keys.length pd] 55)) := below_alloc _ _
          have HB_k21a := Lib.hid (HB_k20a.out.trans (hb_k21a.mono HB_k20a.out.size))
          have X_k21a := Lib.hid (X_k20a.out.below hb_k21a)
          have R_k21a := Lib.hid (R_k20a.out.below hb_k21a)
          have M_k21a := Lib.hid (M_k20a.out.below hb_k21a mu_k20a)
          have mu_k21a := Nat.le_trans mu_k20a hb_k21a.size
          have Z_k21a := Lib.hid (Z_k20a.out.below hb_k21a zu_k20a)
          have zu_k21a := Nat.le_trans zu_k20a hb_k21a.size
          have hz_k21a : w.heap.size ≤ wk20a.heap.size + 1 := by first | exact HB_k21a.out.size | simpa only [World.size_alloc] using HB_k21a.out.size
          have hy_k21a : wk20a.heap.size ≤ wk20a.heap.size + 1 := by first | exact hb_k21a.size | simpa only [World.size_alloc] using hb_k21a.size
          have G1_k21a := Lib.hid (Box3.new (w := wk20a) 55 (.int .i64 m.size) (.slice pa m.doors.length pc) (.slice pb m.keys.length pd) (show wk20a.heap.size = _ from by first | rfl | (simp only [World.size_alloc]; done)))
          have hSn : (fun (wq : World) => wq.cell? ⟨w.heap.size, 0, none⟩ = some (.int .i64 m.size) ∧ wq.cell? ⟨w.heap.size, 1, none⟩ = some (.slice a m.doors.length c) ∧ wq.cell? ⟨w.heap.size, 2, none⟩ = some (.slice b m.keys.length d)) (wk20a.alloc (.cells #[.int .i64 m.size, .slice pa m.doors.length pc, .slice pb m.keys.length pd] 55)) := X_k21a.out.cells
          clear hb_k21a
          refine hKk21a _ _ (fun _ => hSn) ?_
          clear hS
          have hS := hSn
          clear hSn
          try simp only [List.setIfInBounds_toArray, List.set_cons_zero, List.set_cons_succ]
          refine wpAnyL_one (i := 6) (oi := { dst := some 14, op := Go.Op.buildSlice 23 1 #[(0, Go.Operand.tmp 13)], type := 23, pos := "l10_worlds.go:211", after := #[{ on := 5, ground := Go.Ground.data }], guard := none }) (by kernel_rfl) rfl (fun Kk22 hKk22 => ?_)
          go_simp
          have hb_k22 : Below (wk20a.alloc (.cells #[.int .i64 m.size, .slice pa m.doors.length pc, .slice pb m.keys.length pd] 55)).heap.size (wk20a.alloc (.cells #[.int .i64 m.size, .slice pa m.doors.length pc, .slice pb m.keys.length pd] 55)) ((wk20a.alloc (.cells #[.int .i64 m.size, .slice pa m.doors.length pc, .slice pb m.keys.length pd] 55)).alloc (.cells #[.slice (some ⟨w1.heap.size, 0, none⟩) n n] 39)) := below_alloc _ _
          have HB_k22 := Lib.hid (HB_k21a.out.trans (hb_k22.mono HB_k21a.out.size))
          have X_k22 := Lib.hid (X_k21a.out.below hb_k22)
          have R_k22 := Lib.hid (R_k21a.out.below hb_k22)
          have G1_k22 := Lib.hid (G1_k21a.out.below hb_k22)
          have M_k22 := Lib.hid (M_k21a.out.below hb_k22 mu_k21a)
          have mu_k22 := Nat.le_trans mu_k21a hb_k22.size
          have Z_k22 := Lib.hid (Z_k21a.out.below hb_k22 zu_k21a)
          have zu_k22 := Nat.le_trans zu_k21a hb_k22.size
          have hz_k22 : w.heap.size ≤ wk20a.heap.size + 1 + 1 := by first | exact HB_k22.out.size | simpa only [World.size_alloc] using HB_k22.out.size
          have hy_k22 : wk20a.heap.size + 1 ≤ wk20a.heap.size + 1 + 1 := by first | exact hb_k22.size | simpa only [World.size_alloc] using hb_k22.size
          have G2_k22 := Lib.hid (Box1w.new (w := (wk20a.alloc (.cells #[.int .i64 m.size, .slice pa m.doors.length pc, .slice pb m.keys.length pd] 55))) 39 (.slice (some ⟨w1.heap.size, 0, none⟩) n n) (show wk20a.heap.size + 1 = _ from by first | rfl | (simp only [World.size_alloc]; done)))
          have hSn : (fun (wq : World) => wq.cell? ⟨w.heap.size, 0, none⟩ = some (.int .i64 m.size) ∧ wq.cell? ⟨w.heap.size, 1, none⟩ = some (.slice a m.doors.length c) ∧ wq.cell? ⟨w.heap.size, 2, none⟩ = some (.slice b m.keys.length d)) ((wk20a.alloc (.cells #[.int .i64 m.size, .slice pa m.doors.length pc, .slice pb m.keys.length pd] 55)).alloc (.cells #[.slice (some ⟨w1.heap.size, 0, none⟩) n n] 39)) := X_k22.out.cells
          clear hb_k22
          refine hKk22 _ _ (fun _ => hSn) ?_
          clear hS
          have hS := hSn
          clear hSn
          try simp only [List.setIfInBounds_toArray, List.set_cons_zero, List.set_cons_succ]
          refine wpAnyL_take (i := 7) (oi := { dst := some 15, op := Go.Op.build 30 #[(0, Go.Operand.tmp 10), (1, Go.Operand.tmp 14)], type := 30, pos := "l10_worlds.go:211", after := #[{ on := 2, ground := Go.Ground.data }, { on := 6, ground := Go.Ground.data }], guard := none }) (v := ?t23v7) rfl (by kernel_rfl) (by kernel_rfl) (by kernel_rfl) (by kernel_rfl) (fun _ _ _ h => h) (Or.inl ⟨by rfl, ?t23h7⟩) hS ?t23r7
          case t23h7 => (intro wS hSw; (try dsimp only at hSw); go_split_ands; go_simp; try with_reducible rfl)
          try simp only [Act.put, List.setIfInBounds_toArray, List.set_cons_zero, List.set_cons_succ]
          refine wpAnyL_one (i := 8) (oi := { dst := none, op := Go.Op.store 30 (Go.Operand.tmp 2) (Go.Operand.tmp 15), type := 0, pos := "l10_worlds.go:211", after := #[{ on := 7, ground := Go.Ground.data }, { on := 1, ground := Go.Ground.chain }, { on := 0, ground := Go.Ground.phase }, { on := 1, ground := Go.Ground.phase }, { on := 2, ground := Go.Ground.phase }, { on := 3, ground := Go.Ground.phase }, { on := 4, ground := Go.Ground.phase }, { on := 5, ground := Go.Ground.phase }, { on := 6, ground := Go.Ground.phase }, { on := 7, ground := Go.Ground.phase }], guard := none }) (by kernel_rfl) rfl (fun Kk24 hKk24 => ?_)
          obtain ⟨rf0, rf1⟩ := R_k22.out.free
          obtain ⟨rc0, rc1⟩ := R_k22.out.cells
          have hrl := R_k22.out.lt
          have hT : Turned (w.heap.size + 1) (w.heap.size + 1 + 1) ((wk20a.alloc (.cells #[.int .i64 m.size, .slice pa m.doors.length pc, .slice pb m.keys.length pd] 55)).alloc (.cells #[.slice (some ⟨w1.heap.size, 0, none⟩) n n] 39)) ((((wk20a.alloc (.cells #[.int .i64 m.size, .slice pa m.doors.length pc, .slice pb m.keys.length pd] 55)).alloc (.cells #[.slice (some ⟨w1.heap.size, 0, none⟩) n n] 39)).setCell ⟨w.heap.size + 1, 0, none⟩ (.slice (some ⟨wk20a.heap.size, 0, none⟩) 1 1)).setCell ⟨w.heap.size + 1, 1, none⟩ (.slice (some ⟨wk20a.heap.size + 1, 0, none⟩) 1 1)) := (Turned.setCell _ _ _ _ (by omega) (by omega)).trans (Turned.setCell _ _ _ _ (by omega) (by omega))
          have HT := Lib.hid hT
          have hSn : (fun (wq : World) => wq.cell? ⟨w.heap.size, 0, none⟩ = some (.int .i64 m.size) ∧ wq.cell? ⟨w.heap.size, 1, none⟩ = some (.slice a m.doors.length c) ∧ wq.cell? ⟨w.heap.size, 2, none⟩ = some (.slice b m.keys.length d)) ((((wk20a.alloc (.cells #[.int .i64 m.size, .slice pa m.doors.length pc, .slice pb m.keys.length pd] 55)).alloc (.cells #[.slice (some ⟨w1.heap.size, 0, none⟩) n n] 39)).setCell ⟨w.heap.size + 1, 0, none⟩ (.slice (some ⟨wk20a.heap.size, 0, none⟩) 1 1)).setCell ⟨w.heap.size + 1, 1, none⟩ (.slice (some ⟨wk20a.heap.size + 1, 0, none⟩) 1 1)) := (X_k22.out.turned hT (.inl (by omega))).cells
          clear hT
          go_simp
          refine hKk24 _ _ (fun _ => hSn) ?_
          clear hS
          have hS := hSn
          clear hSn
          try simp only [List.setIfInBounds_toArray, List.set_cons_zero, List.set_cons_succ]
          refine wpAnyL_take (i := 9) (oi := { dst := some 3, op := Go.Op.assign (Go.Operand.const (Go.Value.bool true)), type := 4, pos := "l10_worlds.go:211", after := #[{ on := 8, ground := Go.Ground.chain }, { on := 0, ground := Go.Ground.phase }, { on := 1, ground := Go.Ground.phase }, { on := 2, ground := Go.Ground.phase }, { on := 3, ground := Go.Ground.phase }, { on := 4, ground := Go.Ground.phase }, { on := 5, ground := Go.Ground.phase }, { on := 6, ground := Go.Ground.phase }, { on := 7, ground := Go.Ground.phase }, { on := 8, ground := Go.Ground.phase }], guard := none }) (v := ?t25v9) rfl (by kernel_rfl) (by kernel_rfl) (by kernel_rfl) (by kernel_rfl) (fun _ _ _ h => h) (Or.inl ⟨by rfl, ?t25h9⟩) hS ?t25r9
          case t25h9 => (intro wS hSw; (try dsimp only at hSw); go_split_ands; go_simp; try with_reducible rfl)
          try simp only [Act.put, List.setIfInBounds_toArray, List.set_cons_zero, List.set_cons_succ]
          refine wpAnyL_done (by kernel_rfl) ?_ _
          go_wp2_with fail
          refine bodyPost_ret (v := .tuple #[.agg #[(.slice (some ⟨wk20a.heap.size, 0, none⟩) 1 1), (.slice (some ⟨wk20a.heap.size + 1, 0, none⟩) 1 1)], .bool true]) (by simp [results, Try.results46, go_sem, rc0, rc1]) rfl ?_
          have hsT := HT.out.size
          exact alone_end HMB.out HSN.out (M_k22.out.turned HT.out mu_k22 (by omega)) (Z_k22.out.turned HT.out zu_k22 (by omega)) (G1_k22.out.turned HT.out (by omega)) (G2_k22.out.turned HT.out (by omega)) (by omega) (by omega) (Nat.le_trans mu_k22 hsT) (by omega) (Nat.lt_of_lt_of_le (Nat.lt_of_succ_le zu_k22) hsT) (by omega) (by omega) (Below.thenTurned HB_k22.out HT.out (by omega) (by omega))
        · skip
          go_simp
          have hb_k21b : Below wk20a.heap.size wk20a (wk20a.alloc (.cells #[.slice (some ⟨w1.heap.size, 0, none⟩) n n] 39)) := below_alloc _ _
          have HB_k21b := Lib.hid (HB_k20a.out.trans (hb_k21b.mono HB_k20a.out.size))
          have X_k21b := Lib.hid (X_k20a.out.below hb_k21b)
          have R_k21b := Lib.hid (R_k20a.out.below hb_k21b)
          have M_k21b := Lib.hid (M_k20a.out.below hb_k21b mu_k20a)
          have mu_k21b := Nat.le_trans mu_k20a hb_k21b.size
          have Z_k21b := Lib.hid (Z_k20a.out.below hb_k21b zu_k20a)
          have zu_k21b := Nat.le_trans zu_k20a hb_k21b.size
          have hz_k21b : w.heap.size ≤ wk20a.heap.size + 1 := by first | exact HB_k21b.out.size | simpa only [World.size_alloc] using HB_k21b.out.size
          have hy_k21b : wk20a.heap.size ≤ wk20a.heap.size + 1 := by first | exact hb_k21b.size | simpa only [World.size_alloc] using hb_k21b.size
          have G2_k21b := Lib.hid (Box1w.new (w := wk20a) 39 (.slice (some ⟨w1.heap.size, 0, none⟩) n n) (show wk20a.heap.size = _ from by first | rfl | (simp only [World.size_alloc]; done)))
          have hSn : (fun (wq : World) => wq.cell? ⟨w.heap.size, 0, none⟩ = some (.int .i64 m.size) ∧ wq.cell? ⟨w.heap.size, 1, none⟩ = some (.slice a m.doors.length c) ∧ wq.cell? ⟨w.heap.size, 2, none⟩ = some (.slice b m.keys.length d)) (wk20a.alloc (.cells #[.slice (some ⟨w1.heap.size, 0, none⟩) n n] 39)) := X_k21b.out.cells
          clear hb_k21b
          refine hKk21b _ _ (fun _ => hSn) ?_
          clear hS
          have hS := hSn
          clear hSn
          try simp only [List.setIfInBounds_toArray, List.set_cons_zero, List.set_cons_succ]
          refine wpAnyL_one (i := 2) (oi := { dst := some 10, op := Go.Op.buildSlice 28 1 #[(0, Go.Operand.tmp 9)], type := 28, pos := "l10_worlds.go:211", after := #[{ on := 1, ground := Go.Ground.data }], guard := none }) (by kernel_rfl) rfl (fun Kk26 hKk26 => ?_)
          go_simp
          have hb_k26 : Below (wk20a.alloc (.cells #[.slice (some ⟨w1.heap.size, 0, none⟩) n n] 39)).heap.size (wk20a.alloc (.cells #[.slice (some ⟨w1.heap.size, 0, none⟩) n n] 39)) ((wk20a.alloc (.cells #[.slice (some ⟨w1.heap.size, 0, none⟩) n n] 39)).alloc (.cells #[.int .i64 m.size, .slice pa m.doors.length pc, .slice pb m.keys.length pd] 55)) := below_alloc _ _
          have HB_k26 := Lib.hid (HB_k21b.out.trans (hb_k26.mono HB_k21b.out.size))
          have X_k26 := Lib.hid (X_k21b.out.below hb_k26)
          have R_k26 := Lib.hid (R_k21b.out.below hb_k26)
          have G2_k26 := Lib.hid (G2_k21b.out.below hb_k26)
          have M_k26 := Lib.hid (M_k21b.out.below hb_k26 mu_k21b)
          have mu_k26 := Nat.le_trans mu_k21b hb_k26.size
          have Z_k26 := Lib.hid (Z_k21b.out.below hb_k26 zu_k21b)
          have zu_k26 := Nat.le_trans zu_k21b hb_k26.size
          have hz_k26 : w.heap.size ≤ wk20a.heap.size + 1 + 1 := by first | exact HB_k26.out.size | simpa only [World.size_alloc] using HB_k26.out.size
          have hy_k26 : wk20a.heap.size + 1 ≤ wk20a.heap.size + 1 + 1 := by first | exact hb_k26.size | simpa only [World.size_alloc] using hb_k26.size
          have G1_k26 := Lib.hid (Box3.new (w := (wk20a.alloc (.cells #[.slice (some ⟨w1.heap.size, 0, none⟩) n n] 39))) 55 (.int .i64 m.size) (.slice pa m.doors.length pc) (.slice pb m.keys.length pd) (show wk20a.heap.size + 1 = _ from by first | rfl | (simp only [World.size_alloc]; done)))
          have hSn : (fun (wq : World) => wq.cell? ⟨w.heap.size, 0, none⟩ = some (.int .i64 m.size) ∧ wq.cell? ⟨w.heap.size, 1, none⟩ = some (.slice a m.doors.length c) ∧ wq.cell? ⟨w.heap.size, 2, none⟩ = some (.slice b m.keys.length d)) ((wk20a.alloc (.cells #[.slice (some ⟨w1.heap.size, 0, none⟩) n n] 39)).alloc (.cells #[.int .i64 m.size, .slice pa m.doors.length pc, .slice pb m.keys.length pd] 55)) := X_k26.out.cells
          clear hb_k26
          refine hKk26 _ _ (fun _ => hSn) ?_
          clear hS
          have hS := hSn
          clear hSn
          try simp only [List.setIfInBounds_toArray, List.set_cons_zero, List.set_cons_succ]
          refine wpAnyL_take (i := 7) (oi := { dst := some 15, op := Go.Op.build 30 #[(0, Go.Operand.tmp 10), (1, Go.Operand.tmp 14)], type := 30, pos := "l10_worlds.go:211", after := #[{ on := 2, ground := Go.Ground.data }, { on := 6, ground := Go.Ground.data }], guard := none }) (v := ?t27v7) rfl (by kernel_rfl) (by kernel_rfl) (by kernel_rfl) (by kernel_rfl) (fun _ _ _ h => h) (Or.inl ⟨by rfl, ?t27h7⟩) hS ?t27r7
          case t27h7 => (intro wS hSw; (try dsimp only at hSw); go_split_ands; go_simp; try with_reducible rfl)
          try simp only [Act.put, List.setIfInBounds_toArray, List.set_cons_zero, List.set_cons_succ]
          refine wpAnyL_one (i := 8) (oi := { dst := none, op := Go.Op.store 30 (Go.Operand.tmp 2) (Go.Operand.tmp 15), type := 0, pos := "l10_worlds.go:211", after := #[{ on := 7, ground := Go.Ground.data }, { on := 1, ground := Go.Ground.chain }, { on := 0, ground := Go.Ground.phase }, { on := 1, ground := Go.Ground.phase }, { on := 2, ground := Go.Ground.phase }, { on := 3, ground := Go.Ground.phase }, { on := 4, ground := Go.Ground.phase }, { on := 5, ground := Go.Ground.phase }, { on := 6, ground := Go.Ground.phase }, { on := 7, ground := Go.Ground.phase }], guard := none }) (by kernel_rfl) rfl (fun Kk28 hKk28 => ?_)
          obtain ⟨rf0, rf1⟩ := R_k26.out.free
          obtain ⟨rc0, rc1⟩ := R_k26.out.cells
          have hrl := R_k26.out.lt
          have hT : Turned (w.heap.size + 1) (w.heap.size + 1 + 1) ((wk20a.alloc (.cells #[.slice (some ⟨w1.heap.size, 0, none⟩) n n] 39)).alloc (.cells #[.int .i64 m.size, .slice pa m.doors.length pc, .slice pb m.keys.length pd] 55)) ((((wk20a.alloc (.cells #[.slice (some ⟨w1.heap.size, 0, none⟩) n n] 39)).alloc (.cells #[.int .i64 m.size, .slice pa m.doors.length pc, .slice pb m.keys.length pd] 55)).setCell ⟨w.heap.size + 1, 0, none⟩ (.slice (some ⟨wk20a.heap.size + 1, 0, none⟩) 1 1)).setCell ⟨w.heap.size + 1, 1, none⟩ (.slice (some ⟨wk20a.heap.size, 0, none⟩) 1 1)) := (Turned.setCell _ _ _ _ (by omega) (by omega)).trans (Turned.setCell _ _ _ _ (by omega) (by omega))
          have HT := Lib.hid hT
          have hSn : (fun (wq : World) => wq.cell? ⟨w.heap.size, 0, none⟩ = some (.int .i64 m.size) ∧ wq.cell? ⟨w.heap.size, 1, none⟩ = some (.slice a m.doors.length c) ∧ wq.cell? ⟨w.heap.size, 2, none⟩ = some (.slice b m.keys.length d)) ((((wk20a.alloc (.cells #[.slice (some ⟨w1.heap.size, 0, none⟩) n n] 39)).alloc (.cells #[.int .i64 m.size, .slice pa m.doors.length pc, .slice pb m.keys.length pd] 55)).setCell ⟨w.heap.size + 1, 0, none⟩ (.slice (some ⟨wk20a.heap.size + 1, 0, none⟩) 1 1)).setCell ⟨w.heap.size + 1, 1, none⟩ (.slice (some ⟨wk20a.heap.size, 0, none⟩) 1 1)) := (X_k26.out.turned hT (.inl (by omega))).cells
          clear hT
          go_simp
          refine hKk28 _ _ (fun _ => hSn) ?_
          clear hS
          have hS := hSn
          clear hSn
          try simp only [List.setIfInBounds_toArray, List.set_cons_zero, List.set_cons_succ]
          refine wpAnyL_take (i := 9) (oi := { dst := some 3, op := Go.Op.assign (Go.Operand.const (Go.Value.bool true)), type := 4, pos := "l10_worlds.go:211", after := #[{ on := 8, ground := Go.Ground.chain }, { on := 0, ground := Go.Ground.phase }, { on := 1, ground := Go.Ground.phase }, { on := 2, ground := Go.Ground.phase }, { on := 3, ground := Go.Ground.phase }, { on := 4, ground := Go.Ground.phase }, { on := 5, ground := Go.Ground.phase }, { on := 6, ground := Go.Ground.phase }, { on := 7, ground := Go.Ground.phase }, { on := 8, ground := Go.Ground.phase }], guard := none }) (v := ?t29v9) rfl (by kernel_rfl) (by kernel_rfl) (by kernel_rfl) (by kernel_rfl) (fun _ _ _ h => h) (Or.inl ⟨by rfl, ?t29h9⟩) hS ?t29r9
          case t29h9 => (intro wS hSw; (try dsimp only at hSw); go_split_ands; go_simp; try with_reducible rfl)
          try simp only [Act.put, List.setIfInBounds_toArray, List.set_cons_zero, List.set_cons_succ]
          refine wpAnyL_done (by kernel_rfl) ?_ _
          go_wp2_with fail
          refine bodyPost_ret (v := .tuple #[.agg #[(.slice (some ⟨wk20a.heap.size + 1, 0, none⟩) 1 1), (.slice (some ⟨wk20a.heap.size, 0, none⟩) 1 1)], .bool true]) (by simp [results, Try.results46, go_sem, rc0, rc1]) rfl ?_
          have hsT := HT.out.size
          exact alone_end HMB.out HSN.out (M_k26.out.turned HT.out mu_k26 (by omega)) (Z_k26.out.turned HT.out zu_k26 (by omega)) (G1_k26.out.turned HT.out (by omega)) (G2_k26.out.turned HT.out (by omega)) (by omega) (by omega) (Nat.le_trans mu_k26 hsT) (by omega) (Nat.lt_of_lt_of_le (Nat.lt_of_succ_le zu_k26) hsT) (by omega) (by omega) (Below.thenTurned HB_k26.out HT.out (by omega) (by omega))
      · skip
        go_simp
        have hb_k20b : Below wk4b.heap.size wk4b (wk4b.alloc (.cells #[.slice (some ⟨w1.heap.size, 0, none⟩) n n] 39)) := below_alloc _ _
        have HB_k20b := Lib.hid (HB_k4b.out.trans (hb_k20b.mono HB_k4b.out.size))
        have X_k20b := Lib.hid (X_k4b.out.below hb_k20b)
        have R_k20b := Lib.hid (R_k4b.out.below hb_k20b)
        have Z_k20b := Lib.hid (Z_k4b.out.below hb_k20b zu_k4b)
        have zu_k20b := Nat.le_trans zu_k4b hb_k20b.size
        have hz_k20b : w.heap.size ≤ wk4b.heap.size + 1 := by first | exact HB_k20b.out.size | simpa only [World.size_alloc] using HB_k20b.out.size
        have hy_k20b : wk4b.heap.size ≤ wk4b.heap.size + 1 := by first | exact hb_k20b.size | simpa only [World.size_alloc] using hb_k20b.size
        have G2_k20b := Lib.hid (Box1w.new (w := wk4b) 39 (.slice (some ⟨w1.heap.size, 0, none⟩) n n) (show wk4b.heap.size = _ from by first | rfl | (simp only [World.size_alloc]; done)))
        have hSn : (fun (wq : World) => wq.cell? ⟨w.heap.size, 0, none⟩ = some (.int .i64 m.size) ∧ wq.cell? ⟨w.heap.size, 1, none⟩ = some (.slice a m.doors.length c) ∧ wq.cell? ⟨w.heap.size, 2, none⟩ = some (.slice b m.keys.length d)) (wk4b.alloc (.cells #[.slice (some ⟨w1.heap.size, 0, none⟩) n n] 39)) := X_k20b.out.cells
        clear hb_k20b
        refine hKk20b _ _ (fun _ => hSn) ?_
        clear hS
        have hS := hSn
        clear hSn
        try simp only [List.setIfInBounds_toArray, List.set_cons_zero, List.set_cons_succ]
        refine wpAnyL_one (i := 1) (oi := { dst := some 9, op := Go.Op.call { callee := Go.Callee.value (Go.Operand.func 87), args := #[Go.Operand.tmp 8], argTypes := #[55] }, type := 55, pos := "l10_worlds.go:211", after := #[{ on := 0, ground := Go.Ground.data }], guard := none }) (by kernel_rfl) rfl (fun Kk30 hKk30 => ?_)
        refine step_call (by rfl) 87 #[.agg #[.int .i64 m.size, .slice a m.doors.length c, .slice b m.keys.length d]] (by go_simp; try rfl) (clone_any (wk4b.alloc (.cells #[.slice (some ⟨w1.heap.size, 0, none⟩) n n] 39)) lo hi m a b c d (H.out.below HB_k20b.out hz) (Nat.le_trans hz HB_k20b.out.size) _h1 _h2) ?_
        rintro e wk30 ⟨pa, pc, pb, pd, rfl, hmo, hb_k30⟩
        refine ⟨_, rfl, ?_⟩
        have HB_k30 := Lib.hid (HB_k20b.out.trans (hb_k30.mono HB_k20b.out.size))
        have X_k30 := Lib.hid (X_k20b.out.below hb_k30)
        have R_k30 := Lib.hid (R_k20b.out.below hb_k30)
        have G2_k30 := Lib.hid (G2_k20b.out.below hb_k30)
        have Z_k30 := Lib.hid (Z_k20b.out.below hb_k30 zu_k20b)
        have zu_k30 := Nat.le_trans zu_k20b hb_k30.size
        have hz_k30 : w.heap.size ≤ wk30.heap.size := by first | exact HB_k30.out.size | simpa only [World.size_alloc] using HB_k30.out.size
        have hy_k30 : wk4b.heap.size + 1 ≤ wk30.heap.size := by first | exact hb_k30.size | simpa only [World.size_alloc] using hb_k30.size
        have M_k30 := Lib.hid (show MzOwn (wk4b.heap.size + 1) wk30.heap.size wk30 m pa pc pb pd from by first | exact hmo | simpa only [World.size_alloc] using hmo)
        have mu_k30 := Nat.le_refl wk30.heap.size
        have hSn : (fun (wq : World) => wq.cell? ⟨w.heap.size, 0, none⟩ = some (.int .i64 m.size) ∧ wq.cell? ⟨w.heap.size, 1, none⟩ = some (.slice a m.doors.length c) ∧ wq.cell? ⟨w.heap.size, 2, none⟩ = some (.slice b m.keys.length d)) wk30 := X_k30.out.cells
        clear hmo hb_k30
        refine hKk30 _ _ (fun _ => hSn) ?_
        clear hS
        have hS := hSn
        clear hSn
        try simp only [Act.put, List.setIfInBounds_toArray, List.set_cons_zero, List.set_cons_succ]
        refine wpAnyL_one (i := 2) (oi := { dst := some 10, op := Go.Op.buildSlice 28 1 #[(0, Go.Operand.tmp 9)], type := 28, pos := "l10_worlds.go:211", after := #[{ on := 1, ground := Go.Ground.data }], guard := none }) (by kernel_rfl) rfl (fun Kk31 hKk31 => ?_)
        go_simp
        have hb_k31 : Below wk30.heap.size wk30 (wk30.alloc (.cells #[.int .i64 m.size, .slice pa m.doors.length pc, .slice pb m.keys.length pd] 55)) := below_alloc _ _
        have HB_k31 := Lib.hid (HB_k30.out.trans (hb_k31.mono HB_k30.out.size))
        have X_k31 := Lib.hid (X_k30.out.below hb_k31)
        have R_k31 := Lib.hid (R_k30.out.below hb_k31)
        have G2_k31 := Lib.hid (G2_k30.out.below hb_k31)
        have M_k31 := Lib.hid (M_k30.out.below hb_k31 mu_k30)
        have mu_k31 := Nat.le_trans mu_k30 hb_k31.size
        have Z_k31 := Lib.hid (Z_k30.out.below hb_k31 zu_k30)
        have zu_k31 := Nat.le_trans zu_k30 hb_k31.size
        have hz_k31 : w.heap.size ≤ wk30.heap.size + 1 := by first | exact HB_k31.out.size | simpa only [World.size_alloc] using HB_k31.out.size
        have hy_k31 : wk30.heap.size ≤ wk30.heap.size + 1 := by first | exact hb_k31.size | simpa only [World.size_alloc] using hb_k31.size
        have G1_k31 := Lib.hid (Box3.new (w := wk30) 55 (.int .i64 m.size) (.slice pa m.doors.length pc) (.slice pb m.keys.length pd) (show wk30.heap.size = _ from by first | rfl | (simp only [World.size_alloc]; done)))
        have hSn : (fun (wq : World) => wq.cell? ⟨w.heap.size, 0, none⟩ = some (.int .i64 m.size) ∧ wq.cell? ⟨w.heap.size, 1, none⟩ = some (.slice a m.doors.length c) ∧ wq.cell? ⟨w.heap.size, 2, none⟩ = some (.slice b m.keys.length d)) (wk30.alloc (.cells #[.int .i64 m.size, .slice pa m.doors.length pc, .slice pb m.keys.length pd] 55)) := X_k31.out.cells
        clear hb_k31
        refine hKk31 _ _ (fun _ => hSn) ?_
        clear hS
        have hS := hSn
        clear hSn
        try simp only [List.setIfInBounds_toArray, List.set_cons_zero, List.set_cons_succ]
        refine wpAnyL_take (i := 7) (oi := { dst := some 15, op := Go.Op.build 30 #[(0, Go.Operand.tmp 10), (1, Go.Operand.tmp 14)], type := 30, pos := "l10_worlds.go:211", after := #[{ on := 2, ground := Go.Ground.data }, { on := 6, ground := Go.Ground.data }], guard := none }) (v := ?t32v7) rfl (by kernel_rfl) (by kernel_rfl) (by kernel_rfl) (by kernel_rfl) (fun _ _ _ h => h) (Or.inl ⟨by rfl, ?t32h7⟩) hS ?t32r7
        case t32h7 => (intro wS hSw; (try dsimp only at hSw); go_split_ands; go_simp; try with_reducible rfl)
        try simp only [Act.put, List.setIfInBounds_toArray, List.set_cons_zero, List.set_cons_succ]
        refine wpAnyL_one (i := 8) (oi := { dst := none, op := Go.Op.store 30 (Go.Operand.tmp 2) (Go.Operand.tmp 15), type := 0, pos := "l10_worlds.go:211", after := #[{ on := 7, ground := Go.Ground.data }, { on := 1, ground := Go.Ground.chain }, { on := 0, ground := Go.Ground.phase }, { on := 1, ground := Go.Ground.phase }, { on := 2, ground := Go.Ground.phase }, { on := 3, ground := Go.Ground.phase }, { on := 4, ground := Go.Ground.phase }, { on := 5, ground := Go.Ground.phase }, { on := 6, ground := Go.Ground.phase }, { on := 7, ground := Go.Ground.phase }], guard := none }) (by kernel_rfl) rfl (fun Kk33 hKk33 => ?_)
        obtain ⟨rf0, rf1⟩ := R_k31.out.free
        obtain ⟨rc0, rc1⟩ := R_k31.out.cells
        have hrl := R_k31.out.lt
        have hT : Turned (w.heap.size + 1) (w.heap.size + 1 + 1) (wk30.alloc (.cells #[.int .i64 m.size, .slice pa m.doors.length pc, .slice pb m.keys.length pd] 55)) (((wk30.alloc (.cells #[.int .i64 m.size, .slice pa m.doors.length pc, .slice pb m.keys.length pd] 55)).setCell ⟨w.heap.size + 1, 0, none⟩ (.slice (some ⟨wk30.heap.size, 0, none⟩) 1 1)).setCell ⟨w.heap.size + 1, 1, none⟩ (.slice (some ⟨wk4b.heap.size, 0, none⟩) 1 1)) := (Turned.setCell _ _ _ _ (by omega) (by omega)).trans (Turned.setCell _ _ _ _ (by omega) (by omega))
        have HT := Lib.hid hT
        have hSn : (fun (wq : World) => wq.cell? ⟨w.heap.size, 0, none⟩ = some (.int .i64 m.size) ∧ wq.cell? ⟨w.heap.size, 1, none⟩ = some (.slice a m.doors.length c) ∧ wq.cell? ⟨w.heap.size, 2, none⟩ = some (.slice b m.keys.length d)) (((wk30.alloc (.cells #[.int .i64 m.size, .slice pa m.doors.length pc, .slice pb m.keys.length pd] 55)).setCell ⟨w.heap.size + 1, 0, none⟩ (.slice (some ⟨wk30.heap.size, 0, none⟩) 1 1)).setCell ⟨w.heap.size + 1, 1, none⟩ (.slice (some ⟨wk4b.heap.size, 0, none⟩) 1 1)) := (X_k31.out.turned hT (.inl (by omega))).cells
        clear hT
        go_simp
        refine hKk33 _ _ (fun _ => hSn) ?_
        clear hS
        have hS := hSn
        clear hSn
        try simp only [List.setIfInBounds_toArray, List.set_cons_zero, List.set_cons_succ]
        refine wpAnyL_take (i := 9) (oi := { dst := some 3, op := Go.Op.assign (Go.Operand.const (Go.Value.bool true)), type := 4, pos := "l10_worlds.go:211", after := #[{ on := 8, ground := Go.Ground.chain }, { on := 0, ground := Go.Ground.phase }, { on := 1, ground := Go.Ground.phase }, { on := 2, ground := Go.Ground.phase }, { on := 3, ground := Go.Ground.phase }, { on := 4, ground := Go.Ground.phase }, { on := 5, ground := Go.Ground.phase }, { on := 6, ground := Go.Ground.phase }, { on := 7, ground := Go.Ground.phase }, { on := 8, ground := Go.Ground.phase }], guard := none }) (v := ?t34v9) rfl (by kernel_rfl) (by kernel_rfl) (by kernel_rfl) (by kernel_rfl) (fun _ _ _ h => h) (Or.inl ⟨by rfl, ?t34h9⟩) hS ?t34r9
        case t34h9 => (intro wS hSw; (try dsimp only at hSw); go_split_ands; go_simp; try with_reducible rfl)
        try simp only [Act.put, List.setIfInBounds_toArray, List.set_cons_zero, List.set_cons_succ]
        refine wpAnyL_done (by kernel_rfl) ?_ _
        go_wp2_with fail
        refine bodyPost_ret (v := .tuple #[.agg #[(.slice (some ⟨wk30.heap.size, 0, none⟩) 1 1), (.slice (some ⟨wk4b.heap.size, 0, none⟩) 1 1)], .bool true]) (by simp [results, Try.results46, go_sem, rc0, rc1]) rfl ?_
        have hsT := HT.out.size
        exact alone_end HMB.out HSN.out (M_k31.out.turned HT.out mu_k31 (by omega)) (Z_k31.out.turned HT.out zu_k31 (by omega)) (G1_k31.out.turned HT.out (by omega)) (G2_k31.out.turned HT.out (by omega)) (by omega) (by omega) (Nat.le_trans mu_k31 hsT) (by omega) (Nat.lt_of_lt_of_le (Nat.lt_of_succ_le zu_k31) hsT) (by omega) (by omega) (Below.thenTurned HB_k31.out HT.out (by omega) (by omega))
end C
end Go.Proofs.Ytbcobheiofajeaa
