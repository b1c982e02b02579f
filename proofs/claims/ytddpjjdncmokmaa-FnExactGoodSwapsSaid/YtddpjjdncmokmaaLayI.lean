/-
  CONTRACT of the program's LayKeys. No condition but that the maze and the list read so.
-/
import Derived.Test.YtddpjjdncmokmaaLayM
import Derived.Test.YtddpjjdncmokmaaLayS
import Derived.Test.YtddpjjdncmokmaaFilI
import Derived.Test.YtddpjjdncmokmaaWBDigitsI
import Derived.Deep.DeepCutAuto
namespace Go.Proofs.Ytddpjjdncmokmaa
open Go.RowKit
namespace C
set_option linter.unusedVariables false
set_option maxHeartbeats 3200000
set_option maxRecDepth 20000
theorem implLay_lw (w : World) (lo hi : Nat) (m : M.Mz) (a b : Option Addr) (c d : Nat) (h : MzIn lo hi w m a c b d) (hz : hi ≤ w.heap.size) (_h1 : m.doors.length ≤ 1048576) (_h2 : m.keys.length ≤ 1048576) (s : Int) (_s1 : -9223372036854775808 ≤ s) (_s2 : s ≤ 9223372036854775807) (lo' hi' : Nat) (fa : Option Addr) (fc : Nat) (fs : List Int) (hf : RowIn lo' hi' w fa (M.encIs fs)) (hz' : hi' ≤ w.heap.size) (hl : fs.length ≤ 1048576) (_u1 : fs.length ≤ fc) (_u2 : fc ≤ 9223372036854775807) (_u3 : ∀ z ∈ fs, -9223372036854775808 ≤ z ∧ z ≤ 9223372036854775807) :
    Calls Try.prog 19 #[.agg #[.int .i64 m.size, .slice a m.doors.length c, .slice b m.keys.length d], .int .i64 s, .slice fa fs.length fc] w (MzOkPost w (M.laidV m s fs) (M.filB m s fs)) := by
  have H := Lib.hid h
  have HF := Lib.hid hf
  have HU3 := Lib.hid _u3
  clear h hf _u3
  go_enter Try.func19, Try.ntmps19
  go_wp2_with fail
  refine named ?_
  intro W hW
  have hb : Below w.heap.size w W := by rw [hW]; exact (below_alloc _ _).alloc (by simp) _
  have x1 : Box3 W w.heap.size 27 (.int .i64 m.size) (.slice a m.doors.length c) (.slice b m.keys.length d) := by rw [hW]; exact (Box3.new _ _ _ _ rfl).alloc _
  have y1 : Box3 W (w.heap.size + 1) 27 (.int .i64 0) (.slice none 0 0) (.slice none 0 0) := by rw [hW]; exact Box3.new _ _ _ _ (by simp)
  clear hW
  have hzw := hb.size
  have hbl := y1.lt
  refine (implIsFil_lw W lo hi m a b c d (H.out.below hb hz) (by omega) _h1 _h2 s _s1 _s2 lo' hi' fa fc fs (HF.out.below hb hz') (by omega) hl _u1 _u2 HU3.out).mono ?_
  rintro e w1 ⟨rfl, hb1⟩
  have HB1 := Lib.hid (hb.trans (hb1.mono hzw))
  have X1 := Lib.hid (x1.below hb1)
  have Y1 := Lib.hid (y1.below hb1)
  have hz1 := hb1.size
  clear hb hb1 x1 y1
  obtain ⟨c0, c1, c2⟩ := X1.out.cells
  have hxl := X1.out.lt
  have hyl := Y1.out.lt
  cases qf : M.filB m s fs with
  | false =>
    have HV : Hid (M.laidV m s fs = mz0) := Lib.hid (M.laidV_no qf)
    have HQF := Lib.hid qf
    clear qf
    obtain ⟨k0, k1, k2⟩ := Y1.out.cells
    obtain ⟨f0, f1, f2⟩ := Y1.out.free
    obtain ⟨r0, r1, r2⟩ := (Y1.out.setAll (.int .i64 0) (.slice none 0 0) (.slice none 0 0)).cells
    go_wp2_with fail
    refine bodyPost_ret (v := .tuple #[.agg #[.int .i64 0, .slice none 0 0, .slice none 0 0], .bool false]) (by simp [results, Try.results19, go_sem, r0, r1, r2]) rfl ?_
    rw [HV.out, HQF.out]
    exact mzNo_endAt (r := w.heap.size + 1) HB1.out (by omega)
  | true =>
    have HV : Hid (M.laidV m s fs = M.layV m (M.colours s) fs) := Lib.hid (M.laidV_yes qf)
    obtain ⟨ha, hfn, hfl⟩ := M.fil_yes qf
    obtain ⟨V, hs0⟩ := M.ask_yes ha
    have HN63 := Lib.hid (M.noSet63 V)
    have hset := M.setB_iff.2 hs0
    have HKL := Lib.hid V.keysLen
    have v12 := V.size12
    have v12' : m.keys.length ≤ 12 := by have := V.keysLen; omega
    have v13 : m.size ≤ (m.keys.length : Int) ∧ (m.keys.length : Int) ≤ m.size := by have := V.keysLen; omega
    obtain ⟨v13, v14⟩ := v13
    have HQF := Lib.hid qf
    have HFL := Lib.hid hfl
    clear qf ha V hfl
    go_wp2_with fail
    refine (withoutColours_any w1 lo hi m a b c d (H.out.below HB1.out hz) (by omega) _h1 _h2 63).mono ?_
    rw [HN63.out]
    rintro e w3 ⟨ca, cc, cb, cd, he, ho, hb3⟩
    have he' : e = .returned (.agg #[.int .i64 m.size, .slice ca m.doors.length cc, .slice cb m.keys.length cd]) := by rw [he, M.layS_len]
    subst he'
    clear he
    have hz3w := hb3.size
    have HB3 := Lib.hid (HB1.out.trans (hb3.mono (by omega)))
    have X3 := Lib.hid (X1.out.below hb3)
    have Y3 := Lib.hid (Y1.out.below hb3)
    clear X1 Y1 hb3 c0 c1 c2
    have HCS := Lib.hid (show ∀ W, Calls Try.prog 58 #[.int .i64 s] W (IntsPost W (M.colours s)) from fun W => by
      have h := digits_any s.toNat (by omega) W
      rw [M.colours12 hset] at h
      rwa [show ((s.toNat : Nat) : Int) = s from by omega] at h)
    go_wp2_with fail
    refine named ?_
    intro W4 hW4
    have hb4 : Below w3.heap.size w3 W4 := by rw [hW4]; exact below_alloc _ _
    have t4 : Box3 W4 w3.heap.size 27 (.int .i64 m.size) (.slice ca m.doors.length cc) (.slice cb m.keys.length cd) := by rw [hW4]; exact Box3.new _ _ _ _ rfl
    have ST := Lib.hid (show CSt w m a b c d w1.heap.size w3.heap.size ca cb cc cd W4 (M.layS m.keys.length (M.colours s) fs 0) from
      ⟨X3.out.below hb4, Y3.out.below hb4, t4, (show MzOwn w1.heap.size w3.heap.size w3 ⟨m.size, m.doors, M.layS m.keys.length (M.colours s) fs 0⟩ ca cc cb cd from ho).below hb4 (Nat.le_refl _), HB3.out.trans (hb4.mono HB3.out.size)⟩)
    have hz4 := hb4.size
    have hzl4 := t4.lt
    clear hW4 hb4 ho t4
    refine (HCS.out _).mono ?_
    rintro e w5 ⟨qa, qc, rfl, hoc, hoc1, hoc2, hb5⟩
    have HQ := Lib.hid hoc.row
    have S5 := Lib.hid (ST.out.later hb5)
    have hz5 := hb5.size
    have hcl : (M.colours s).length = fs.length := HFL.out.symm
    have HC6 := Lib.hid (fun x (hx : x ∈ M.colours s) => M.mem_colours hx)
    have HFN := Lib.hid hfn
    have hm6 := M.many_le s
    have hf6 : fs.length ≤ 6 := by have := HFL.out; omega
    clear ST hoc hb5 hfn
    generalize hcs : M.colours s = cs at *
    have HCE := Lib.hid hcs
    clear hcs hoc1 hoc2
    have HLE := Lib.hid hcl
    have hcl6 : cs.length ≤ 6 := by omega
    clear hcl
    go_wp2_with fail
    go_loopw [11, 12, 28] (fun _ _ i wr => ∃ (k : Nat), k ≤ cs.length ∧ i = .int .i64 k ∧ RowIn W4.heap.size w5.heap.size wr qa (M.encIs cs) ∧ w5.heap.size ≤ wr.heap.size ∧ CSt w m a b c d w1.heap.size w3.heap.size ca cb cc cd wr (M.layS m.keys.length cs fs k)) (fun _ _ i _ => cs.length - (intOf i).toNat)
    case atStart => exact ⟨0, Nat.zero_le _, rfl, HQ.out, Nat.le_refl _, S5.out⟩
    case round =>
      obtain ⟨k, hk, rfl, hq, hw5, hst⟩ := hrel
      have SR := Lib.hid hst
      have QR := Lib.hid hq
      obtain ⟨o0, o1, o2⟩ := hst.out.cells
      have hol := hst.out.lt
      have hlw := hst.low.size
      clear hst hq
      by_cases hkl' : k < cs.length
      · have hkf : k < fs.length := by have := HLE.out; omega
        obtain ⟨fg, fo, rfl, _, _, hcf⟩ := (HF.out.below SR.out.low hz').at_ (k := k) (by rw [M.encIs_len]; exact hkf)
        have hcf := hcf k _ (M.encIs_at hkf)
        obtain ⟨cg, co, rfl, hcg, _, hcc⟩ := QR.out.at_ (k := k) (by rw [M.encIs_len]; exact hkl')
        have hcc := hcc k _ (M.encIs_at hkl')
        obtain ⟨hf0, hf1⟩ := HFN.out fs[k] (List.getElem_mem _)
        obtain ⟨hc0, hc5⟩ := HC6.out cs[k] (List.getElem_mem _)
        obtain ⟨x, hx⟩ : ∃ x : Nat, fs[k] = (x : Int) := ⟨fs[k].toNat, by omega⟩
        obtain ⟨g, off, rfl, hcu, hfu, hg1, hg2, hss⟩ := lay_key SR.out (by omega) (x := x) (by rw [getD_of hkf]; exact hx) (by omega)
        have QS := Lib.hid (QR.out.turned (Turned.setCell (lo := g) (hi := g + 1) wr g (off + x) (.int .i64 (bits .or .i64 ((M.layS m.keys.length cs fs k).getD x 0) (M.bitI (cs.getD k 0)))) (Nat.le_refl _) (Nat.lt_succ_self _)) hw5 (.inr (by omega)))
        have SS := Lib.hid hss
        rw [getD_of hkl'] at SS QS
        obtain ⟨hw1, hw2⟩ := bit_facts hc0 hc5
        rw [hx] at hcf hf0 hf1
        have hxk : x < m.keys.length := by omega
        clear hss hx
        generalize (M.layS m.keys.length cs fs k).getD x 0 = u at *
        generalize hy : cs[k] = y at *
        clear hy
        go_wp2_with fail
        refine wp_region_late2 (fun (wq : World) => (wq.cell? ⟨w3.heap.size, 2, none⟩ = some (.slice (some ⟨g, off, none⟩) m.keys.length cd)) ∧ wq.cell? ⟨fg, fo + k, none⟩ = some (.int .i64 (x : Int)) ∧ wq.cell? ⟨g, off + x, none⟩ = some (.int .i64 u)) [12] 13 #[false, false, false, false, false, false, false, false, false, false, false, false, false] rfl rfl (by kernel_rfl) ?_
        have hS : (fun (wq : World) => (wq.cell? ⟨w3.heap.size, 2, none⟩ = some (.slice (some ⟨g, off, none⟩) m.keys.length cd)) ∧ wq.cell? ⟨fg, fo + k, none⟩ = some (.int .i64 (x : Int)) ∧ wq.cell? ⟨g, off + x, none⟩ = some (.int .i64 u)) wr.drew := ⟨o2, hcf, hcu⟩
        refine wpAnyL_take (i := 0) (oi := { dst := some 33, op := Go.Op.fieldAddr 27 (Go.Operand.tmp 10) 2, type := 0, pos := "l9_filling.go:91", after := #[], guard := none }) (v := ?pv0) rfl (by kernel_rfl) (by kernel_rfl) (by kernel_rfl) (by kernel_rfl) (fun _ _ _ h => h) (Or.inl ⟨by rfl, ?ph0⟩) hS ?pr0
        case ph0 => (intro wS hSw; (try dsimp only at hSw); go_split_ands; go_simp; try with_reducible rfl)
        try simp only [Act.put, List.setIfInBounds_toArray, List.set_cons_zero, List.set_cons_succ]
        refine wpAnyL_take (i := 1) (oi := { dst := some 34, op := Go.Op.load 23 (Go.Operand.tmp 33), type := 23, pos := "l9_filling.go:91", after := #[{ on := 0, ground := Go.Ground.data }], guard := none }) (v := ?pv1) rfl (by kernel_rfl) (by kernel_rfl) (by kernel_rfl) (by kernel_rfl) (fun _ _ _ h => h) (Or.inl ⟨by rfl, ?ph1⟩) hS ?pr1
        case ph1 => (intro wS hSw; (try dsimp only at hSw); go_split_ands; go_simp; try with_reducible rfl)
        try simp only [Act.put, List.setIfInBounds_toArray, List.set_cons_zero, List.set_cons_succ]
        refine wpAnyL_take (i := 2) (oi := { dst := some 35, op := Go.Op.move (Go.Operand.tmp 2), type := 23, pos := "l9_filling.go:91", after := #[], guard := none }) (v := ?pv2) rfl (by kernel_rfl) (by kernel_rfl) (by kernel_rfl) (by kernel_rfl) (fun _ _ _ h => h) (Or.inl ⟨by rfl, ?ph2⟩) hS ?pr2
        case ph2 => (intro wS hSw; (try dsimp only at hSw); go_split_ands; go_simp; try with_reducible rfl)
        try simp only [Act.put, List.setIfInBounds_toArray, List.set_cons_zero, List.set_cons_succ]
        refine wpAnyL_take (i := 3) (oi := { dst := some 36, op := Go.Op.move (Go.Operand.tmp 11), type := 3, pos := "l9_filling.go:91", after := #[], guard := none }) (v := ?pv3) rfl (by kernel_rfl) (by kernel_rfl) (by kernel_rfl) (by kernel_rfl) (fun _ _ _ h => h) (Or.inl ⟨by rfl, ?ph3⟩) hS ?pr3
        case ph3 => (intro wS hSw; (try dsimp only at hSw); go_split_ands; go_simp; try with_reducible rfl)
        try simp only [Act.put, List.setIfInBounds_toArray, List.set_cons_zero, List.set_cons_succ]
        refine wpAnyL_take (i := 4) (oi := { dst := some 37, op := Go.Op.indexAddr 23 (Go.Operand.tmp 35) (Go.Operand.tmp 36), type := 0, pos := "l9_filling.go:91", after := #[{ on := 2, ground := Go.Ground.data }, { on := 3, ground := Go.Ground.data }], guard := none }) (v := ?pv4) rfl (by kernel_rfl) (by kernel_rfl) (by kernel_rfl) (by kernel_rfl) (fun _ _ _ h => h) (Or.inl ⟨by rfl, ?ph4⟩) hS ?pr4
        case ph4 => (intro wS hSw; (try dsimp only at hSw); go_split_ands; go_simp; try with_reducible rfl)
        try simp only [Act.put, List.setIfInBounds_toArray, List.set_cons_zero, List.set_cons_succ]
        refine wpAnyL_take (i := 5) (oi := { dst := some 38, op := Go.Op.load 3 (Go.Operand.tmp 37), type := 3, pos := "l9_filling.go:91", after := #[{ on := 4, ground := Go.Ground.data }], guard := none }) (v := ?pv5) rfl (by kernel_rfl) (by kernel_rfl) (by kernel_rfl) (by kernel_rfl) (fun _ _ _ h => h) (Or.inl ⟨by rfl, ?ph5⟩) hS ?pr5
        case ph5 => (intro wS hSw; (try dsimp only at hSw); go_split_ands; go_simp; try with_reducible rfl)
        try simp only [Act.put, List.setIfInBounds_toArray, List.set_cons_zero, List.set_cons_succ]
        refine wpAnyL_take (i := 6) (oi := { dst := some 39, op := Go.Op.indexAddr 23 (Go.Operand.tmp 34) (Go.Operand.tmp 38), type := 0, pos := "l9_filling.go:91", after := #[{ on := 1, ground := Go.Ground.data }, { on := 5, ground := Go.Ground.data }], guard := none }) (v := ?pv6) rfl (by kernel_rfl) (by kernel_rfl) (by kernel_rfl) (by kernel_rfl) (fun _ _ _ h => h) (Or.inl ⟨by rfl, ?ph6⟩) hS ?pr6
        case ph6 => (intro wS hSw; (try dsimp only at hSw); go_split_ands; go_simp; try with_reducible rfl)
        try simp only [Act.put, List.setIfInBounds_toArray, List.set_cons_zero, List.set_cons_succ]
        refine wpAnyL_take (i := 7) (oi := { dst := some 40, op := Go.Op.load 3 (Go.Operand.tmp 39), type := 3, pos := "l9_filling.go:91", after := #[{ on := 6, ground := Go.Ground.data }], guard := none }) (v := ?pv7) rfl (by kernel_rfl) (by kernel_rfl) (by kernel_rfl) (by kernel_rfl) (fun _ _ _ h => h) (Or.inl ⟨by rfl, ?ph7⟩) hS ?pr7
        case ph7 => (intro wS hSw; (try dsimp only at hSw); go_split_ands; go_simp; try with_reducible rfl)
        try simp only [Act.put, List.setIfInBounds_toArray, List.set_cons_zero, List.set_cons_succ]
        refine wpAnyL_take (i := 8) (oi := { dst := some 41, op := Go.Op.move (Go.Operand.tmp 12), type := 3, pos := "l9_filling.go:91", after := #[], guard := none }) (v := ?pv8) rfl (by kernel_rfl) (by kernel_rfl) (by kernel_rfl) (by kernel_rfl) (fun _ _ _ h => h) (Or.inl ⟨by rfl, ?ph8⟩) hS ?pr8
        case ph8 => (intro wS hSw; (try dsimp only at hSw); go_split_ands; go_simp; try with_reducible rfl)
        try simp only [Act.put, List.setIfInBounds_toArray, List.set_cons_zero, List.set_cons_succ]
        refine wpAnyL_take (i := 9) (oi := { dst := some 42, op := Go.Op.binOp Go.BinOp.shl 3 (Go.Operand.const (Go.Value.int Go.IntKind.i64 1)) (Go.Operand.tmp 41) 3, type := 3, pos := "l9_filling.go:91", after := #[{ on := 8, ground := Go.Ground.data }], guard := none }) (v := ?pv9) rfl (by kernel_rfl) (by kernel_rfl) (by kernel_rfl) (by kernel_rfl) (fun _ _ _ h => h) (Or.inl ⟨by rfl, ?ph9⟩) hS ?pr9
        case ph9 => (intro wS hSw; (try dsimp only at hSw); go_split_ands; go_simp; try with_reducible rfl)
        try simp only [Act.put, List.setIfInBounds_toArray, List.set_cons_zero, List.set_cons_succ]
        refine wpAnyL_take (i := 10) (oi := { dst := some 43, op := Go.Op.binOp Go.BinOp.or 3 (Go.Operand.tmp 40) (Go.Operand.tmp 42) 3, type := 3, pos := "l9_filling.go:91", after := #[{ on := 7, ground := Go.Ground.data }, { on := 9, ground := Go.Ground.data }], guard := none }) (v := ?pv10) rfl (by kernel_rfl) (by kernel_rfl) (by kernel_rfl) (by kernel_rfl) (fun _ _ _ h => h) (Or.inl ⟨by rfl, ?ph10⟩) hS ?pr10
        case ph10 => (intro wS hSw; (try dsimp only at hSw); go_split_ands; go_simp; try with_reducible rfl)
        try simp only [Act.put, List.setIfInBounds_toArray, List.set_cons_zero, List.set_cons_succ]
        refine wpAnyL_take (i := 11) (oi := { dst := some 44, op := Go.Op.indexAddr 23 (Go.Operand.tmp 34) (Go.Operand.tmp 38), type := 0, pos := "l9_filling.go:91", after := #[{ on := 1, ground := Go.Ground.data }, { on := 5, ground := Go.Ground.data }, { on := 0, ground := Go.Ground.phase }, { on := 1, ground := Go.Ground.phase }, { on := 2, ground := Go.Ground.phase }, { on := 3, ground := Go.Ground.phase }, { on := 4, ground := Go.Ground.phase }, { on := 5, ground := Go.Ground.phase }, { on := 6, ground := Go.Ground.phase }, { on := 7, ground := Go.Ground.phase }, { on := 8, ground := Go.Ground.phase }, { on := 9, ground := Go.Ground.phase }, { on := 10, ground := Go.Ground.phase }], guard := none }) (v := ?pv11) rfl (by kernel_rfl) (by kernel_rfl) (by kernel_rfl) (by kernel_rfl) (fun _ _ _ h => h) (Or.inl ⟨by rfl, ?ph11⟩) hS ?pr11
        case ph11 => (intro wS hSw; (try dsimp only at hSw); go_split_ands; go_simp; try with_reducible rfl)
        try simp only [Act.put, List.setIfInBounds_toArray, List.set_cons_zero, List.set_cons_succ]
        refine wpAnyL_one (i := 12) (oi := { dst := none, op := Go.Op.store 3 (Go.Operand.tmp 44) (Go.Operand.tmp 43), type := 0, pos := "l9_filling.go:91", after := #[{ on := 11, ground := Go.Ground.data }, { on := 10, ground := Go.Ground.data }, { on := 0, ground := Go.Ground.phase }, { on := 1, ground := Go.Ground.phase }, { on := 2, ground := Go.Ground.phase }, { on := 3, ground := Go.Ground.phase }, { on := 4, ground := Go.Ground.phase }, { on := 5, ground := Go.Ground.phase }, { on := 6, ground := Go.Ground.phase }, { on := 7, ground := Go.Ground.phase }, { on := 8, ground := Go.Ground.phase }, { on := 9, ground := Go.Ground.phase }, { on := 10, ground := Go.Ground.phase }], guard := none }) (by kernel_rfl) rfl (fun Kp12 hKp12 => ?_)
        go_simp
        refine hKp12 _ _ (fun h => absurd h (by decide)) ?_
        refine wpAnyL_done (by kernel_rfl) ?_ _
        go_wp2_with fail
        go_roundw
        case rel => exact ⟨k + 1, by omega, by go_num, QS.out.below (below_drawn _ 1) (by simp [World.setCell]; omega), by simp [World.setCell]; omega, SS.out.drawn1⟩
        case measure => simp [intOf]; omega
      · obtain rfl : k = cs.length := by omega
        have hyb := SR.out.res
        obtain ⟨k0, k1, k2⟩ := hyb.cells
        obtain ⟨f0, f1, f2⟩ := hyb.free
        obtain ⟨r0, r1, r2⟩ := (hyb.setAll (.int .i64 m.size) (.slice ca m.doors.length cc) (.slice cb m.keys.length cd)).cells
        have hzr := SR.out.out.lt
        go_wp2_with fail
        refine bodyPost_ret (v := .tuple #[.agg #[.int .i64 m.size, .slice ca m.doors.length cc, .slice cb m.keys.length cd], .bool true]) (by simp [results, Try.results19, go_sem, r0, r1, r2]) rfl ?_
        have hown := SR.out.own
        rw [HLE.out] at hown
        rw [HV.out, HQF.out]
        exact mzYes_endAt (m := M.layV m cs fs) SR.out.low hown (.inl (by omega)) (by omega) (by omega) (by omega) rfl (M.layS_len _ _ _ _)
end C
end Go.Proofs.Ytddpjjdncmokmaa
