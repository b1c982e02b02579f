/-
  CONTRACT of the model's l9Lay: the maze with the keys that a list of nodes tells, of the first colours of a list, in memory of the call's own. Condition: the colours are colours, the nodes nodes of the maze.
-/
import Derived.Test.YtddpjjdncmokmaaLayM
import Derived.Test.YtddpjjdncmokmaaWCBefore
import Derived.Test.YtddpjjdncmokmaaWBDigitsI
import Derived.Deep.DeepCutAuto
namespace Go.Proofs.Ytddpjjdncmokmaa
open Go.RowKit
namespace C
set_option linter.unusedVariables false
set_option maxHeartbeats 3200000
set_option maxRecDepth 20000
theorem CSt.drawn1 {w : World} {m : M.Mz} {a b : Option Addr} {c d L bg : Nat} {ca cb : Option Addr} {cc cd : Nat} {wr : World} {ks : List Int} (h : CSt w m a b c d L bg ca cb cc cd wr ks) : CSt w m a b c d L bg ca cb cc cd wr.drew ks :=
  h.later (below_drawn wr 1)
theorem l9Lay_any (w : World) (lo hi : Nat) (m : M.Mz) (a b : Option Addr) (c d : Nat) (h : MzIn lo hi w m a c b d) (hz : hi ≤ w.heap.size) (_h1 : m.doors.length ≤ 1048576) (_h2 : m.keys.length ≤ 1048576) (hkl : (m.keys.length : Int) = m.size) (v12 : m.size ≤ 12) (l1 l2 : Nat) (qa : Option Addr) (qc : Nat) (cs : List Int) (hcs : RowIn l1 l2 w qa (M.encIs cs)) (hz2 : l2 ≤ w.heap.size) (hc6 : ∀ x ∈ cs, 0 ≤ x ∧ x < 6) (hcl : cs.length ≤ 1048576) (lo' hi' : Nat) (fa : Option Addr) (fc : Nat) (fs : List Int) (hf : RowIn lo' hi' w fa (M.encIs fs)) (hz' : hi' ≤ w.heap.size) (hl : fs.length ≤ 1048576) (hfl : fs.length ≤ cs.length) (hfn : ∀ x ∈ fs, 0 ≤ x ∧ x < m.size) :
    Calls Try.prog 54 #[.agg #[.int .i64 m.size, .slice a m.doors.length c, .slice b m.keys.length d], .slice qa cs.length qc, .slice fa fs.length fc] w (MzPost w (M.layV m cs fs)) := by
  have H := Lib.hid h
  have HF := Lib.hid hf
  have HC := Lib.hid hcs
  clear h hf hcs
  go_enter Try.func54, Try.ntmps54
  go_wp2_with fail
  refine named ?_
  intro W hW
  have hb : Below w.heap.size w W := by rw [hW]; exact (below_alloc _ _).alloc (by simp) _
  have x1 : Box3 W w.heap.size 27 (.int .i64 m.size) (.slice a m.doors.length c) (.slice b m.keys.length d) := by rw [hW]; exact (Box3.new _ _ _ _ rfl).alloc _
  have y1 : Box3 W (w.heap.size + 1) 27 (.int .i64 0) (.slice none 0 0) (.slice none 0 0) := by rw [hW]; exact Box3.new _ _ _ _ (by simp)
  clear hW
  have hzw := hb.size
  have hbl := y1.lt
  refine (l2Own_any W lo hi m a b c d (H.out.below hb hz) (by omega) _h1 _h2).mono ?_
  rintro e w3 ⟨ca, cc, cb, cd, rfl, ho, hb3⟩
  have hz3w := hb3.size
  have ho3 := hb.trans (hb3.mono (by omega))
  go_wp2_with fail
  refine wp_named ?_
  intro W4 hW4
  have hb4 : Below w3.heap.size w3 W4 := by rw [hW4]; exact below_alloc _ _
  have t4 : Box3 W4 w3.heap.size 27 (.int .i64 m.size) (.slice ca m.doors.length cc) (.slice cb m.keys.length cd) := by rw [hW4]; exact Box3.new _ _ _ _ rfl
  have ST := Lib.hid (show CSt w m a b c d W.heap.size w3.heap.size ca cb cc cd W4 (M.repT (fun _ => 0) m.keys 0) from by
    rw [M.repT_zero]
    exact ⟨(x1.below hb3).below hb4, (y1.below hb3).below hb4, t4, ho.below hb4 (Nat.le_refl _), ho3.trans (hb4.mono ho3.size)⟩)
  have hz4 := hb4.size
  clear hW4 hb hb3 hb4 ho ho3 x1 y1 t4
  have HKL := Lib.hid hkl
  have v12' : m.keys.length ≤ 12 := by omega
  have v13 : m.size ≤ (m.keys.length : Int) ∧ (m.keys.length : Int) ≤ m.size := by omega
  obtain ⟨v13, v14⟩ := v13
  clear hkl
  go_loopw [8] (fun i wr => ∃ (k : Nat), k ≤ m.keys.length ∧ i = .int .i64 k ∧ CSt w m a b c d W.heap.size w3.heap.size ca cb cc cd wr (M.repT (fun _ => 0) m.keys k)) (fun i _ => m.keys.length - (intOf i).toNat)
  case atStart => exact ⟨0, Nat.zero_le _, rfl, ST.out⟩
  case round =>
    obtain ⟨k, hk, rfl, hst⟩ := hrel
    have SR := Lib.hid hst
    obtain ⟨b0, b1, b2⟩ := hst.box.cells
    obtain ⟨o0, o1, o2⟩ := hst.out.cells
    have hol := hst.out.lt
    clear hst
    by_cases hkl' : k < m.keys.length
    · obtain ⟨g, off, hcb, hg1, hg2, hc0⟩ := SR.out.own.keys.row.at_ (k := k) (by rw [M.encIs_len]; show k < (M.repT _ m.keys k).length; rw [M.repT_len]; exact hkl')
      have fx : wr.frozen? ⟨g, off + k, none⟩ = false := SR.out.own.keys.free hcb (k := k) (by rw [M.encIs_len]; show k < (M.repT _ m.keys k).length; rw [M.repT_len]; exact hkl') _
      have cx : wr.cell? ⟨g, off + k, none⟩ = some (.int .i64 m.keys[k]) := hc0 _ _ (by show (M.encIs (M.repT _ m.keys k))[k]? = _; unfold M.encIs; rw [List.getElem?_map, M.repT_get hkl']; rfl)
      clear hc0
      subst hcb
      have hss := SR.out.set hbl hg1 hg2 (k := k) (by rw [M.repT_len]; exact hkl') 0
      rw [show (M.repT (fun _ => (0 : Int)) m.keys k).set k 0 = _ from M.repT_set (f := fun _ => (0 : Int)) hkl'] at hss
      have SS := Lib.hid hss
      have hks : (k : Int) < m.size := by omega
      clear hss
      go_wp2_with fail
      go_roundw
      case rel => exact ⟨k + 1, by omega, by go_num, SS.out⟩
      case measure => simp [intOf]; omega
    · obtain rfl : k = m.keys.length := by omega
      have hks : ¬ ((m.keys.length : Nat) : Int) < m.size := by omega
      have S0 := Lib.hid (show CSt w m a b c d W.heap.size w3.heap.size ca cb cc cd wr (M.layS m.keys.length cs fs 0) from by
        have h := SR.out
        rw [M.repT_all, List.map_const'] at h
        exact h)
      clear SR
      go_wp2_with fail
      clear b0 b1 b2 o0 o1 o2
      go_loopw [9] (fun i wr => ∃ (k : Nat), k ≤ fs.length ∧ i = .int .i64 k ∧ CSt w m a b c d W.heap.size w3.heap.size ca cb cc cd wr (M.layS m.keys.length cs fs k)) (fun i _ => fs.length - (intOf i).toNat)
      case atStart => exact ⟨0, Nat.zero_le _, rfl, S0.out⟩
      case round =>
        clear hol S0
        obtain ⟨k, hk, rfl, hst⟩ := hrel
        have SR := Lib.hid hst
        obtain ⟨o0, o1, o2⟩ := hst.out.cells
        have hol := hst.out.lt
        have hlw := hst.low.size
        clear hst
        by_cases hkl' : k < fs.length
        · obtain ⟨fg, fo, rfl, _, _, hcf⟩ := (HF.out.below SR.out.low hz').at_ (k := k) (by rw [M.encIs_len]; exact hkl')
          have hcf := hcf k _ (M.encIs_at hkl')
          have hkc : k < cs.length := by omega
          obtain ⟨cg, co, rfl, _, _, hcc⟩ := (HC.out.below SR.out.low hz2).at_ (k := k) (by rw [M.encIs_len]; exact hkc)
          have hcc := hcc k _ (M.encIs_at hkc)
          obtain ⟨hf0, hf1⟩ := hfn fs[k] (List.getElem_mem _)
          obtain ⟨hc0, hc5⟩ := hc6 cs[k] (List.getElem_mem _)
          obtain ⟨x, hx⟩ : ∃ x : Nat, fs[k] = (x : Int) := ⟨fs[k].toNat, by omega⟩
          obtain ⟨g, off, rfl, hcu, hfu, hg1, hg2, hss⟩ := lay_key SR.out hbl (x := x) (by rw [getD_of hkl']; exact hx) (by omega)
          have SS := Lib.hid hss
          rw [getD_of hkc] at SS
          obtain ⟨hw1, hw2⟩ := bit_facts hc0 hc5
          rw [hx] at hcf hf0 hf1
          have hxk : x < m.keys.length := by omega
          clear hss hx
          generalize (M.layS m.keys.length cs fs k).getD x 0 = u at *
          generalize hy : cs[k] = y at *
          clear hy
          go_wp2_with fail
          refine wp_region_late2 (fun (wq : World) => (wq.cell? ⟨w3.heap.size, 2, none⟩ = some (.slice (some ⟨g, off, none⟩) m.keys.length cd)) ∧ wq.cell? ⟨fg, fo + k, none⟩ = some (.int .i64 (x : Int)) ∧ wq.cell? ⟨cg, co + k, none⟩ = some (.int .i64 y) ∧ wq.cell? ⟨g, off + x, none⟩ = some (.int .i64 u)) [21] 22 #[false, false, false, false, false, false, false, false, false, false, false, false, false, false, false, false, false, false, false, false, false, false] rfl rfl (by kernel_rfl) ?_
          have hS : (fun (wq : World) => (wq.cell? ⟨w3.heap.size, 2, none⟩ = some (.slice (some ⟨g, off, none⟩) m.keys.length cd)) ∧ wq.cell? ⟨fg, fo + k, none⟩ = some (.int .i64 (x : Int)) ∧ wq.cell? ⟨cg, co + k, none⟩ = some (.int .i64 y) ∧ wq.cell? ⟨g, off + x, none⟩ = some (.int .i64 u)) wr.drew := ⟨o2, hcf, hcc, hcu⟩
          refine wpAnyL_take (i := 0) (oi := { dst := some 28, op := Go.Op.fieldAddr 27 (Go.Operand.tmp 7) 2, type := 0, pos := "l9_filling.go:25", after := #[], guard := none }) (v := ?pv0) rfl (by kernel_rfl) (by kernel_rfl) (by kernel_rfl) (by kernel_rfl) (fun _ _ _ h => h) (Or.inl ⟨by rfl, ?ph0⟩) hS ?pr0
          case ph0 => (intro wS hSw; (try dsimp only at hSw); go_split_ands; go_simp; try with_reducible rfl)
          try simp only [Act.put, List.setIfInBounds_toArray, List.set_cons_zero, List.set_cons_succ]
          refine wpAnyL_take (i := 1) (oi := { dst := some 29, op := Go.Op.load 23 (Go.Operand.tmp 28), type := 23, pos := "l9_filling.go:25", after := #[{ on := 0, ground := Go.Ground.data }], guard := none }) (v := ?pv1) rfl (by kernel_rfl) (by kernel_rfl) (by kernel_rfl) (by kernel_rfl) (fun _ _ _ h => h) (Or.inl ⟨by rfl, ?ph1⟩) hS ?pr1
          case ph1 => (intro wS hSw; (try dsimp only at hSw); go_split_ands; go_simp; try with_reducible rfl)
          try simp only [Act.put, List.setIfInBounds_toArray, List.set_cons_zero, List.set_cons_succ]
          refine wpAnyL_take (i := 2) (oi := { dst := some 30, op := Go.Op.move (Go.Operand.tmp 2), type := 23, pos := "l9_filling.go:25", after := #[], guard := none }) (v := ?pv2) rfl (by kernel_rfl) (by kernel_rfl) (by kernel_rfl) (by kernel_rfl) (fun _ _ _ h => h) (Or.inl ⟨by rfl, ?ph2⟩) hS ?pr2
          case ph2 => (intro wS hSw; (try dsimp only at hSw); go_split_ands; go_simp; try with_reducible rfl)
          try simp only [Act.put, List.setIfInBounds_toArray, List.set_cons_zero, List.set_cons_succ]
          refine wpAnyL_take (i := 3) (oi := { dst := some 31, op := Go.Op.move (Go.Operand.tmp 9), type := 3, pos := "l9_filling.go:25", after := #[], guard := none }) (v := ?pv3) rfl (by kernel_rfl) (by kernel_rfl) (by kernel_rfl) (by kernel_rfl) (fun _ _ _ h => h) (Or.inl ⟨by rfl, ?ph3⟩) hS ?pr3
          case ph3 => (intro wS hSw; (try dsimp only at hSw); go_split_ands; go_simp; try with_reducible rfl)
          try simp only [Act.put, List.setIfInBounds_toArray, List.set_cons_zero, List.set_cons_succ]
          refine wpAnyL_take (i := 4) (oi := { dst := some 32, op := Go.Op.indexAddr 23 (Go.Operand.tmp 30) (Go.Operand.tmp 31), type := 0, pos := "l9_filling.go:25", after := #[{ on := 2, ground := Go.Ground.data }, { on := 3, ground := Go.Ground.data }], guard := none }) (v := ?pv4) rfl (by kernel_rfl) (by kernel_rfl) (by kernel_rfl) (by kernel_rfl) (fun _ _ _ h => h) (Or.inl ⟨by rfl, ?ph4⟩) hS ?pr4
          case ph4 => (intro wS hSw; (try dsimp only at hSw); go_split_ands; go_simp; try with_reducible rfl)
          try simp only [Act.put, List.setIfInBounds_toArray, List.set_cons_zero, List.set_cons_succ]
          refine wpAnyL_take (i := 5) (oi := { dst := some 33, op := Go.Op.load 3 (Go.Operand.tmp 32), type := 3, pos := "l9_filling.go:25", after := #[{ on := 4, ground := Go.Ground.data }], guard := none }) (v := ?pv5) rfl (by kernel_rfl) (by kernel_rfl) (by kernel_rfl) (by kernel_rfl) (fun _ _ _ h => h) (Or.inl ⟨by rfl, ?ph5⟩) hS ?pr5
          case ph5 => (intro wS hSw; (try dsimp only at hSw); go_split_ands; go_simp; try with_reducible rfl)
          try simp only [Act.put, List.setIfInBounds_toArray, List.set_cons_zero, List.set_cons_succ]
          refine wpAnyL_take (i := 6) (oi := { dst := some 34, op := Go.Op.fieldAddr 27 (Go.Operand.tmp 7) 2, type := 0, pos := "l9_filling.go:25", after := #[], guard := none }) (v := ?pv6) rfl (by kernel_rfl) (by kernel_rfl) (by kernel_rfl) (by kernel_rfl) (fun _ _ _ h => h) (Or.inl ⟨by rfl, ?ph6⟩) hS ?pr6
          case ph6 => (intro wS hSw; (try dsimp only at hSw); go_split_ands; go_simp; try with_reducible rfl)
          try simp only [Act.put, List.setIfInBounds_toArray, List.set_cons_zero, List.set_cons_succ]
          refine wpAnyL_take (i := 7) (oi := { dst := some 35, op := Go.Op.load 23 (Go.Operand.tmp 34), type := 23, pos := "l9_filling.go:25", after := #[{ on := 6, ground := Go.Ground.data }], guard := none }) (v := ?pv7) rfl (by kernel_rfl) (by kernel_rfl) (by kernel_rfl) (by kernel_rfl) (fun _ _ _ h => h) (Or.inl ⟨by rfl, ?ph7⟩) hS ?pr7
          case ph7 => (intro wS hSw; (try dsimp only at hSw); go_split_ands; go_simp; try with_reducible rfl)
          try simp only [Act.put, List.setIfInBounds_toArray, List.set_cons_zero, List.set_cons_succ]
          refine wpAnyL_take (i := 8) (oi := { dst := some 36, op := Go.Op.move (Go.Operand.tmp 2), type := 23, pos := "l9_filling.go:25", after := #[], guard := none }) (v := ?pv8) rfl (by kernel_rfl) (by kernel_rfl) (by kernel_rfl) (by kernel_rfl) (fun _ _ _ h => h) (Or.inl ⟨by rfl, ?ph8⟩) hS ?pr8
          case ph8 => (intro wS hSw; (try dsimp only at hSw); go_split_ands; go_simp; try with_reducible rfl)
          try simp only [Act.put, List.setIfInBounds_toArray, List.set_cons_zero, List.set_cons_succ]
          refine wpAnyL_take (i := 9) (oi := { dst := some 37, op := Go.Op.move (Go.Operand.tmp 9), type := 3, pos := "l9_filling.go:25", after := #[], guard := none }) (v := ?pv9) rfl (by kernel_rfl) (by kernel_rfl) (by kernel_rfl) (by kernel_rfl) (fun _ _ _ h => h) (Or.inl ⟨by rfl, ?ph9⟩) hS ?pr9
          case ph9 => (intro wS hSw; (try dsimp only at hSw); go_split_ands; go_simp; try with_reducible rfl)
          try simp only [Act.put, List.setIfInBounds_toArray, List.set_cons_zero, List.set_cons_succ]
          refine wpAnyL_take (i := 10) (oi := { dst := some 38, op := Go.Op.indexAddr 23 (Go.Operand.tmp 36) (Go.Operand.tmp 37), type := 0, pos := "l9_filling.go:25", after := #[{ on := 8, ground := Go.Ground.data }, { on := 9, ground := Go.Ground.data }], guard := none }) (v := ?pv10) rfl (by kernel_rfl) (by kernel_rfl) (by kernel_rfl) (by kernel_rfl) (fun _ _ _ h => h) (Or.inl ⟨by rfl, ?ph10⟩) hS ?pr10
          case ph10 => (intro wS hSw; (try dsimp only at hSw); go_split_ands; go_simp; try with_reducible rfl)
          try simp only [Act.put, List.setIfInBounds_toArray, List.set_cons_zero, List.set_cons_succ]
          refine wpAnyL_take (i := 11) (oi := { dst := some 39, op := Go.Op.load 3 (Go.Operand.tmp 38), type := 3, pos := "l9_filling.go:25", after := #[{ on := 10, ground := Go.Ground.data }], guard := none }) (v := ?pv11) rfl (by kernel_rfl) (by kernel_rfl) (by kernel_rfl) (by kernel_rfl) (fun _ _ _ h => h) (Or.inl ⟨by rfl, ?ph11⟩) hS ?pr11
          case ph11 => (intro wS hSw; (try dsimp only at hSw); go_split_ands; go_simp; try with_reducible rfl)
          try simp only [Act.put, List.setIfInBounds_toArray, List.set_cons_zero, List.set_cons_succ]
          refine wpAnyL_take (i := 12) (oi := { dst := some 40, op := Go.Op.indexAddr 23 (Go.Operand.tmp 35) (Go.Operand.tmp 39), type := 0, pos := "l9_filling.go:25", after := #[{ on := 7, ground := Go.Ground.data }, { on := 11, ground := Go.Ground.data }], guard := none }) (v := ?pv12) rfl (by kernel_rfl) (by kernel_rfl) (by kernel_rfl) (by kernel_rfl) (fun _ _ _ h => h) (Or.inl ⟨by rfl, ?ph12⟩) hS ?pr12
          case ph12 => (intro wS hSw; (try dsimp only at hSw); go_split_ands; go_simp; try with_reducible rfl)
          try simp only [Act.put, List.setIfInBounds_toArray, List.set_cons_zero, List.set_cons_succ]
          refine wpAnyL_take (i := 13) (oi := { dst := some 41, op := Go.Op.load 3 (Go.Operand.tmp 40), type := 3, pos := "l9_filling.go:25", after := #[{ on := 12, ground := Go.Ground.data }], guard := none }) (v := ?pv13) rfl (by kernel_rfl) (by kernel_rfl) (by kernel_rfl) (by kernel_rfl) (fun _ _ _ h => h) (Or.inl ⟨by rfl, ?ph13⟩) hS ?pr13
          case ph13 => (intro wS hSw; (try dsimp only at hSw); go_split_ands; go_simp; try with_reducible rfl)
          try simp only [Act.put, List.setIfInBounds_toArray, List.set_cons_zero, List.set_cons_succ]
          refine wpAnyL_take (i := 14) (oi := { dst := some 42, op := Go.Op.move (Go.Operand.tmp 1), type := 23, pos := "l9_filling.go:25", after := #[], guard := none }) (v := ?pv14) rfl (by kernel_rfl) (by kernel_rfl) (by kernel_rfl) (by kernel_rfl) (fun _ _ _ h => h) (Or.inl ⟨by rfl, ?ph14⟩) hS ?pr14
          case ph14 => (intro wS hSw; (try dsimp only at hSw); go_split_ands; go_simp; try with_reducible rfl)
          try simp only [Act.put, List.setIfInBounds_toArray, List.set_cons_zero, List.set_cons_succ]
          refine wpAnyL_take (i := 15) (oi := { dst := some 43, op := Go.Op.move (Go.Operand.tmp 9), type := 3, pos := "l9_filling.go:25", after := #[], guard := none }) (v := ?pv15) rfl (by kernel_rfl) (by kernel_rfl) (by kernel_rfl) (by kernel_rfl) (fun _ _ _ h => h) (Or.inl ⟨by rfl, ?ph15⟩) hS ?pr15
          case ph15 => (intro wS hSw; (try dsimp only at hSw); go_split_ands; go_simp; try with_reducible rfl)
          try simp only [Act.put, List.setIfInBounds_toArray, List.set_cons_zero, List.set_cons_succ]
          refine wpAnyL_take (i := 16) (oi := { dst := some 44, op := Go.Op.indexAddr 23 (Go.Operand.tmp 42) (Go.Operand.tmp 43), type := 0, pos := "l9_filling.go:25", after := #[{ on := 14, ground := Go.Ground.data }, { on := 15, ground := Go.Ground.data }], guard := none }) (v := ?pv16) rfl (by kernel_rfl) (by kernel_rfl) (by kernel_rfl) (by kernel_rfl) (fun _ _ _ h => h) (Or.inl ⟨by rfl, ?ph16⟩) hS ?pr16
          case ph16 => (intro wS hSw; (try dsimp only at hSw); go_split_ands; go_simp; try with_reducible rfl)
          try simp only [Act.put, List.setIfInBounds_toArray, List.set_cons_zero, List.set_cons_succ]
          refine wpAnyL_take (i := 17) (oi := { dst := some 45, op := Go.Op.load 3 (Go.Operand.tmp 44), type := 3, pos := "l9_filling.go:25", after := #[{ on := 16, ground := Go.Ground.data }], guard := none }) (v := ?pv17) rfl (by kernel_rfl) (by kernel_rfl) (by kernel_rfl) (by kernel_rfl) (fun _ _ _ h => h) (Or.inl ⟨by rfl, ?ph17⟩) hS ?pr17
          case ph17 => (intro wS hSw; (try dsimp only at hSw); go_split_ands; go_simp; try with_reducible rfl)
          try simp only [Act.put, List.setIfInBounds_toArray, List.set_cons_zero, List.set_cons_succ]
          refine wpAnyL_take (i := 18) (oi := { dst := some 46, op := Go.Op.binOp Go.BinOp.shl 3 (Go.Operand.const (Go.Value.int Go.IntKind.i64 1)) (Go.Operand.tmp 45) 3, type := 3, pos := "l9_filling.go:25", after := #[{ on := 17, ground := Go.Ground.data }], guard := none }) (v := ?pv18) rfl (by kernel_rfl) (by kernel_rfl) (by kernel_rfl) (by kernel_rfl) (fun _ _ _ h => h) (Or.inl ⟨by rfl, ?ph18⟩) hS ?pr18
          case ph18 => (intro wS hSw; (try dsimp only at hSw); go_split_ands; go_simp; try with_reducible rfl)
          try simp only [Act.put, List.setIfInBounds_toArray, List.set_cons_zero, List.set_cons_succ]
          refine wpAnyL_take (i := 19) (oi := { dst := some 47, op := Go.Op.binOp Go.BinOp.or 3 (Go.Operand.tmp 41) (Go.Operand.tmp 46) 3, type := 3, pos := "l9_filling.go:25", after := #[{ on := 13, ground := Go.Ground.data }, { on := 18, ground := Go.Ground.data }], guard := none }) (v := ?pv19) rfl (by kernel_rfl) (by kernel_rfl) (by kernel_rfl) (by kernel_rfl) (fun _ _ _ h => h) (Or.inl ⟨by rfl, ?ph19⟩) hS ?pr19
          case ph19 => (intro wS hSw; (try dsimp only at hSw); go_split_ands; go_simp; try with_reducible rfl)
          try simp only [Act.put, List.setIfInBounds_toArray, List.set_cons_zero, List.set_cons_succ]
          refine wpAnyL_take (i := 20) (oi := { dst := some 48, op := Go.Op.indexAddr 23 (Go.Operand.tmp 29) (Go.Operand.tmp 33), type := 0, pos := "l9_filling.go:25", after := #[{ on := 1, ground := Go.Ground.data }, { on := 5, ground := Go.Ground.data }, { on := 0, ground := Go.Ground.phase }, { on := 1, ground := Go.Ground.phase }, { on := 2, ground := Go.Ground.phase }, { on := 3, ground := Go.Ground.phase }, { on := 4, ground := Go.Ground.phase }, { on := 5, ground := Go.Ground.phase }, { on := 6, ground := Go.Ground.phase }, { on := 7, ground := Go.Ground.phase }, { on := 8, ground := Go.Ground.phase }, { on := 9, ground := Go.Ground.phase }, { on := 10, ground := Go.Ground.phase }, { on := 11, ground := Go.Ground.phase }, { on := 12, ground := Go.Ground.phase }, { on := 13, ground := Go.Ground.phase }, { on := 14, ground := Go.Ground.phase }, { on := 15, ground := Go.Ground.phase }, { on := 16, ground := Go.Ground.phase }, { on := 17, ground := Go.Ground.phase }, { on := 18, ground := Go.Ground.phase }, { on := 19, ground := Go.Ground.phase }], guard := none }) (v := ?pv20) rfl (by kernel_rfl) (by kernel_rfl) (by kernel_rfl) (by kernel_rfl) (fun _ _ _ h => h) (Or.inl ⟨by rfl, ?ph20⟩) hS ?pr20
          case ph20 => (intro wS hSw; (try dsimp only at hSw); go_split_ands; go_simp; try with_reducible rfl)
          try simp only [Act.put, List.setIfInBounds_toArray, List.set_cons_zero, List.set_cons_succ]
          refine wpAnyL_one (i := 21) (oi := { dst := none, op := Go.Op.store 3 (Go.Operand.tmp 48) (Go.Operand.tmp 47), type := 0, pos := "l9_filling.go:25", after := #[{ on := 20, ground := Go.Ground.data }, { on := 19, ground := Go.Ground.data }, { on := 0, ground := Go.Ground.phase }, { on := 1, ground := Go.Ground.phase }, { on := 2, ground := Go.Ground.phase }, { on := 3, ground := Go.Ground.phase }, { on := 4, ground := Go.Ground.phase }, { on := 5, ground := Go.Ground.phase }, { on := 6, ground := Go.Ground.phase }, { on := 7, ground := Go.Ground.phase }, { on := 8, ground := Go.Ground.phase }, { on := 9, ground := Go.Ground.phase }, { on := 10, ground := Go.Ground.phase }, { on := 11, ground := Go.Ground.phase }, { on := 12, ground := Go.Ground.phase }, { on := 13, ground := Go.Ground.phase }, { on := 14, ground := Go.Ground.phase }, { on := 15, ground := Go.Ground.phase }, { on := 16, ground := Go.Ground.phase }, { on := 17, ground := Go.Ground.phase }, { on := 18, ground := Go.Ground.phase }, { on := 19, ground := Go.Ground.phase }], guard := none }) (by kernel_rfl) rfl (fun Kp21 hKp21 => ?_)
          go_simp
          refine hKp21 _ _ (fun h => absurd h (by decide)) ?_
          refine wpAnyL_done (by kernel_rfl) ?_ _
          go_wp2_with fail
          go_roundw
          case rel => exact ⟨k + 1, by omega, by go_num, SS.out.drawn1⟩
          case measure => simp [intOf]; omega
        · obtain rfl : k = fs.length := by omega
          have hyb := SR.out.res
          obtain ⟨k0, k1, k2⟩ := hyb.cells
          obtain ⟨f0, f1, f2⟩ := hyb.free
          obtain ⟨r0, r1, r2⟩ := (hyb.setAll (.int .i64 m.size) (.slice ca m.doors.length cc) (.slice cb m.keys.length cd)).cells
          have hzr := SR.out.out.lt
          go_wp2_with fail
          refine bodyPost_ret (v := .agg #[.int .i64 m.size, .slice ca m.doors.length cc, .slice cb m.keys.length cd]) (by simp [results, Try.results54, go_sem, r0, r1, r2]) rfl ?_
          have hown := SR.out.own
          exact mz_endAt (m := M.layV m cs fs) SR.out.low hown (.inl hbl) (by omega) (by omega) (by omega) rfl (M.layS_len _ _ _ _)
theorem layV_keys (m : M.Mz) (cs fs : List Int) : (M.layV m cs fs).keys.length = m.keys.length := M.layS_len _ _ _ _
def LayPost (w : World) (m : M.Mz) (cs fs : List Int) (e : Ending) (w' : World) : Prop :=
  ∃ a c b d, e = .returned (.agg #[.int .i64 m.size, .slice a m.doors.length c, .slice b m.keys.length d]) ∧ MzOwn w.heap.size w'.heap.size w' (M.layV m cs fs) a c b d ∧ Below w.heap.size w w'
theorem lay9_any (w : World) (lo hi : Nat) (m : M.Mz) (a b : Option Addr) (c d : Nat) (h : MzIn lo hi w m a c b d) (hz : hi ≤ w.heap.size) (_h1 : m.doors.length ≤ 1048576) (_h2 : m.keys.length ≤ 1048576) (hkl : (m.keys.length : Int) = m.size) (v12 : m.size ≤ 12) (l1 l2 : Nat) (qa : Option Addr) (qc : Nat) (cs : List Int) (hcs : RowIn l1 l2 w qa (M.encIs cs)) (hz2 : l2 ≤ w.heap.size) (hc6 : ∀ x ∈ cs, 0 ≤ x ∧ x < 6) (hcl : cs.length ≤ 1048576) (lo' hi' : Nat) (fa : Option Addr) (fc : Nat) (fs : List Int) (hf : RowIn lo' hi' w fa (M.encIs fs)) (hz' : hi' ≤ w.heap.size) (hl : fs.length ≤ 1048576) (hfl : fs.length ≤ cs.length) (hfn : ∀ x ∈ fs, 0 ≤ x ∧ x < m.size) :
    Calls Try.prog 54 #[.agg #[.int .i64 m.size, .slice a m.doors.length c, .slice b m.keys.length d], .slice qa cs.length qc, .slice fa fs.length fc] w (LayPost w m cs fs) := by
  refine (l9Lay_any w lo hi m a b c d h hz _h1 _h2 hkl v12 l1 l2 qa qc cs hcs hz2 hc6 hcl lo' hi' fa fc fs hf hz' hl hfl hfn).mono ?_
  rintro e w' ⟨ra, rc, rb, rd, he, ho, hb⟩
  rw [layV_keys] at he
  exact ⟨ra, rc, rb, rd, he, ho, hb⟩
end C
end Go.Proofs.Ytddpjjdncmokmaa
