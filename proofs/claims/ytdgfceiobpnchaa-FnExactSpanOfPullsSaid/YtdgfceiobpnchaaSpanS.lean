/-
  CONTRACT of the model's SpanOfPulls; what lay in memory stays. No condition but that the works read so.
-/
import Derived.Test.YtdgfceiobpnchaaSpanM
import Derived.Test.YtdgfceiobpnchaaKeepA
import Derived.Test.YtdgfceiobpnchaaWkSpec
import Derived.Test.YtdgfceiobpnchaaRunM
import Derived.Test.YtdgfceiobpnchaaIdsV
import Derived.Test.YtdgfceiobpnchaaOwn
import Derived.Test.YtdgfceiobpnchaaHas
import Derived.Test.YtdgfceiobpnchaaLate
import Derived.Test.YtdgfceiobpnchaaStep
import Derived.Deep.RegionHeld3
import Derived.StillTailTactics
import Derived.IntWalk
import Derived.Deep.Cut
namespace Go.Proofs.Ytdgfceiobpnchaa
open Go.RowKit
namespace C
set_option maxHeartbeats 3200000
set_option maxRecDepth 20000
theorem specSpan_lw (w : World) (lo hi : Nat) (m : M.Wk) (a b : Option Addr) (c d : Nat) (h : WkIn lo hi w m a c b d) (hz : hi ≤ w.heap.size) (_h1 : m.gates.length ≤ 1048576) (_h2 : m.pulls.length ≤ 1048576) :
    Calls Try.prog 50 #[.agg #[.int .i64 m.size, .slice a m.gates.length c, .slice b m.pulls.length d]] w (fun e w' => e = .returned (.tuple #[.int .i64 (M.spanV m), .bool (M.worksB m)]) ∧ Below w.heap.size w w') := by
  obtain ⟨ii0, hi0, hz0, hzz1, hz2⟩ := info_parts infoI
  have H := Lib.hid h
  have hc1 := h.c1
  have hc2 := h.c2
  have hd1 := h.d1
  have hd2 := h.d2
  clear h
  go_enter Try.func50, Try.ntmps50
  go_wp2_with fail
  refine named ?_
  intro W hW
  have hb : Below w.heap.size w W := by rw [hW]; exact below_alloc _ _
  have x1 : Box3 W w.heap.size 28 (.int .i64 m.size) (.slice a m.gates.length c) (.slice b m.pulls.length d) := by rw [hW]; exact Box3.new _ _ _ _ rfl
  clear hW
  have hzw := hb.size
  refine (specWorks_any W lo hi m a b c d (H.out.below hb hz) (by omega)).mono ?_
  rintro e w1 ⟨rfl, hb1⟩
  have X1 := Lib.hid (x1.below hb1)
  have HB1 := Lib.hid (hb.trans (hb1.mono hzw))
  have hz1 := hb1.size
  have hxl1 := X1.out.lt
  clear hb hb1 x1
  obtain ⟨c0, c1, c2⟩ := X1.out.cells
  cases q0 : M.worksB m with
  | false =>
    have HM := Lib.hid q0
    clear q0
    go_wp2_with fail
    go_ret2
    have HF := Lib.hid (M.span_off HM.out)
    rw [HF.out, HM.out]
    exact ⟨rfl, HB1.out⟩
  | true =>
    have HM := Lib.hid q0
    have HV := Lib.hid (M.wv_of q0)
    clear q0
    have HVS := Lib.hid (M.span_on HM.out)
    have hpl := HV.out.pullsLen
    have v12 := HV.out.size12
    have hp12 : m.pulls.length ≤ 12 := by omega
    have HLB := Lib.hid (M.spnS_len hp12)
    have HSU := Lib.hid (fun k (hk : k < m.pulls.length) => M.spnS_succ hk)
    have hoS : (w1.alloc (.cells #[.int .i64 0] 3)).ownsRow (w.heap.size + 1) 3 1 (.slice (some ⟨w1.heap.size, 0, none⟩) 1 1) 1 (M.encIs (M.spnS m 0)) :=
      ⟨rfl, .inr ⟨w1.heap.size, 1, _, rfl, by omega, heap_alloc_new w1 _, Nat.le_refl _, by unfold maxLen; omega, by simp, rfl⟩⟩
    have HL0 : Hid ((M.spnS m 0).length = 1) := Lib.hid rfl
    go_upto_region 4 with fail
    refine wp_named ?_
    intro W4 hW4
    have hb4 : Below w1.heap.size w1 W4 := by rw [hW4]; exact below_alloc _ _
    rw [← hW4] at hoS
    have O4 := Lib.hid hoS
    have X4 := Lib.hid (X1.out.below hb4)
    have HB4 := Lib.hid (HB1.out.trans (hb4.mono (by omega)))
    clear hW4 hoS hb4 c0 c1 c2
    have HSAME := Lib.hid (M.spn_same m m.pulls.length)
    obtain ⟨c0, c1, c2⟩ := X4.out.cells
    generalize w1.heap.size = g1 at *
    go_wp2_with fail
    go_loopw [4, 5, 6] (fun v4 v5 _ wr => ∃ (k ga ca : Nat), k ≤ m.pulls.length ∧ v5 = .int .i64 (k : Int) ∧ v4 = .slice (some ⟨ga, 0, none⟩) (M.spnS m k).length ca ∧ wr.ownsRow (w.heap.size + 1) 3 1 v4 (M.spnS m k).length (M.encIs (M.spnS m k)) ∧ Box3 wr w.heap.size 28 (.int .i64 m.size) (.slice a m.gates.length c) (.slice b m.pulls.length d) ∧ Below w.heap.size w wr) (fun _ v5 _ _ => m.pulls.length - (intOf v5).toNat)
    case atStart => exact ⟨0, g1, 1, Nat.zero_le _, rfl, rfl, O4.out, X4.out, HB4.out⟩
    case round =>
      obtain ⟨k, ga, ca, hk, rfl, rfl, hown, hbx, hlow⟩ := hrel
      have O := Lib.hid hown
      have BX := Lib.hid hbx
      have LO := Lib.hid hlow
      have hzr := hlow.size
      have hlb := HLB.out k
      have hga : w.heap.size + 1 ≤ ga ∧ ga < wr.heap.size := hown.lt _ rfl
      have hxl := hbx.lt
      clear hown hbx hlow
      obtain ⟨c0, c1, c2⟩ := BX.out.cells
      by_cases hkl : k < m.pulls.length
      · have hks : (k : Int) < m.size := by omega
        have HS1 := Lib.hid (HSU.out k hkl)
        obtain ⟨pb, po, rfl, _, hpb, hcell⟩ := (H.out.below LO.out hz).pulls.at_ (k := k) (by rw [M.encIs_len]; exact hkl)
        have p0 := hcell _ _ (M.encIs_at hkl)
        clear hcell
        have hpbl : pb < w.heap.size := by omega
        have HP0 : Hid (∀ W' : World, Below w.heap.size w W' → W'.cell? ⟨pb, po + k, none⟩ = some (.int .i64 m.pulls[k])) := Lib.hid fun W' hb' => by
          obtain ⟨pb2, po2, e, _, _, hcell⟩ := (H.out.below hb' hz).pulls.at_ (k := k) (by rw [M.encIs_len]; exact hkl)
          cases e
          exact hcell _ _ (M.encIs_at hkl)
        have HCO := Lib.hid (l1Has_any wr (w.heap.size + 1) wr.heap.size (some ⟨ga, 0, none⟩) ca (M.spnS m k) m.pulls[k] (OwnAt.of_own O.out).row (by omega))
        generalize m.pulls[k] = p at *
        generalize hLL : M.spnS m k = L at *
        clear hLL
        cases q1 : M.memB L p with
        | true =>
          have HN := Lib.hid (HS1.out.trans (M.spanS_old q1))
          rw [q1] at HCO
          clear q1
          go_wp2_with fail
          refine (HCO.out).mono ?_
          rintro e w5 ⟨rfl, rfl⟩
          go_wp2_with fail
          go_roundw
          case rel => exact ⟨k + 1, ga, ca, by omega, by go_num, by rw [HN.out], by rw [HN.out]; exact O.out, BX.out, LO.out⟩
          case measure => simp [intOf]; omega
        | false =>
          have HN := Lib.hid (HS1.out.trans (M.spanS_new q1))
          rw [q1] at HCO
          clear q1
          have hw1 : IntKind.i64.wrap ((L.length : Int) - 1) = (L.length : Int) - 1 := IntWalk.i64_in _ (by omega)
          go_wp2_with fail
          refine (HCO.out).mono ?_
          rintro e w5 ⟨rfl, rfl⟩
          go_wp2_with fail
          generalize wr.heap.size = g5 at *
          go_loopw [4, 6] (fun v4 v6 wr => ∃ (j gb cb : Nat), j ≤ L.length ∧ v6 = .int .i64 ((L.length : Int) - 1 - (j : Int)) ∧ v4 = .slice (some ⟨gb, 0, none⟩) (L.length + j) cb ∧ wr.ownsRow (w.heap.size + 1) 3 1 v4 (L.length + j) (M.encIs (L ++ (L.reverse.map (M.xorP p)).take j)) ∧ Box3 wr w.heap.size 28 (.int .i64 m.size) (.slice a m.gates.length c) (.slice (some ⟨pb, po, none⟩) m.pulls.length d) ∧ Below w.heap.size w wr) (fun _ v6 _ => (intOf v6 + 1).toNat)
          case atStart => exact ⟨0, ga, ca, Nat.zero_le _, by congr 1; omega, rfl, by rw [List.take_zero, List.append_nil]; exact O.out, BX.out, LO.out⟩
          case round =>
            obtain ⟨j, gb, cb, hj, rfl, rfl, hoj, hbx, hlow⟩ := hrel
            have OJ := Lib.hid hoj
            have BJ := Lib.hid hbx
            have LJ := Lib.hid hlow
            have hzj := hlow.size
            have hgb : w.heap.size + 1 ≤ gb ∧ gb < wr.heap.size := hoj.lt _ rfl
            have hxj := hbx.lt
            clear hoj hbx hlow c0 c1 c2
            obtain ⟨c0, c1, c2⟩ := BJ.out.cells
            by_cases hjl : j < L.length
            · obtain ⟨i, hi⟩ : ∃ i : Nat, i = L.length - 1 - j := ⟨_, rfl⟩
              have hii : (L.length : Int) - 1 - (j : Int) = (i : Int) := by omega
              have hil : i < L.length := by omega
              have y0 : wr.cell? ⟨gb, i, none⟩ = some (.int .i64 L[i]) := by rw [OJ.out.cellAt i (by omega), M.encIs_append, List.getElem?_append_left (by rw [M.encIs_len]; exact hil), M.encIs_at hil]
              have HT := M.rev_take_succ (f := M.xorP p) hjl
              have hLi : L[L.length - 1 - j]'(by omega) = L[i] := by congr 1; exact hi.symm
              rw [hLi] at HT
              have HTT := Lib.hid HT
              have HXI := Lib.hid (M.encIs_at hil)
              have p1 := HP0.out wr LJ.out
              have hpr : pb < wr.heap.size := by omega
              have hcb : L.length + j ≤ cb := by obtain ⟨_, _, e9, h9, _⟩ := own_slice OJ.out; cases e9; omega
              clear HT hLi
              rw [hii]
              generalize L[i] = x at *
              have hxp : M.xorP p x = bits .xor .i64 x p := rfl
              have HI := Lib.hid hi
              have hil2 : (i : Int) < (L.length : Int) + (j : Int) := by omega
              have hin0 : 0 ≤ (i : Int) := by omega
              clear hi hii
              go_wp2_with fail
              refine wp_region_late2 (fun (wq : World) => wq.cell? ⟨w.heap.size, 2, none⟩ = some (.slice (some ⟨pb, po, none⟩) m.pulls.length d) ∧ wq.cell? ⟨pb, po + k, none⟩ = some (.int .i64 p) ∧ wq.cell? ⟨gb, i, none⟩ = some (.int .i64 x)) [] 14 #[false, false, false, false, false, false, false, false, false, false, false, false, false, false] rfl rfl (by kernel_rfl) ?_
              have hS : (fun (wq : World) => wq.cell? ⟨w.heap.size, 2, none⟩ = some (.slice (some ⟨pb, po, none⟩) m.pulls.length d) ∧ wq.cell? ⟨pb, po + k, none⟩ = some (.int .i64 p) ∧ wq.cell? ⟨gb, i, none⟩ = some (.int .i64 x)) wr.drew := ⟨c2, p1, y0⟩
              refine wpAnyL_take (i := 0) (oi := { dst := some 31, op := Go.Op.move (Go.Operand.tmp 4), type := 23, pos := "l8_levers.go:237", after := #[], guard := none }) (v := ?pv0) rfl (by kernel_rfl) (by kernel_rfl) (by kernel_rfl) (by kernel_rfl) (fun _ _ _ h => h) (Or.inl ⟨by rfl, ?ph0⟩) hS ?pr0
              case ph0 => (intro wS hSw; (try dsimp only at hSw); go_split_ands; go_simp; try with_reducible rfl)
              try simp only [Act.put, List.setIfInBounds_toArray, List.set_cons_zero, List.set_cons_succ]
              refine wpAnyL_take (i := 1) (oi := { dst := some 32, op := Go.Op.move (Go.Operand.tmp 4), type := 23, pos := "l8_levers.go:237", after := #[], guard := none }) (v := ?pv1) rfl (by kernel_rfl) (by kernel_rfl) (by kernel_rfl) (by kernel_rfl) (fun _ _ _ h => h) (Or.inl ⟨by rfl, ?ph1⟩) hS ?pr1
              case ph1 => (intro wS hSw; (try dsimp only at hSw); go_split_ands; go_simp; try with_reducible rfl)
              try simp only [Act.put, List.setIfInBounds_toArray, List.set_cons_zero, List.set_cons_succ]
              refine wpAnyL_take (i := 2) (oi := { dst := some 33, op := Go.Op.move (Go.Operand.tmp 6), type := 3, pos := "l8_levers.go:237", after := #[], guard := none }) (v := ?pv2) rfl (by kernel_rfl) (by kernel_rfl) (by kernel_rfl) (by kernel_rfl) (fun _ _ _ h => h) (Or.inl ⟨by rfl, ?ph2⟩) hS ?pr2
              case ph2 => (intro wS hSw; (try dsimp only at hSw); go_split_ands; go_simp; try with_reducible rfl)
              try simp only [Act.put, List.setIfInBounds_toArray, List.set_cons_zero, List.set_cons_succ]
              refine wpAnyL_take (i := 3) (oi := { dst := some 34, op := Go.Op.indexAddr 23 (Go.Operand.tmp 32) (Go.Operand.tmp 33), type := 0, pos := "l8_levers.go:237", after := #[{ on := 1, ground := Go.Ground.data }, { on := 2, ground := Go.Ground.data }], guard := none }) (v := ?pv3) rfl (by kernel_rfl) (by kernel_rfl) (by kernel_rfl) (by kernel_rfl) (fun _ _ _ h => h) (Or.inl ⟨by rfl, ?ph3⟩) hS ?pr3
              case ph3 => (intro wS hSw; (try dsimp only at hSw); go_split_ands; go_simp; try with_reducible rfl)
              try simp only [Act.put, List.setIfInBounds_toArray, List.set_cons_zero, List.set_cons_succ]
              refine wpAnyL_take (i := 4) (oi := { dst := some 35, op := Go.Op.load 3 (Go.Operand.tmp 34), type := 3, pos := "l8_levers.go:237", after := #[{ on := 3, ground := Go.Ground.data }], guard := none }) (v := ?pv4) rfl (by kernel_rfl) (by kernel_rfl) (by kernel_rfl) (by kernel_rfl) (fun _ _ _ h => h) (Or.inl ⟨by rfl, ?ph4⟩) hS ?pr4
              case ph4 => (intro wS hSw; (try dsimp only at hSw); go_split_ands; go_simp; try with_reducible rfl)
              try simp only [Act.put, List.setIfInBounds_toArray, List.set_cons_zero, List.set_cons_succ]
              refine wpAnyL_take (i := 5) (oi := { dst := some 36, op := Go.Op.fieldAddr 28 (Go.Operand.tmp 1) 2, type := 0, pos := "l8_levers.go:237", after := #[], guard := none }) (v := ?pv5) rfl (by kernel_rfl) (by kernel_rfl) (by kernel_rfl) (by kernel_rfl) (fun _ _ _ h => h) (Or.inl ⟨by rfl, ?ph5⟩) hS ?pr5
              case ph5 => (intro wS hSw; (try dsimp only at hSw); go_split_ands; go_simp; try with_reducible rfl)
              try simp only [Act.put, List.setIfInBounds_toArray, List.set_cons_zero, List.set_cons_succ]
              refine wpAnyL_take (i := 6) (oi := { dst := some 37, op := Go.Op.load 23 (Go.Operand.tmp 36), type := 23, pos := "l8_levers.go:237", after := #[{ on := 5, ground := Go.Ground.data }], guard := none }) (v := ?pv6) rfl (by kernel_rfl) (by kernel_rfl) (by kernel_rfl) (by kernel_rfl) (fun _ _ _ h => h) (Or.inl ⟨by rfl, ?ph6⟩) hS ?pr6
              case ph6 => (intro wS hSw; (try dsimp only at hSw); go_split_ands; go_simp; try with_reducible rfl)
              try simp only [Act.put, List.setIfInBounds_toArray, List.set_cons_zero, List.set_cons_succ]
              refine wpAnyL_take (i := 7) (oi := { dst := some 38, op := Go.Op.move (Go.Operand.tmp 5), type := 3, pos := "l8_levers.go:237", after := #[], guard := none }) (v := ?pv7) rfl (by kernel_rfl) (by kernel_rfl) (by kernel_rfl) (by kernel_rfl) (fun _ _ _ h => h) (Or.inl ⟨by rfl, ?ph7⟩) hS ?pr7
              case ph7 => (intro wS hSw; (try dsimp only at hSw); go_split_ands; go_simp; try with_reducible rfl)
              try simp only [Act.put, List.setIfInBounds_toArray, List.set_cons_zero, List.set_cons_succ]
              refine wpAnyL_take (i := 8) (oi := { dst := some 39, op := Go.Op.indexAddr 23 (Go.Operand.tmp 37) (Go.Operand.tmp 38), type := 0, pos := "l8_levers.go:237", after := #[{ on := 6, ground := Go.Ground.data }, { on := 7, ground := Go.Ground.data }], guard := none }) (v := ?pv8) rfl (by kernel_rfl) (by kernel_rfl) (by kernel_rfl) (by kernel_rfl) (fun _ _ _ h => h) (Or.inl ⟨by rfl, ?ph8⟩) hS ?pr8
              case ph8 => (intro wS hSw; (try dsimp only at hSw); go_split_ands; go_simp; try with_reducible rfl)
              try simp only [Act.put, List.setIfInBounds_toArray, List.set_cons_zero, List.set_cons_succ]
              refine wpAnyL_take (i := 9) (oi := { dst := some 40, op := Go.Op.load 3 (Go.Operand.tmp 39), type := 3, pos := "l8_levers.go:237", after := #[{ on := 8, ground := Go.Ground.data }], guard := none }) (v := ?pv9) rfl (by kernel_rfl) (by kernel_rfl) (by kernel_rfl) (by kernel_rfl) (fun _ _ _ h => h) (Or.inl ⟨by rfl, ?ph9⟩) hS ?pr9
              case ph9 => (intro wS hSw; (try dsimp only at hSw); go_split_ands; go_simp; try with_reducible rfl)
              try simp only [Act.put, List.setIfInBounds_toArray, List.set_cons_zero, List.set_cons_succ]
              refine wpAnyL_take (i := 10) (oi := { dst := some 41, op := Go.Op.binOp Go.BinOp.xor 3 (Go.Operand.tmp 35) (Go.Operand.tmp 40) 3, type := 3, pos := "l8_levers.go:237", after := #[{ on := 4, ground := Go.Ground.data }, { on := 9, ground := Go.Ground.data }], guard := none }) (v := ?pv10) rfl (by kernel_rfl) (by kernel_rfl) (by kernel_rfl) (by kernel_rfl) (fun _ _ _ h => h) (Or.inl ⟨by rfl, ?ph10⟩) hS ?pr10
              case ph10 => (intro wS hSw; (try dsimp only at hSw); go_split_ands; go_simp; try with_reducible rfl)
              try simp only [Act.put, List.setIfInBounds_toArray, List.set_cons_zero, List.set_cons_succ]
              refine wpAnyL_one (i := 11) (oi := { dst := some 42, op := Go.Op.buildSlice 23 1 #[(0, Go.Operand.tmp 41)], type := 23, pos := "l8_levers.go:237", after := #[{ on := 10, ground := Go.Ground.data }], guard := none }) (by kernel_rfl) rfl (fun Kp11 hKp11 => ?_)
              go_simp
              have hszA : (wr.alloc (.cells #[.int .i64 (bits .xor .i64 x p)] 3)).drew.heap.size = wr.heap.size + 1 := World.size_alloc _ _
              have hS11 : (fun (wq : World) => wq.cell? ⟨w.heap.size, 2, none⟩ = some (.slice (some ⟨pb, po, none⟩) m.pulls.length d) ∧ wq.cell? ⟨pb, po + k, none⟩ = some (.int .i64 p) ∧ wq.cell? ⟨gb, i, none⟩ = some (.int .i64 x)) (wr.alloc (.cells #[.int .i64 (bits .xor .i64 x p)] 3)).drew := ⟨((below_alloc wr _).cell (p := ⟨w.heap.size, 2, none⟩) hxj).trans c2, ((below_alloc wr _).cell (p := ⟨pb, po + k, none⟩) hpr).trans p1, ((below_alloc wr _).cell (p := ⟨gb, i, none⟩) hgb.2).trans y0⟩
              refine hKp11 _ _ (fun _ => hS11) ?_
              clear hS
              have hS := hS11
              try simp only [Act.put, List.setIfInBounds_toArray, List.set_cons_zero, List.set_cons_succ]
              refine wpAnyL_one (i := 12) (oi := { dst := some 43, op := Go.Op.call { callee := Go.Callee.builtin Go.Builtin.append, args := #[Go.Operand.tmp 31, Go.Operand.tmp 42], argTypes := #[23, 23] }, type := 23, pos := "l8_levers.go:237", after := #[{ on := 0, ground := Go.Ground.data }, { on := 11, ground := Go.Ground.data }], guard := none }) (by kernel_rfl) rfl (fun Kp12 hKp12 => ?_)
              refine step_append_keep _ rfl _ _ 23 rfl (w.heap.size + 1) 3 ii0 (.int .i64 0) 1 8 Try.underlying23 hi0 hz0 hzz1 hz2 rfl (by decide) gb (L.length + j) cb _ rfl (show (wr.alloc (.cells #[.int .i64 (bits .xor .i64 x p)] 3)).drew.ownsRow _ _ _ _ _ _ from OJ.out.alloc _) ⟨wr.heap.size, 0, none⟩ 1 1 [.int .i64 (M.xorP p x)] rfl rfl (cell_one_new wr _ _) (fun u hu => by simp at hu; subst hu; rfl) (by decide) (by unfold maxLen; omega) (by omega) (by rw [hszA]; omega) ?_
              intro g7 c7 w7 hown7 hgrow7 hat7 hlt7
              have hS12 : (fun (wq : World) => wq.cell? ⟨w.heap.size, 2, none⟩ = some (.slice (some ⟨pb, po, none⟩) m.pulls.length d) ∧ wq.cell? ⟨pb, po + k, none⟩ = some (.int .i64 p) ∧ wq.cell? ⟨gb, i, none⟩ = some (.int .i64 x)) w7 := ⟨(hgrow7.cell_far ⟨w.heap.size, 2, none⟩ (by rw [hszA]; show w.heap.size < wr.heap.size + 1; omega) (by intro e; injection e with e; have e : w.heap.size = gb := e; omega)).trans hS11.1, (hgrow7.cell_far ⟨pb, po + k, none⟩ (by rw [hszA]; show pb < wr.heap.size + 1; omega) (by intro e; injection e with e; have e : pb = gb := e; omega)).trans hS11.2.1, by
                rcases hat7 with rfl | ⟨rfl, hold⟩
                · rw [hown7.cellAt i (by omega), M.encIs_append, List.append_assoc, List.getElem?_append_left (by rw [M.encIs_len]; exact hil)]
                  exact HXI.out
                · rw [World.cell?_of_block (hold gb (by rw [hszA]; omega))]
                  exact hS11.2.2⟩
              refine hKp12 _ _ (fun _ => hS12) ?_
              clear hS
              have hS := hS12
              try simp only [Act.put, List.setIfInBounds_toArray, List.set_cons_zero, List.set_cons_succ]
              refine wpAnyL_take (i := 13) (oi := { dst := some 4, op := Go.Op.assign (Go.Operand.tmp 43), type := 23, pos := "l8_levers.go:237", after := #[{ on := 12, ground := Go.Ground.data }, { on := 12, ground := Go.Ground.chain }, { on := 0, ground := Go.Ground.phase }, { on := 1, ground := Go.Ground.phase }, { on := 2, ground := Go.Ground.phase }, { on := 3, ground := Go.Ground.phase }, { on := 4, ground := Go.Ground.phase }, { on := 5, ground := Go.Ground.phase }, { on := 6, ground := Go.Ground.phase }, { on := 7, ground := Go.Ground.phase }, { on := 8, ground := Go.Ground.phase }, { on := 9, ground := Go.Ground.phase }, { on := 10, ground := Go.Ground.phase }, { on := 11, ground := Go.Ground.phase }, { on := 12, ground := Go.Ground.phase }], guard := none }) (v := ?pv13) rfl (by kernel_rfl) (by kernel_rfl) (by kernel_rfl) (by kernel_rfl) (fun _ _ _ h => h) (Or.inl ⟨by rfl, ?ph13⟩) hS ?pr13
              case ph13 => (intro wS hSw; (try dsimp only at hSw); go_split_ands; go_simp; try with_reducible rfl)
              try simp only [Act.put, List.setIfInBounds_toArray, List.set_cons_zero, List.set_cons_succ]
              refine wpAnyL_done (by kernel_rfl) ?_ _
              clear hS hS11 hS12 c0 c1 c2 y0 p1
              go_wp2_with fail
              go_roundw
              case rel =>
                have hi := HI.out
                have hsz7 := hgrow7.size
                rw [hszA] at hsz7
                refine ⟨j + 1, g7, c7, by omega, by go_num, by rw [Nat.add_assoc], ?_, ?_, ?_⟩
                · rw [HTT.out, ← List.append_assoc, M.encIs_append]
                  exact hown7
                · exact (show Box3 (wr.alloc (.cells #[.int .i64 (bits .xor .i64 x p)] 3)).drew _ _ _ _ _ from BJ.out.alloc _).grown hgrow7 (by simp; omega)
                · exact (Below.drawnN (LJ.out.alloc (by omega) (.cells #[.int .i64 (bits .xor .i64 x p)] 3)) 1).grown hgrow7 (by show _ ≤ (wr.alloc (.cells #[.int .i64 (bits .xor .i64 x p)] 3)).drew.heap.size; rw [hszA]; omega) (fun z hz => by injection hz with hz; omega)
              case measure => have hi := HI.out; simp [intOf] <;> omega
            · obtain rfl : j = L.length := by omega
              have HLN : Hid ((M.spnS m (k + 1)).length = L.length + L.length) := Lib.hid (by rw [HN.out, List.length_append, List.length_map, List.length_reverse])
              have OE := OJ.out
              rw [List.take_of_length_le (by rw [List.length_map, List.length_reverse]; exact Nat.le_refl _), ← HN.out] at OE
              have OEH := Lib.hid OE
              clear OE
              go_wp2_with fail
              go_roundw
              case rel => exact ⟨k + 1, gb, cb, by omega, by go_num, by rw [HLN.out], by rw [HLN.out]; exact OEH.out, BJ.out, LJ.out⟩
              case measure => simp [intOf]; omega
      · have hks : ¬ (k : Int) < m.size := by omega
        obtain rfl : k = m.pulls.length := by omega
        go_wp2_with fail
        go_ret2
        rw [HVS.out, HM.out, HSAME.out]
        exact ⟨rfl, LO.out⟩
end C
end Go.Proofs.Ytdgfceiobpnchaa
