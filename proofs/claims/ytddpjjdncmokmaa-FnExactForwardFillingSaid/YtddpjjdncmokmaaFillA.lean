/-
  CONTRACTS of slices.Equal at numbers, isOrderOf and areChoices of the program. No condition but that the lists read so.
-/
import Derived.Test.YtddpjjdncmokmaaFilQ
import Derived.Test.YtddpjjdncmokmaaSrtI8
import Derived.Test.YtddpjjdncmokmaaWCBefore
import Derived.Test.YtddpjjdncmokmaaWBDigitsI
import Derived.Test.YtddpjjdncmokmaaNode
import Derived.Test.YtddpjjdncmokmaaWHClose
import Derived.Deep.DeepCutAuto
namespace Go.Proofs.Ytddpjjdncmokmaa
open Go.RowKit
namespace C
set_option linter.unusedVariables false
set_option maxHeartbeats 3200000
set_option maxRecDepth 20000
theorem equal9_any (w : World) (lo hi lo' hi' : Nat) (a b : Option Addr) (c d : Nat) (l l' : List Int) (h1 : RowIn lo hi w a (M.encIs l)) (h2 : RowIn lo' hi' w b (M.encIs l')) (hz1 : hi ≤ w.heap.size) (hz2 : hi' ≤ w.heap.size) (hl : l.length ≤ 1048576) (hl' : l'.length ≤ 1048576) :
    Calls Try.prog 135 #[.slice a l.length c, .slice b l'.length d] w (BoolPost w (decide (l = l'))) := by
  have H1 := Lib.hid h1
  have H2 := Lib.hid h2
  clear h1 h2
  by_cases hq : l.length = l'.length
  · have HQ := Lib.hid hq
    have hb1 : ((l.length : Int) != (l'.length : Int)) = false := by rw [bne_eq_false_iff_eq]; omega
    have HEQ := Lib.hid (fun (h : ∀ j (hj : j < l.length) (hj' : j < l'.length), l[j] = l'[j]) => show decide (l = l') = true from decide_eq_true (List.ext_getElem hq fun i h1 h2 => h i h1 h2))
    have HNE := Lib.hid (fun k (hk : k < l.length) (hk' : k < l'.length) (h : l[k] ≠ l'[k]) => show decide (l = l') = false from decide_eq_false (by rintro rfl; exact h rfl))
    clear hq
    go_enter Try.func135, Try.ntmps135
    go_wp2_with fail
    go_loopw [5, 13] (fun _ i wr => ∃ (k : Nat), k ≤ l.length ∧ i = .int .i64 (k : Int) ∧ (∀ j (hj : j < l.length) (hj' : j < l'.length), j < k → l[j] = l'[j]) ∧ Below w.heap.size w wr) (fun _ i _ => l.length - (intOf i).toNat)
    case atStart => exact ⟨0, Nat.zero_le _, rfl, fun j _ _ h => by omega, Below.refl _ _⟩
    case round =>
      obtain ⟨k, hk, rfl, hall, hlow⟩ := hrel
      have HA := Lib.hid hall
      have LO := Lib.hid hlow
      have hzr := hlow.size
      clear hall hlow
      by_cases hlt : k < l.length
      · have hlt' : k < l'.length := by have := HQ.out; omega
        obtain ⟨g1, o1, rfl, _, _, hc0⟩ := (H1.out.below LO.out hz1).at_ (k := k) (by rw [M.encIs_len]; exact hlt)
        obtain ⟨g2, o2, rfl, _, _, hd0⟩ := (H2.out.below LO.out hz2).at_ (k := k) (by rw [M.encIs_len]; exact hlt')
        have hx1 := hc0 k _ (M.encIs_at hlt)
        have hy1 := hd0 k _ (M.encIs_at hlt')
        have HN := Lib.hid (HNE.out k hlt hlt')
        have HY := Lib.hid (fun (h : l[k] = l'[k]) (j : Nat) (hj : j < l.length) (hj' : j < l'.length) (hjk : j < k + 1) => show l[j] = l'[j] from by
          rcases Nat.lt_or_ge j k with h' | h'
          · exact HA.out j hj hj' h'
          · obtain rfl : j = k := by omega
            exact h)
        clear hc0 hd0
        have hlt2 : (k : Int) < (l'.length : Int) := by omega
        generalize l[k] = x at *
        generalize l'[k] = y at *
        go_wp2_with fail
        refine wp_region_late2 (fun (wq : World) => wq.cell? ⟨g1, o1 + k, none⟩ = some (.int .i64 x) ∧ wq.cell? ⟨g2, o2 + k, none⟩ = some (.int .i64 y)) [] 9 #[false, false, false, false, false, false, false, false, false] rfl rfl (by kernel_rfl) ?_
        have hS : (fun (wq : World) => wq.cell? ⟨g1, o1 + k, none⟩ = some (.int .i64 x) ∧ wq.cell? ⟨g2, o2 + k, none⟩ = some (.int .i64 y)) wr.drew := ⟨hx1, hy1⟩
        refine wpAnyL_take (i := 0) (oi := { dst := some 16, op := Go.Op.move (Go.Operand.tmp 0), type := 23, pos := "slices.go:25", after := #[], guard := none }) (v := ?pv0) rfl (by kernel_rfl) (by kernel_rfl) (by kernel_rfl) (by kernel_rfl) (fun _ _ _ h => h) (Or.inl ⟨by rfl, ?ph0⟩) hS ?pr0
        case ph0 => (intro wS hSw; (try dsimp only at hSw); go_split_ands; go_simp; try with_reducible rfl)
        try simp only [Act.put, List.setIfInBounds_toArray, List.set_cons_zero, List.set_cons_succ]
        refine wpAnyL_take (i := 1) (oi := { dst := some 17, op := Go.Op.move (Go.Operand.tmp 5), type := 3, pos := "slices.go:25", after := #[], guard := none }) (v := ?pv1) rfl (by kernel_rfl) (by kernel_rfl) (by kernel_rfl) (by kernel_rfl) (fun _ _ _ h => h) (Or.inl ⟨by rfl, ?ph1⟩) hS ?pr1
        case ph1 => (intro wS hSw; (try dsimp only at hSw); go_split_ands; go_simp; try with_reducible rfl)
        try simp only [Act.put, List.setIfInBounds_toArray, List.set_cons_zero, List.set_cons_succ]
        refine wpAnyL_take (i := 2) (oi := { dst := some 18, op := Go.Op.indexAddr 23 (Go.Operand.tmp 16) (Go.Operand.tmp 17), type := 0, pos := "slices.go:25", after := #[{ on := 0, ground := Go.Ground.data }, { on := 1, ground := Go.Ground.data }], guard := none }) (v := ?pv2) rfl (by kernel_rfl) (by kernel_rfl) (by kernel_rfl) (by kernel_rfl) (fun _ _ _ h => h) (Or.inl ⟨by rfl, ?ph2⟩) hS ?pr2
        case ph2 => (intro wS hSw; (try dsimp only at hSw); go_split_ands; go_simp; try with_reducible rfl)
        try simp only [Act.put, List.setIfInBounds_toArray, List.set_cons_zero, List.set_cons_succ]
        refine wpAnyL_take (i := 3) (oi := { dst := some 19, op := Go.Op.load 3 (Go.Operand.tmp 18), type := 3, pos := "slices.go:25", after := #[{ on := 2, ground := Go.Ground.data }], guard := none }) (v := ?pv3) rfl (by kernel_rfl) (by kernel_rfl) (by kernel_rfl) (by kernel_rfl) (fun _ _ _ h => h) (Or.inl ⟨by rfl, ?ph3⟩) hS ?pr3
        case ph3 => (intro wS hSw; (try dsimp only at hSw); go_split_ands; go_simp; try with_reducible rfl)
        try simp only [Act.put, List.setIfInBounds_toArray, List.set_cons_zero, List.set_cons_succ]
        refine wpAnyL_take (i := 4) (oi := { dst := some 20, op := Go.Op.move (Go.Operand.tmp 1), type := 23, pos := "slices.go:25", after := #[], guard := none }) (v := ?pv4) rfl (by kernel_rfl) (by kernel_rfl) (by kernel_rfl) (by kernel_rfl) (fun _ _ _ h => h) (Or.inl ⟨by rfl, ?ph4⟩) hS ?pr4
        case ph4 => (intro wS hSw; (try dsimp only at hSw); go_split_ands; go_simp; try with_reducible rfl)
        try simp only [Act.put, List.setIfInBounds_toArray, List.set_cons_zero, List.set_cons_succ]
        refine wpAnyL_take (i := 5) (oi := { dst := some 21, op := Go.Op.move (Go.Operand.tmp 5), type := 3, pos := "slices.go:25", after := #[], guard := none }) (v := ?pv5) rfl (by kernel_rfl) (by kernel_rfl) (by kernel_rfl) (by kernel_rfl) (fun _ _ _ h => h) (Or.inl ⟨by rfl, ?ph5⟩) hS ?pr5
        case ph5 => (intro wS hSw; (try dsimp only at hSw); go_split_ands; go_simp; try with_reducible rfl)
        try simp only [Act.put, List.setIfInBounds_toArray, List.set_cons_zero, List.set_cons_succ]
        refine wpAnyL_take (i := 6) (oi := { dst := some 22, op := Go.Op.indexAddr 23 (Go.Operand.tmp 20) (Go.Operand.tmp 21), type := 0, pos := "slices.go:25", after := #[{ on := 4, ground := Go.Ground.data }, { on := 5, ground := Go.Ground.data }], guard := none }) (v := ?pv6) rfl (by kernel_rfl) (by kernel_rfl) (by kernel_rfl) (by kernel_rfl) (fun _ _ _ h => h) (Or.inl ⟨by rfl, ?ph6⟩) hS ?pr6
        case ph6 => (intro wS hSw; (try dsimp only at hSw); go_split_ands; go_simp; try with_reducible rfl)
        try simp only [Act.put, List.setIfInBounds_toArray, List.set_cons_zero, List.set_cons_succ]
        refine wpAnyL_take (i := 7) (oi := { dst := some 23, op := Go.Op.load 3 (Go.Operand.tmp 22), type := 3, pos := "slices.go:25", after := #[{ on := 6, ground := Go.Ground.data }], guard := none }) (v := ?pv7) rfl (by kernel_rfl) (by kernel_rfl) (by kernel_rfl) (by kernel_rfl) (fun _ _ _ h => h) (Or.inl ⟨by rfl, ?ph7⟩) hS ?pr7
        case ph7 => (intro wS hSw; (try dsimp only at hSw); go_split_ands; go_simp; try with_reducible rfl)
        try simp only [Act.put, List.setIfInBounds_toArray, List.set_cons_zero, List.set_cons_succ]
        refine wpAnyL_take (i := 8) (oi := { dst := some 24, op := Go.Op.binOp Go.BinOp.neq 3 (Go.Operand.tmp 19) (Go.Operand.tmp 23) 3, type := 4, pos := "slices.go:25", after := #[{ on := 3, ground := Go.Ground.data }, { on := 7, ground := Go.Ground.data }], guard := none }) (v := ?pv8) rfl (by kernel_rfl) (by kernel_rfl) (by kernel_rfl) (by kernel_rfl) (fun _ _ _ h => h) (Or.inl ⟨by rfl, ?ph8⟩) hS ?pr8
        case ph8 => (intro wS hSw; (try dsimp only at hSw); go_split_ands; go_simp; try with_reducible rfl)
        try simp only [Act.put, List.setIfInBounds_toArray, List.set_cons_zero, List.set_cons_succ]
        refine wpAnyL_done (by kernel_rfl) ?_ _
        by_cases hxy : x = y
        · have HY' := Lib.hid (HY.out hxy)
          have hb2 : (x != y) = false := by rw [bne_eq_false_iff_eq]; exact hxy
          clear hxy HY HN
          go_wp2_with fail
          go_roundw
          case rel => exact ⟨k + 1, by omega, by go_num, HY'.out, Below.drawnN LO.out 1⟩
          case measure => simp [intOf]; omega
        · have HN' := Lib.hid (HN.out hxy)
          have hb2 : (x != y) = true := by rw [bne_iff_ne]; exact hxy
          clear hxy HY HN
          go_wp2_with fail
          go_ret
          exact ⟨by rw [HN'.out]; rfl, Below.drawnN LO.out 1⟩
      · obtain rfl : k = l.length := by omega
        have HE := Lib.hid (HEQ.out fun j hj hj' => HA.out j hj hj' hj)
        go_wp2_with fail
        go_ret
        exact ⟨by rw [HE.out]; rfl, LO.out⟩
  · have hb1 : ((l.length : Int) != (l'.length : Int)) = true := by rw [bne_iff_ne]; omega
    have HN : Hid (decide (l = l') = false) := Lib.hid (decide_eq_false (by rintro rfl; exact hq rfl))
    clear hq
    go_enter Try.func135, Try.ntmps135
    go_wp2_with fail
    go_ret
    exact ⟨by rw [HN.out]; rfl, Below.refl _ _⟩
theorem sortI_all (w : World) (lo hi : Nat) (a : Option Addr) (c : Nat) (l : List Int) (h : OwnAt lo hi w 3 a (M.encIs l)) (hl : l.length ≤ 1048576) :
    Calls Try.prog 134 #[.slice a l.length c] w fun e w' => e = .returned (.tuple #[]) ∧ OwnAt lo hi w' 3 a (M.encIs (M.srtI l)) ∧ Turned lo hi w w' := by
  by_cases hn : l = []
  · subst hn
    refine (sortNone_any w a c).mono ?_
    rintro e w' ⟨rfl, rfl⟩
    have e : M.srtI [] = [] := by unfold M.srtI; simp
    exact ⟨rfl, by rw [e]; exact OwnAt.nil _ _ _ _ _, Turned.refl _ _ _⟩
  · exact sortInts_any w lo hi a c l h hn hl
theorem digitsS_any (s : Int) (hs : M.setB s = true) (w : World) : Calls Try.prog 58 #[.int .i64 s] w (IntsPost w (M.colours s)) := by
  have h' := M.setB_iff.1 hs
  have h := digits_any s.toNat (by omega) w
  rw [M.colours12 hs] at h
  rwa [show ((s.toNat : Nat) : Int) = s from by omega] at h
theorem isOrder_any (w : World) (s : Int) (hs : M.setB s = true) (ol oh : Nat) (oa : Option Addr) (oc : Nat) (o : List Int) (ho : RowIn ol oh w oa (M.encIs o)) (hzo : oh ≤ w.heap.size) (hlo : o.length ≤ 1048576) :
    Calls Try.prog 118 #[.int .i64 s, .slice oa o.length oc] w (BoolPost w (M.orderSB s o)) := by
  have HO := Lib.hid ho
  have HE := Lib.hid (M.order_srt hs o)
  have HD := Lib.hid (fun W => digitsS_any s hs W)
  have hm6 := M.many_le s
  have hcl6 : (M.colours s).length ≤ 1048576 := by unfold M.manyC at hm6; omega
  have HCL := Lib.hid (cloneInts_any w ol oh oa oc o ho hzo hlo)
  have HSL := Lib.hid (M.srtI_len o)
  clear ho hm6
  go_enter Try.func118, Try.ntmps118
  go_wp2_with fail
  refine HCL.out.mono ?_
  rintro e w1 ⟨ra, rc, rfl, hr, hr1, hr2, hb1⟩
  have HS := Lib.hid (sortI_all w1 _ _ ra rc o hr hlo)
  have B1 := Lib.hid hb1
  have hz1 := hb1.size
  clear hr hb1 HCL
  go_wp2_with fail
  refine HS.out.mono ?_
  rintro e w2 ⟨rfl, hr, ht⟩
  have HR := Lib.hid hr.row
  have B2 := Lib.hid (Below.thenTurned B1.out ht (by omega) (by omega))
  have hz2 := ht.size
  clear hr ht
  go_wp2_with fail
  refine (HD.out _).mono ?_
  rintro e w3 ⟨qa, qc, rfl, hq, hq1, hq2, hb3⟩
  have HEQ := Lib.hid (equal9_any w3 _ _ _ _ ra qa rc qc (M.srtI o) (M.colours s) (HR.out.below hb3 (by omega)) hq.row (by have := hb3.size; omega) (Nat.le_refl _) (by rw [HSL.out]; exact hlo) hcl6)
  rw [HSL.out] at HEQ
  have B3 := Lib.hid (B2.out.trans (hb3.mono (by omega)))
  have hz3 := hb3.size
  clear hq hb3
  go_wp2_with fail
  refine HEQ.out.mono ?_
  rintro e w4 ⟨rfl, hb4⟩
  have B4 := Lib.hid (B3.out.trans (hb4.mono (by omega)))
  clear hb4
  go_wp2_with fail
  go_ret
  exact ⟨by rw [← HE.out]; rfl, B4.out⟩
theorem neg9_any (x : Int) (w : World) : Calls Try.prog 136 #[.int .i64 x] w fun e w' => e = .returned (.bool (!decide (0 ≤ x))) ∧ w = w' := by
  by_cases hx : x < 0
  · have HN : Hid (decide (0 ≤ x) = false) := Lib.hid (decide_eq_false (by omega))
    go_enter Try.func136, Try.ntmps136
    go_wp2_with fail
    go_ret
    exact ⟨by first | rfl | (rw [HN.out]; rfl), rfl⟩
  · have HN : Hid (decide (0 ≤ x) = true) := Lib.hid (decide_eq_true (by omega))
    go_enter Try.func136, Try.ntmps136
    go_wp2_with fail
    go_ret
    exact ⟨by first | rfl | (rw [HN.out]; rfl), rfl⟩
theorem areCh_any (w : World) (n : Nat) (hn : n ≤ 1048576) (cl ch' : Nat) (ca : Option Addr) (cc : Nat) (ch : List Int) (hc : RowIn cl ch' w ca (M.encIs ch)) (hzc : ch' ≤ w.heap.size) (hlc : ch.length ≤ 1048576) :
    Calls Try.prog 119 #[.slice ca ch.length cc, .int .i64 (n : Int)] w (BoolPost w (M.choiceB n ch)) := by
  have HE : Hid (M.choiceB n ch = (decide (ch.length = n) && !(ch.any fun x => !decide (0 ≤ x)))) := Lib.hid (by
    unfold M.choiceB
    rw [List.not_any_eq_all_not, Bool.and_comm]
    congr 2
    funext x
    rw [Bool.not_not])
  have HCF := Lib.hid (containsFunc_any 136 #[] (fun x => !decide (0 ≤ x)) (enters_of Try.func136 (by kernel_rfl) rfl) w cl ch' ca cc ch (fun W' x _ => (neg9_any x W').mono fun _ _ ⟨he, hw⟩ => ⟨he, by rw [← hw]; exact Below.refl _ _⟩) hc hzc hlc)
  clear hc
  by_cases hq : ch.length = n
  · have HQ : Hid (decide (ch.length = n) = true) := Lib.hid (decide_eq_true hq)
    have hb1 : ((ch.length : Int) == (n : Int)) = true := by rw [beq_iff_eq]; omega
    clear hq
    go_enter Try.func119, Try.ntmps119
    go_wp2_with fail
    refine HCF.out.mono ?_
    rintro e w1 ⟨rfl, hb1⟩
    have HB := Lib.hid hb1
    clear hb1
    go_wp2_with fail
    go_ret
    exact ⟨by rw [HE.out, HQ.out]; rfl, HB.out⟩
  · have HQ : Hid (decide (ch.length = n) = false) := Lib.hid (decide_eq_false hq)
    have hb1 : ((ch.length : Int) == (n : Int)) = false := by rw [beq_eq_false_iff_ne]; omega
    clear hq
    go_enter Try.func119, Try.ntmps119
    go_wp2_with fail
    go_ret
    exact ⟨by rw [HE.out, HQ.out]; rfl, Below.refl _ _⟩
end C
end Go.Proofs.Ytddpjjdncmokmaa
