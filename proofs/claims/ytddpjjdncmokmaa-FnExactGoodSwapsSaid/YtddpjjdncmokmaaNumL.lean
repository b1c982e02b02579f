/-
  CONTRACT of numberLists and of the iterator that it gives: for every loop body that keeps what it reads, all lists of numbers come one by one, in order, each in memory of its own. Condition: at most four numbers, each below at most 8.
-/
import Derived.Test.YtddpjjdncmokmaaFilL
import Derived.Test.YtddpjjdncmokmaaSeqR
import Derived.Test.YtddpjjdncmokmaaWCBefore
import Derived.RangeFuncBox
import Derived.RangeFuncFrom
import Derived.Shelf.Abstract
import Derived.WalkKit
import Derived.OwnWalkIn
import Derived.TacticsInMore
import Derived.LoopNIn
import Derived.LoopIn
import Derived.Maps.AppendAt
import Derived.Lib.Hide
import Derived.Sort.LoopGhostIn
import Derived.RegionIn
import Derived.BigRegionIn
import Derived.Stop.RegionWithIn
import Derived.Shelf.AbstractIn
import Derived.WalkMore
import Derived.Laws.MakeOwn
import Derived.Sort.CutIn
namespace Go.Proofs.Ytddpjjdncmokmaa
open Go.RowKit
namespace M
def powN (n j : Nat) : Nat := n ^ j
theorem powN_zero (n : Nat) : powN n 0 = 1 := rfl
theorem powN_succ (n j : Nat) : powN n (j + 1) = powN n j * n := rfl
theorem powN_le {n j : Nat} (hn : n ≤ 8) (hj : j ≤ 4) : powN n j ≤ 4096 := Nat.le_trans (Nat.pow_le_pow_left hn _) (Nat.pow_le_pow_right (n := 8) (by decide) hj)
def quoN (n i c : Nat) : Nat := i / n ^ c
theorem quoN_zero (n i : Nat) : quoN n i 0 = i := by unfold quoN; simp
theorem quoN_succ (n i c : Nat) : quoN n i (c + 1) = quoN n i c / n := by unfold quoN; rw [Nat.pow_succ, Nat.div_div_eq_div_mul]
def lowL (n i : Nat) : Nat → List Int
  | 0 => []
  | c + 1 => ((quoN n i c % n : Nat) : Int) :: lowL n i c
theorem lowL_len (n i : Nat) : ∀ c, (lowL n i c).length = c
  | 0 => rfl
  | c + 1 => by unfold lowL; rw [List.length_cons, lowL_len n i c]
theorem lowL_snoc (n i : Nat) : ∀ c, lowL n i (c + 1) = lowL n (i / n) c ++ [((i % n : Nat) : Int)]
  | 0 => by show ((quoN n i 0 % n : Nat) : Int) :: [] = _; rw [quoN_zero]; rfl
  | c + 1 => by
    show ((quoN n i (c + 1) % n : Nat) : Int) :: lowL n i (c + 1) = _
    rw [lowL_snoc n i c]
    show _ = ((quoN n (i / n) c % n : Nat) : Int) :: lowL n (i / n) c ++ _
    have : quoN n (i / n) c = quoN n i (c + 1) := by unfold quoN; rw [Nat.div_div_eq_div_mul, Nat.pow_succ, Nat.mul_comm]
    rw [this]; rfl
theorem lowL_dig (n : Nat) : ∀ k i, lowL n i k = digL n k i
  | 0, _ => rfl
  | k + 1, i => by rw [lowL_snoc, lowL_dig n k (i / n)]; rfl
/-- the list with its first p places still empty -/
def partL (n i k p : Nat) : List Int := List.replicate p 0 ++ lowL n i (k - p)
theorem partL_len {n i k p : Nat} (h : p ≤ k) : (partL n i k p).length = k := by unfold partL; rw [List.length_append, List.length_replicate, lowL_len]; omega
theorem partL_all (n i k : Nat) : partL n i k k = List.replicate k 0 := by unfold partL; rw [Nat.sub_self]; simp [lowL]
theorem partL_end (n i k : Nat) : partL n i k 0 = digL n k i := by unfold partL; rw [Nat.sub_zero, lowL_dig]; rfl
theorem partL_set {n i k p : Nat} (h : p + 1 ≤ k) : (partL n i k (p + 1)).set p ((quoN n i (k - (p + 1)) % n : Nat) : Int) = partL n i k p := by
  unfold partL
  have e : k - p = k - (p + 1) + 1 := by omega
  rw [e, List.replicate_succ', List.append_assoc, List.set_append_right _ _ (by rw [List.length_replicate]; exact Nat.le_refl _), List.length_replicate, Nat.sub_self]
  rfl
end M
namespace C
set_option linter.unusedVariables false
set_option maxHeartbeats 3200000
set_option maxRecDepth 20000
theorem encIs_setL (l : List Int) (k : Nat) (z : Int) : M.encIs (l.set k z) = (M.encIs l).set k (.int .i64 z) := by unfold M.encIs; rw [List.map_set]
theorem wpListIn_make_full {F : Fence} {n0 : Nat} {P : Program} (w : World) {ops : Array Oper} {rest : List Oper} {o : Oper} {a : Act} {Q : Exit → Act → World → Prop}
    (hg : o.guard = none) (l c : Operand) (t : TypeId) (hop : o.op = Op.makeSlice t l c)
    (base : Nat) (e : TypeId) (i : TypeInfo) (z : Value) (size : Nat) (h1 : P.underlying t = some (.slice e)) (h2 : P.info? e = some i) (h3 : i.zero = some z) (h4 : i.size = size)
    (kl kc : IntKind) (L C : Int) (n : Nat) (hl : a.eval l = .int kl L) (hc : a.eval c = .int kc C) (hL : L = (n : Int)) (hC : C = (n : Int)) (b2 : i.bytes * n ≤ 281474976710656) (b3 : n ≤ maxLen) (b4 : base ≤ w.heap.size)
    (hK : ∀ w', w'.ownsRow base e size (.slice (some ⟨w.heap.size, 0, none⟩) n n) n (madeCells z.cells (n * size)).toList → w.grownBy w' none → wpListIn F n0 P ops Q rest (a.put o.dst (.slice (some ⟨w.heap.size, 0, none⟩) n n)) w') :
    wpListIn F n0 P ops Q (o :: rest) a w := by
  refine wpListIn_plain hg fun K hK' => ?_
  obtain ⟨w', hrun, r1, r2⟩ := run_make_full (P := P) w base t e i z size h1 h2 h3 h4 kl kc n b2 b3 b4
  subst hL
  subst hC
  unfold Oper.wpIn
  refine ⟨?_, ?_⟩
  · simp [Oper.about, hop]
  · rw [Oper.semAt_plain F _ _ (by rw [hop]; intro c hc'; cases hc')]
    simp [execOp, hop, hl, hc, hrun, Result.andThen]
    exact hK' _ _ (hK w' r1 r2)
/-- what the iterator reads -/
def BoxL (bk bn k n : Nat) (W : World) : Prop := Boxed W bk 3 (.int .i64 (k : Int)) ∧ Boxed W bn 3 (.int .i64 (n : Int))
def KpL (bk bn k n : Nat) (W W' : World) : Prop := BoxL bk bn k n W → BoxL bk bn k n W'
theorem Boxed.low {B : Nat} {t : TypeId} {v : Value} {W W' : World} (h : Boxed W B t v) (t' : Below W.heap.size W W') : Boxed W' B t v := (t'.block B h.lt).trans h
theorem BoxL.low {bk bn k n : Nat} {W W' : World} (h : BoxL bk bn k n W) (t : Below W.heap.size W W') : BoxL bk bn k n W' := ⟨Boxed.low h.1 t, Boxed.low h.2 t⟩
theorem grown_none {W W' : World} (t : Below W.heap.size W W') : W.grownBy W' none := ⟨t.os, t.tape, t.output, t.size, fun k hk _ => t.block k hk⟩
def encL (k : Nat) (x : Nat × Nat) : Array Value := #[.slice (some ⟨x.1, 0, none⟩) k k]
def RL (n k : Nat) (x : Nat × Nat) (W : World) : Prop := OwnAt x.1 (x.1 + 1) W 3 (some ⟨x.1, 0, none⟩) (M.encIs (M.digL n k x.2)) ∧ x.1 < W.heap.size
def SL (n k : Nat) (xs : List (Nat × Nat)) : Prop := xs.map (fun x => x.2) = List.range (n ^ k)
theorem numL_calls (w : World) (k n : Nat) : Calls Try.prog 112 #[.int .i64 (k : Int), .int .i64 (n : Int)] w fun e w' =>
      e = .returned (.func (.func 133) #[] #[.pointer (some ⟨w.heap.size, 0, none⟩), .pointer (some ⟨w.heap.size + 1, 0, none⟩)]) ∧ BoxL w.heap.size (w.heap.size + 1) k n w' ∧ Below w.heap.size w w' ∧ w'.heap.size = w.heap.size + 2 := by
  go_enter Try.func112, Try.ntmps112
  go_wp2_with fail
  go_ret
  refine ⟨rfl, ⟨(Boxed.new _ _ _).alloc _, ?_⟩, (below_alloc _ _).alloc (by simp) _, by simp⟩
  have := Boxed.new (w.alloc (.cells #[.int .i64 (k : Int)] 3)) 3 (.int .i64 (n : Int))
  simp only [World.size_alloc] at this
  exact this
set_option maxRecDepth 100000 in
theorem lists_in (n0 : Nat) (hn0 : 1 ≤ n0) (l bk bn k n : Nat) (hk4 : k ≤ 4) (hn1 : 1 ≤ n) (hn8 : n ≤ 8) (J : List (Nat × Nat) → World → Prop)
    (hY : ∀ pre (x : Nat × Nat) W, J pre W → RL n k x W → pre.length < 4096 → YieldAt Fence.wide (n0 - 1) Try.prog l (encL k x) W fun e W' => e = .returned (.bool true) ∧ J (pre ++ [x]) W' ∧ KpL bk bn k n W W')
    (W : World) (hJ : AbidesFrom W.heap.size J) (h : BoxL bk bn k n W) (h0 : J [] W) :
    CallsIn Fence.wide n0 Try.prog 133 #[.func (.yield l) #[] #[], .pointer (some ⟨bk, 0, none⟩), .pointer (some ⟨bn, 0, none⟩)] W fun e W' => (∃ v, e = .returned v) ∧ ∃ xs, SL n k xs ∧ J xs W' := by
  obtain ⟨i0, hi0, hz0, hz1, hz2⟩ := info_parts infoI
  have HYY := Lib.hid hY
  have HJ := Lib.hid hJ
  have HE := Lib.hid h
  have H0 := Lib.hid h0
  have HPS := Lib.hid (fun j => M.powN_succ n j)
  have HPL := Lib.hid (fun j (hj : j ≤ 4) => M.powN_le hn8 hj)
  clear hY hJ h h0
  refine callsIn_of_wp Try.func133 rfl trivial ?_ rfl
  simp only [Try.ntmps133, List.size_toArray, List.length_cons, List.length_nil, Nat.reduceAdd, Nat.reduceSub, Array.replicate_succ, Array.replicate_zero, List.push_toArray, List.append_toArray, List.nil_append, List.cons_append]
  have a0 := HE.out.1.cell
  have b0 := HE.out.2.cell
  have hbk := HE.out.1.lt
  have hbn := HE.out.2.lt
  gi_wp2
  gi_loop [4, 10] (fun v4 v10 => ∃ j : Nat, j ≤ k ∧ v10 = .int .i64 (j : Int) ∧ v4 = .int .i64 ((M.powN n j : Nat) : Int)) (fun _ v10 => k - (intOf v10).toNat)
  case atStart => exact ⟨0, Nat.zero_le _, rfl, by rw [M.powN_zero]; rfl⟩
  case round =>
    obtain ⟨j, hj, rfl, rfl⟩ := hrel
    by_cases hjk : j < k
    · have h1 := HPL.out j (by omega)
      have h2 := HPL.out (j + 1) (by omega)
      have h3 := HPS.out j
      have hmul : ((M.powN n j : Nat) : Int) * (n : Int) = ((M.powN n (j + 1) : Nat) : Int) := by rw [h3]; simp
      clear h3
      generalize hp1 : M.powN n (j + 1) = p1 at *
      have HP1 := Lib.hid hp1
      clear hp1
      generalize M.powN n j = p0 at *
      have hw : wrap64 ((p0 : Int) * (n : Int)) = (p1 : Int) := by rw [hmul]; unfold wrap64; omega
      clear hmul
      gi_wp2
      refine ⟨⟨j + 1, by omega, by go_num, ?_⟩, by simp [intOf]; omega⟩
      first | rw [HP1.out, hw] | rw [HP1.out]
    · obtain rfl : j = k := by omega
      have HN0 := HPL.out j hk4
      have HNN : Hid (M.powN n j = n ^ j) := Lib.hid rfl
      clear HPS HPL
      generalize M.powN n j = N0 at *
      have HJ0 := H0.out
      gi_wp2
      have hjs : (j : Int) - 1 = (j : Int) - 1 := rfl
      have hwj : IntKind.i64.wrap ((j : Int) - 1) = (j : Int) - 1 := IntWalk.i64_in _ (by omega)
      gi_loopw [5, 6, 7, 8, 17] (fun _ _ _ _ v17 wr => ∃ (i : Nat) (pre : List (Nat × Nat)), i ≤ N0 ∧ v17 = .int .i64 (i : Int) ∧ pre.map (fun x => x.2) = List.range i ∧ J pre wr ∧ BoxL bk bn j n wr) (fun _ _ _ _ v17 _ => N0 - (intOf v17).toNat)
      case atStart => exact ⟨0, [], Nat.zero_le _, rfl, rfl, H0.out, HE.out⟩
      case round =>
        clear a0 b0 hbk hbn HJ0
        obtain ⟨i, pre, hi, rfl, hpre, hJ1, hE1⟩ := hrel
        have HJ1 := Lib.hid hJ1
        have HE1 := Lib.hid hE1
        have a0 := hE1.1.cell
        have b0 := hE1.2.cell
        have hbk := hE1.1.lt
        have hbn := hE1.2.lt
        have hpl : pre.length = i := by have := congrArg List.length hpre; simpa using this
        have HPL := Lib.hid hpl
        clear hJ1 hE1 hpl
        by_cases hin : i < N0
        · gi_upto_region 9 with (gi_at_make; refine wpListIn_make_full _ rfl _ _ 23 rfl wr.heap.size 3 i0 (.int .i64 0) 1 Try.underlying23 hi0 hz0 hz1 .i64 .i64 _ _ j rfl rfl rfl rfl (by rw [hz2]; omega) (by unfold maxLen; omega) (Nat.le_refl _) ?_; intro w7 hown7 hgrow7)
          rw [made_zero] at hown7
          have hb7 : Below wr.heap.size wr w7 := (Below.refl _ _).grown hgrow7 (Nat.le_refl _) (fun k e => by cases e)
          have hlt7 : wr.heap.size < w7.heap.size := (hown7.lt _ rfl).2
          have O7 := Lib.hid (show OwnAt wr.heap.size (wr.heap.size + 1) w7 3 (some ⟨wr.heap.size, 0, none⟩) (M.encIs (M.partL n i j j)) from by rw [M.partL_all]; exact OwnAt.of_own0 hown7)
          have B7 := Lib.hid hb7
          have E7 := HE1.out.low hb7
          have a0 := E7.1.cell
          have b0 := E7.2.cell
          obtain ⟨wo, rfl⟩ : ∃ x, x = wr := ⟨_, rfl⟩
          obtain ⟨g, hg⟩ : ∃ g, g = wo.heap.size := ⟨_, rfl⟩
          have HG := Lib.hid hg
          rw [← hg] at hbk hbn hlt7 O7 B7 ⊢
          have hbkg : bk < g := by omega
          have hbng : bn < g := by omega
          clear hown7 hgrow7 hb7 hg E7 hbk hbn
          gi_wp2
          gi_loopw [7, 8] (fun v7 v8 ws => ∃ (p : Nat), p ≤ j ∧ v8 = .int .i64 ((p : Int) - 1) ∧ v7 = .int .i64 ((M.quoN n i (j - p) : Nat) : Int) ∧ OwnAt g (g + 1) ws 3 (some ⟨g, 0, none⟩) (M.encIs (M.partL n i j p)) ∧ Turned g (g + 1) w7 ws) (fun _ v8 _ => (intOf v8 + 1).toNat)
          case atStart => exact ⟨j, Nat.le_refl _, by first | rfl | rw [hwj], by rw [Nat.sub_self, M.quoN_zero], O7.out, Turned.refl _ _ _⟩
          case round =>
            clear a0 b0
            obtain ⟨p, hp, rfl, rfl, hown, htu⟩ := hrel
            have HO := Lib.hid hown
            have HT := Lib.hid htu
            have hzs := htu.size
            have B8 := Lib.hid (Below.thenTurned B7.out htu (Nat.le_refl _) (by omega))
            have E8 := HE1.out.low (by have := B8.out; rw [HG.out] at this; exact this)
            have a0 := E8.1.cell
            have b0 := E8.2.cell
            have hbk := E8.1.lt
            have hbn := E8.2.lt
            clear hown htu
            rcases p with _ | p
            · have hRL : RL n j (g, i) wr := ⟨by have h := HO.out; rw [M.partL_end] at h; exact h, by show g < wr.heap.size; omega⟩
              have hJ8 := HJ.out pre wo wr none HJ1.out (grown_none (by have := B8.out; rw [HG.out] at this; exact this)) (fun _ e => by cases e)
              obtain ⟨fn, tmps, assign, body, hy, hR⟩ := HYY.out pre (g, i) wr hJ8 hRL (by rw [HPL.out]; omega)
              have HE8 := Lib.hid E8
              unfold encL at hy
              clear hJ8 hRL E8
              gi_wp2
              refine hR.mono ?_
              rintro e W3 ⟨rfl, hJ3, hk3⟩
              have E3 := Lib.hid (hk3 HE8.out)
              have J3 := Lib.hid hJ3
              have HPR := Lib.hid hpre
              clear hJ3 hk3 hR hy hpre
              gi_wp2
              refine ⟨⟨i + 1, pre ++ [(g, i)], by omega, by go_num, by rw [List.map_append, HPR.out, List.range_succ]; rfl, J3.out, E3.out⟩, by simp [intOf]; omega⟩
            · have e1 : ((p + 1 : Nat) : Int) - 1 = (p : Int) := by omega
              rw [e1]
              obtain ⟨u, hu0, hu1, hu2⟩ := HO.out.cell0 (k := p) (by rw [M.encIs_len, M.partL_len hp]; omega)
              have O9 := Lib.hid (by have h := HO.out.set0 p (.int .i64 ((M.quoN n i (j - (p + 1)) % n : Nat) : Int)); rw [← encIs_setL, M.partL_set hp] at h; exact h)
              have HQS : Hid (M.quoN n i (j - p) = M.quoN n i (j - (p + 1)) / n) := Lib.hid (by rw [show j - p = j - (p + 1) + 1 by omega, M.quoN_succ])
              have hql : M.quoN n i (j - (p + 1)) ≤ i := Nat.div_le_self _ _
              have T9 := Lib.hid (HT.out.trans (Turned.setCell (lo := g) (hi := g + 1) wr g p (.int .i64 ((M.quoN n i (j - (p + 1)) % n : Nat) : Int)) (Nat.le_refl _) (Nat.lt_succ_self _)))
              generalize M.quoN n i (j - (p + 1)) = q at *
              have hq1 : ((q : Int)).tmod (n : Int) = ((q % n : Nat) : Int) := (Int.ofNat_tmod q n).symm
              have hq2 : ((q : Int)).tdiv (n : Int) = ((q / n : Nat) : Int) := (Int.ofNat_tdiv q n).symm
              have hq3 : wrap64 ((q : Int) / (n : Int)) = ((q / n : Nat) : Int) := by rw [← Int.natCast_ediv]; have hz9 := Nat.div_le_self q n; generalize q / n = z at hz9 ⊢; unfold wrap64; omega
              have HQ3 := Lib.hid hq3
              clear hq3
              have hn0' : ¬ (n : Int) = 0 := by omega
              have hpj : (p : Int) < (j : Int) := by omega
              have hwp : IntKind.i64.wrap ((p : Int) - 1) = (p : Int) - 1 := IntWalk.i64_in _ (by omega)
              clear hu0
              gi_wp2
              refine ⟨⟨p, by omega, by first | rfl | rw [hwp], by rw [HQS.out]; exact congrArg _ HQ3.out, O9.out, T9.out⟩, by first | (simp [intOf]; done) | (simp [intOf]; omega)⟩
        · obtain rfl : i = N0 := by omega
          have HPR := Lib.hid hpre
          clear hpre
          gi_wp2
          refine bodyPost_end (v := .tuple #[]) (results_none rfl _ _ _) rfl ?_
          exact ⟨⟨_, rfl⟩, pre, by unfold SL; rw [HPR.out, HNN.out], HJ1.out⟩
end C
end Go.Proofs.Ytddpjjdncmokmaa
