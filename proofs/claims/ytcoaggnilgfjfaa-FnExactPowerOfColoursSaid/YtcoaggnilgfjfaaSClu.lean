/-
  CONTRACTS of impl.compareSets and of what it calls: bits.OnesCount at numbers below 64, cmp.Compare at ints, cmp.Or at two ints; the world is as it was but for a new list. Condition: sets of colours.
  CONTRACT of slices.SortFunc at numbers and impl.compareSets: the row holds the sets sorted; what lay elsewhere stays. Condition: the row may be written, at most 1048576 sets.
  CONTRACT of impl.ClutterOf: the clutter of a list of sets, in memory of its own, or an empty one and false; what lay in memory stays. Condition: a list of at most 1048576 numbers that reads so.
  CONTRACTS of spec.l2Many, spec.l6Order and spec.l6Least: how many colours a set has; all sets in the order of a clutter; the least ones of a kind of sets, each in a new list; what lay in memory stays. Condition: sets of colours, a list of 64 bools that reads so.
  MATHEMATICS: the least sets that win or bar, the colours that all or none of some sets have, own to these proofs. No condition.
  CONTRACTS of the program's LeastWins and LeastBars; what lay in memory stays. No condition but that the maze reads so.
  CONTRACTS of the model's LeastWins and LeastBars; what lay in memory stays. No condition but that the maze reads so.
-/
import Derived.Test.YtcoaggnilgfjfaaSValid
import Derived.Test.YtcoaggnilgfjfaaSWin
import Derived.Sort.Grow
import Derived.Test.YtcoaggnilgfjfaaShelf
import Derived.Test.YtcoaggnilgfjfaaSOwn
import Derived.Test.YtcoaggnilgfjfaaSReach
import Derived.Deep.LoopGhost
import Derived.WalkMore
import Derived.BigQuiet
namespace Go.Proofs.Ytcoaggnilgfjfaa
open Go.RowKit
namespace M

def cmpS (a b : St6) : Int := if cmpI (cnt a) (cnt b) = 0 then cmpI a.val b.val else cmpI (cnt a) (cnt b)
theorem cmpS_lt (a b : St6) : decide (cmpS a b < 0) = ltS a b := by
  unfold cmpS cmpI ltS
  rw [Bool.eq_iff_iff, decide_eq_true_iff, decide_eq_true_iff]
  split <;> split <;> (try split) <;> (try split) <;> omega
end M
namespace C
set_option maxHeartbeats 1600000
set_option maxRecDepth 20000
theorem isNaN_any (x : Int) (w : World) : Calls Try.prog 130 #[.int .i64 x] w fun e w' => e = .returned (.bool false) ∧ w = w' := by
  go_enter Try.func130, Try.ntmps130
  go_wp2_with fail
  go_ret
  exact ⟨by simp, rfl⟩
theorem compareI_any (x y : Int) (w : World) : Calls Try.prog 103 #[.int .i64 x, .int .i64 y] w fun e w' => e = .returned (.int .i64 (M.cmpI x y)) ∧ w = w' := by
  rcases Int.lt_trichotomy x y with h | h | h
  · have e : M.cmpI x y = -1 := by unfold M.cmpI; rw [if_pos h]
    rw [e]
    clear e
    go_enter Try.func103, Try.ntmps103
    go_wp2_with (go_at_call 130; refine (isNaN_any _ _).mono ?_; rintro e w1 ⟨rfl, rfl⟩)
    go_ret
    exact ⟨rfl, rfl⟩
  · subst h
    have e : M.cmpI x x = 0 := by unfold M.cmpI; rw [if_neg (by omega), if_neg (by omega)]
    rw [e]
    clear e
    go_enter Try.func103, Try.ntmps103
    go_wp2_with (go_at_call 130; refine (isNaN_any _ _).mono ?_; rintro e w1 ⟨rfl, rfl⟩)
    go_ret
    exact ⟨rfl, rfl⟩
  · have e : M.cmpI x y = 1 := by unfold M.cmpI; rw [if_neg (by omega), if_pos h]
    have h2 : ¬ x < y := by omega
    rw [e]
    clear e
    go_enter Try.func103, Try.ntmps103
    go_wp2_with (go_at_call 130; refine (isNaN_any _ _).mono ?_; rintro e w1 ⟨rfl, rfl⟩)
    go_ret
    exact ⟨rfl, rfl⟩
theorem ones64_any (n : M.St6) (w : World) : Calls Try.prog 132 #[.int .u64 (n.val : Int)] w fun e w' => e = .returned (.int .i64 (M.cnt n : Nat)) ∧ w = w' := by
  go_enter Try.func132, Try.ntmps132
  go_wp2_with fail
  go_ret
  refine ⟨congrArg (fun z => Ending.returned (Value.int .i64 z)) ?_, rfl⟩
  clear w
  revert n
  decide +kernel
theorem ones_any (n : M.St6) (w : World) : Calls Try.prog 104 #[.int .u64 (n.val : Int)] w fun e w' => e = .returned (.int .i64 (M.cnt n : Nat)) ∧ w = w' := by
  go_enter Try.func104, Try.ntmps104
  go_wp2_with fail
  refine (ones64_any _ _).mono ?_
  rintro e w1 ⟨rfl, rfl⟩
  go_wp2_with fail
  go_ret
  exact ⟨rfl, rfl⟩
theorem orI_any (x y : Int) (w : World) (hi lo : Nat) (a : Option Addr) (c : Nat) (h : RowIn lo hi w a (M.encIs [x, y])) : Calls Try.prog 102 #[.slice a 2 c] w fun e w' => e = .returned (.int .i64 (if x = 0 then y else x)) ∧ w = w' := by
  obtain ⟨b, off, rfl, _, _, hc⟩ := h.at_ (k := 0) (by simp [M.encIs])
  have c0 := hc 0 _ rfl
  have c1 := hc 1 _ rfl
  rw [Nat.add_zero] at c0
  clear hc h
  by_cases hx : x = 0
  · subst hx
    by_cases hy : y = 0
    · subst hy
      go_enter Try.func102, Try.ntmps102
      go_wp2_with fail
      go_loop [8] (fun i => ∃ (k : Nat), k ≤ 2 ∧ i = .int .i64 k) (fun i => 2 - (intOf i).toNat)
      case atStart => exact ⟨0, by omega, rfl⟩
      case round =>
        obtain ⟨k, hk, rfl⟩ := hrel
        match k, hk with
        | 0, _ =>
          go_wp2_with fail
          go_round
          case rel => exact ⟨1, by omega, rfl⟩
          case measure => simp [intOf]
        | 1, _ =>
          go_wp2_with fail
          go_round
          case rel => exact ⟨2, by omega, rfl⟩
          case measure => simp [intOf]
        | 2, _ =>
          go_wp2_with fail
          go_ret
          exact ⟨by simp, rfl⟩
    · have hyb : (y == 0) = false := by rw [beq_eq_false_iff_ne]; exact hy
      go_enter Try.func102, Try.ntmps102
      go_wp2_with fail
      go_loop [8] (fun i => ∃ (k : Nat), k < 2 ∧ i = .int .i64 k) (fun i => 2 - (intOf i).toNat)
      case atStart => exact ⟨0, by omega, rfl⟩
      case round =>
        obtain ⟨k, hk, rfl⟩ := hrel
        match k, hk with
        | 0, _ =>
          go_wp2_with fail
          go_round
          case rel => exact ⟨1, by omega, rfl⟩
          case measure => simp [intOf]
        | 1, _ =>
          go_wp2_with fail
          go_ret
          exact ⟨by simp, rfl⟩
  · have hxb : (x == 0) = false := by rw [beq_eq_false_iff_ne]; exact hx
    go_enter Try.func102, Try.ntmps102
    go_wp2_with fail
    go_loop [8] (fun i => i = .int .i64 0) (fun i => 2 - (intOf i).toNat)
    case atStart => rfl
    case round =>
      subst hrel
      go_wp2_with fail
      go_ret
      exact ⟨by simp, rfl⟩
theorem compareSets_any (a b : M.St6) (w : World) : Calls Try.prog 77 #[.int .i64 (a.val : Int), .int .i64 (b.val : Int)] w fun e w' => e = .returned (.int .i64 (M.cmpS a b)) ∧ ∃ q os, w' = Sort.grow (w.drewN q) os := by
  have ha := a.isLt
  have hb := b.isLt
  have O1 := Lib.hid (fun W => ones_any a W)
  have O2 := Lib.hid (fun W => ones_any b W)
  have C1 := Lib.hid (fun W => compareI_any (M.cnt a : Int) (M.cnt b : Int) W)
  have C2 := Lib.hid (fun W => compareI_any (a.val : Int) (b.val : Int) W)
  have hS : Hid (M.cmpS a b = if M.cmpI (M.cnt a : Int) (M.cnt b : Int) = 0 then M.cmpI (a.val : Int) (b.val : Int) else M.cmpI (M.cnt a : Int) (M.cnt b : Int)) := Lib.hid rfl
  generalize M.cmpS a b = r at *
  generalize M.cmpI (M.cnt a : Int) (M.cnt b : Int) = x at *
  generalize M.cmpI (a.val : Int) (b.val : Int) = y at *
  generalize M.cnt a = na at *
  generalize M.cnt b = nb at *
  generalize a.val = av at *
  generalize b.val = bv at *
  go_enter Try.func77, Try.ntmps77
  go_wp2_with fail
  refine (O1.out _).mono ?_
  rintro e w1 ⟨rfl, rfl⟩
  go_wp2_with fail
  refine (O2.out _).mono ?_
  rintro e w1 ⟨rfl, rfl⟩
  go_wp2_with fail
  refine (C1.out _).mono ?_
  rintro e w1 ⟨rfl, rfl⟩
  go_wp2_with fail
  refine (C2.out _).mono ?_
  rintro e w1 ⟨rfl, rfl⟩
  go_wp2_with fail
  refine named ?_
  intro W hW
  have hr : RowIn w.heap.size (w.heap.size + 1) W (some ⟨w.heap.size, 0, none⟩) (M.encIs [x, y]) := by
    rw [hW]
    refine .inr ⟨_, 0, rfl, Nat.le_refl _, Nat.lt_succ_self _, fun i u hu => ?_⟩
    rw [Nat.zero_add]
    exact cell_of_row _ _ _ _ _ _ (heap_alloc_new w _) |>.trans (by simpa [M.encIs] using hu)
  refine (orI_any x y W _ _ _ _ hr).mono ?_
  rintro e w1 ⟨rfl, rfl⟩
  rw [← hS.out]
  go_wp2_with fail
  go_ret
  exact ⟨rfl, 0, #[.cells #[.int .i64 x, .int .i64 y] 3], by
    show _ = Sort.grow (w.drewN 0) _
    unfold Sort.grow
    rw [Array.append_singleton]
    rfl⟩
end C
end Go.Proofs.Ytcoaggnilgfjfaa
namespace Go.Proofs.Ytcoaggnilgfjfaa
open Go.RowKit Go.Sort Go.Proofs
namespace C
set_option maxHeartbeats 800000
set_option maxRecDepth 20000
def enc6 (a : M.St6) : Value := .int .i64 (a.val : Int)
theorem enc6_at {l : List M.St6} {j : Nat} (h : j < l.length) : (M.encIs (M.intsF l))[j]? = some (enc6 l[j]) := by
  rw [M.encIs_at (by rw [M.intsF_len]; exact h), M.intsF_at h]; rfl
theorem holds6_of_own {lo hi : Nat} {w : World} {b off : Nat} {l : List M.St6} (h : OwnAt lo hi w 3 (some ⟨b, off, none⟩) (M.encIs (M.intsF l))) : Holds enc6 w b off l.toArray := by
  intro j hj
  have hj' : j < l.length := by simpa using hj
  have hj2 : j < (M.encIs (M.intsF l)).length := by rw [M.encIs_len, M.intsF_len]; exact hj'
  obtain ⟨b', off', e, _, _, hc⟩ := h.row.at_ (k := j) hj2
  injection e with e
  injection e with e1 e2 _
  subst e1; subst e2
  have e : l.toArray[j]! = l[j] := by simp [hj']
  exact ⟨by rw [e]; exact hc j _ (enc6_at hj'), h.free rfl (k := j) hj2 _⟩
theorem sorted_world6 {lo hi : Nat} {w : World} {b off : Nat} {l l' : List M.St6} (h : OwnAt lo hi w 3 (some ⟨b, off, none⟩) (M.encIs (M.intsF l))) (hne : l ≠ []) (hl : l'.length = l.length) (n : Nat) (os : Array Obj) :
    OwnAt lo hi (grow (putRow enc6 (Sort.ahead w n) b off l'.toArray) os) 3 (some ⟨b, off, none⟩) (M.encIs (M.intsF l')) ∧ Turned lo hi w (grow (putRow enc6 (Sort.ahead w n) b off l'.toArray) os) := by
  have hH := holds6_of_own h
  rcases h with h | ⟨g, o, cur, e, h1, h2, hh, hc⟩
  · have hz : (M.encIs (M.intsF l)).length = 0 := by rw [h]; rfl
    rw [M.encIs_len, M.intsF_len] at hz
    exact absurd (List.eq_nil_of_length_eq_zero hz) hne
  · injection e with e
    injection e with e1 e2 _
    subst e1; subst e2
    have hlt := heap_lt hh
    have hheap : (grow (putRow enc6 (Sort.ahead w n) b off l'.toArray) os).heap[b]? = some (.cells (putCells enc6 off l'.toArray cur) 3 (0, 0)) := by
      rw [heap_grow_old _ _ (by rw [Sort.size_putRow]; exact hlt)]
      unfold putRow mapBlock
      show (w.heap.modify b _)[b]? = _
      rw [Array.getElem?_modify, if_pos rfl, hh]
      rfl
    have hK : Holds enc6 (grow (putRow enc6 (Sort.ahead w n) b off l'.toArray) os) b off l'.toArray :=
      holds_grow _ _ _ _ _ _ (by rw [Sort.size_putRow]; exact hlt) (holds_putRow enc6 (Sort.ahead w n) b off l.toArray l'.toArray hH (by simpa using hl))
    refine ⟨.inr ⟨b, off, _, rfl, h1, h2, hheap, fun i u hu => ?_⟩, ?_⟩
    · have hi : i < l'.length := by
        have := (List.getElem?_eq_some_iff.1 hu).1
        rwa [M.encIs_len, M.intsF_len] at this
      have := (hK i (by simpa using hi)).1
      have hcell : (grow (putRow enc6 (Sort.ahead w n) b off l'.toArray) os).cell? ⟨b, off + i, none⟩ = (putCells enc6 off l'.toArray cur)[off + i]? := by
        unfold World.cell?
        simp [hheap]
      rw [hcell] at this
      rw [this, show l'.toArray[i]! = l'[i] by simp [hi], ← hu, enc6_at hi]
    · refine ⟨rfl, rfl, rfl, ?_, fun k hk ho => ?_⟩
      · rw [size_grow, Sort.size_putRow]
        exact Nat.le_add_right _ _
      · rw [heap_grow_old _ _ (by rw [Sort.size_putRow]; exact hk)]
        unfold putRow mapBlock
        show (w.heap.modify b _)[k]? = _
        rw [Array.getElem?_modify, if_neg (by omega)]
theorem ltOf_cmpS (x y : M.St6) : ltOf M.cmpS x y = M.ltS x y := M.cmpS_lt x y
theorem swoS : SWO (ltOf M.cmpS) := by
  constructor
  · intro a; rw [ltOf_cmpS]; exact M.ordS.irrefl a
  · intro a b c h1 h2; rw [ltOf_cmpS] at *; exact M.ordS.trans h1 h2
  · intro a b c h1 h2
    rw [ltOf_cmpS] at *
    unfold M.ltS at *
    simp only [decide_eq_false_iff_not] at *
    omega
/-- slices.SortFunc at sets -/
theorem sortSets_any (w : World) (lo hi : Nat) (a : Option Addr) (c : Nat) (l : List M.St6) (h : OwnAt lo hi w 3 a (M.encIs (M.intsF l))) (hl : l.length ≤ 1048576) :
    Calls Try.prog 76 #[.slice a l.length c, .func (.func 77) #[] #[]] w fun e w' => e = .returned (.tuple #[]) ∧ OwnAt lo hi w' 3 a (M.encIs (M.intsF (M.srtS l))) ∧ Turned lo hi w w' := by
  rcases hll : l with _ | ⟨d0, l0⟩
  · refine (Try.slices_SortFunc_none (α := M.St6) a c _ w).mono ?_
    rintro e w' ⟨rfl, rfl⟩
    exact ⟨rfl, by rw [show M.srtS [] = [] by unfold M.srtS; simp]; exact OwnAt.nil _ _ _ _ _, Turned.refl _ _ _⟩
  · rw [← hll]
    have hne : l ≠ [] := by rw [hll]; simp
    obtain ⟨b, off, ha, h1, h2, _⟩ := h.row.at_ (k := 0) (by rw [M.encIs_len, M.intsF_len, hll]; simp)
    subst ha
    have hb : b < w.heap.size := by
      rcases h with e | ⟨g, off', cur, e, _, _, hh, _⟩
      · have hz : (M.encIs (M.intsF l)).length = 0 := by rw [e]; rfl
        rw [M.encIs_len, M.intsF_len] at hz
        exact absurd (List.eq_nil_of_length_eq_zero hz) hne
      · injection e with e
        injection e with e1 e2 _
        subst e1
        exact heap_lt hh
    have := Try.slices_SortFunc_total (α := M.St6) enc6 (fun _ => rfl) M.cmpS swoS 77 #[] b off c l.toArray w (enters_of Try.func77 (by kernel_rfl) rfl) (fun m os dk _ x y => compareSets_any x y _) (holds6_of_own h) hb (by simp; omega) (fun x y hx hy => by rw [ltOf_cmpS] at hx hy; exact M.ordS.tri hx hy)
    simp only [List.size_toArray] at this
    refine this.mono ?_
    rintro e w' ⟨rfl, n, os, rfl⟩
    have hs : (l.mergeSort fun x y => !(ltOf M.cmpS) y x) = M.srtS l := by
      unfold M.srtS M.leS
      congr 1
      funext x y
      rw [ltOf_cmpS]
    rw [hs]
    obtain ⟨r1, r2⟩ := sorted_world6 (l' := M.srtS l) h hne (M.srtS_perm l).length_eq n os
    exact ⟨rfl, r1, r2⟩
end C
end Go.Proofs.Ytcoaggnilgfjfaa
namespace Go.Proofs.Ytcoaggnilgfjfaa
open Go.RowKit
namespace M
def cluV (l : List Int) : List Int := if keysB l then intsF (cluF (setsOf l)) else []
theorem cluV_no {l : List Int} (h : keysB l = false) : cluV l = [] := by unfold cluV; rw [h]; rfl
theorem keysB_sets {l : List Int} (h : keysB l = true) : ∀ z ∈ l, 0 ≤ z ∧ z < 64 := fun z hz => by
  obtain ⟨k, hk, rfl⟩ := List.mem_iff_getElem.1 hz
  have := keysB_iff.1 h k hk
  unfold setB at this
  exact decide_eq_true_iff.1 this
theorem cluV_yes {l : List Int} (h : keysB l = true) : ∃ sl, l = intsF sl ∧ cluV l = intsF (cluF sl) :=
  ⟨setsOf l, (intsF_setsOf (keysB_sets h)).symm, by unfold cluV; rw [if_pos h]⟩
theorem keysB_intsF (sl : List St6) : keysB (intsF sl) = true := by
  unfold keysB
  rw [List.all_eq_true]
  intro x hx
  unfold setB
  exact decide_eq_true (mem_intsF hx)
theorem setsOf_intsF (sl : List St6) : setsOf (intsF sl) = sl := intsF_inj (intsF_setsOf fun _ h => mem_intsF h)
theorem cluV_intsF (sl : List St6) : cluV (intsF sl) = intsF (cluF sl) := by unfold cluV; rw [if_pos (keysB_intsF sl), setsOf_intsF]
theorem any_keysB (l : List Int) : (l.any fun n => !setB n) = !keysB l := by
  unfold keysB
  induction l with
  | nil => rfl
  | cons x l ih => rw [List.any_cons, List.all_cons, ih, Bool.not_and]
theorem hasB_sub : ∀ s t : St6, hasB (s.val : Int) (t.val : Int) = subF t s := by decide +kernel
theorem keepAll_len (l : List St6) : (keepAll l).length ≤ l.length := by
  induction l using snoc_ind with
  | h0 => exact Nat.le_refl _
  | h1 l s ih =>
    rw [keepAll_snoc, List.length_append]
    unfold keep1
    split
    · exact Nat.le_trans ih (Nat.le_add_right _ _)
    · rw [List.length_append]; simp; exact ih
theorem cluF_len (l : List St6) : (cluF l).length ≤ l.length := by
  have := keepAll_len (srtS l)
  rw [(srtS_perm l).length_eq] at this
  exact this
theorem nodup_asc {l : List St6} (h : Asc ltS l) : l.Nodup := by
  refine List.Pairwise.imp (fun {a b} hab => ?_) h
  rintro rfl
  rw [ordS.irrefl] at hab
  cases hab
theorem asc_len {l : List St6} (h : Asc ltS l) : l.length ≤ 64 := by
  have := (nodup_asc h).length_le_of_subset (l₂ := List.finRange 64) (fun x _ => List.mem_finRange x)
  rwa [List.length_finRange] at this
end M
namespace C
set_option maxHeartbeats 3200000
set_option maxRecDepth 20000
theorem cluPred_any (x : Int) (w : World) : Calls Try.prog 74 #[.int .i64 x] w fun e w' => e = .returned (.bool (!M.setB x)) ∧ w = w' := by
  go_enter Try.func74, Try.ntmps74
  go_wp2_with fail
  refine (isSet_any _ _).mono ?_
  rintro e w1 ⟨rfl, rfl⟩
  go_wp2_with fail
  go_ret
  exact ⟨rfl, rfl⟩
theorem clutterOf_any (w : World) (lo hi : Nat) (a : Option Addr) (c : Nat) (l : List Int) (h : RowIn lo hi w a (M.encIs l)) (hz : hi ≤ w.heap.size) (hl : l.length ≤ 1048576) :
    Calls Try.prog 44 #[.slice a l.length c] w (IntsOkPost w (M.cluV l) (M.keysB l)) := by
  obtain ⟨ii0, hi0, hz0, hzz1, hz2⟩ := info_parts infoI
  have H := Lib.hid h
  clear h
  have HAK := Lib.hid (M.any_keysB l)
  go_enter Try.func44, Try.ntmps44
  go_wp2_with fail
  go_step3
  go_wp2_with fail
  refine (containsFunc_any 74 #[] (fun n => !M.setB n) (enters_of Try.func74 (by kernel_rfl) rfl) w lo hi a c l (fun W' z hb' => (cluPred_any z W').mono fun e w' ⟨h1, h2⟩ => ⟨h1, h2 ▸ Below.refl _ _⟩) H.out hz hl).mono ?_
  rintro e w1 ⟨rfl, hb1⟩
  rw [HAK.out]
  have HB1 := Lib.hid hb1
  have hz1 := hb1.size
  clear hb1
  cases q0 : M.keysB l with
  | false =>
    have HV := Lib.hid (M.cluV_no q0)
    have HF := Lib.hid q0
    clear q0
    go_wp2_with fail
    go_ret2
    rw [HV.out, HF.out]
    exact intsOk_end (l := []) (ownsRow_empty _ _ _ _ (by omega)) (HB1.out.alloc (by omega) _)
  | true =>
    obtain ⟨sl, rfl, hcv⟩ := M.cluV_yes q0
    have HV := Lib.hid hcv
    clear q0 hcv HAK
    rw [M.intsF_len] at hl ⊢
    have HCL := Lib.hid (cloneInts_any w1 lo hi a c (M.intsF sl) (H.out.below HB1.out hz) (by omega) (by rw [M.intsF_len]; exact hl))
    rw [M.intsF_len] at HCL
    go_wp2_with fail
    refine HCL.out.mono ?_
    rintro e w2 ⟨ca, cc, rfl, ho, ho1, ho2, hb2⟩
    rw [M.intsF_len] at ho1 ⊢
    have hz2' := hb2.size
    have HB2 := Lib.hid (HB1.out.trans (hb2.mono hz1))
    have HO := Lib.hid ho
    clear hb2 ho HCL
    go_wp2_with fail
    refine (sortSets_any w2 _ _ ca cc sl HO.out hl).mono ?_
    rintro e w3 ⟨rfl, ho3, ht3⟩
    have hz3 := ht3.size
    have HB3 := Lib.hid (C.Below.thenTurned HB2.out ht3 hz1 (by omega))
    have HO3 := Lib.hid ho3
    have hsl : (M.srtS sl).length = sl.length := (M.srtS_perm sl).length_eq
    have HKT := Lib.hid (fun (k : Nat) (hk : k < (M.srtS sl).length) => M.keepAll_take hk)
    have HKL := Lib.hid (fun (k : Nat) => M.keepAll_len ((M.srtS sl).take k))
    have HEND : Hid (M.keepAll (M.srtS sl) = M.cluF sl) := Lib.hid rfl
    clear ho3 ht3 HO
    generalize M.srtS sl = so at *
    go_wp2_with fail
    refine wp_named ?_
    intro W4 hW4
    have hb4 : Below w3.heap.size w3 W4 := by rw [hW4]; exact below_alloc _ _
    have o4 : W4.ownsRow w3.heap.size 3 1 (.slice (some ⟨w3.heap.size, 0, none⟩) 0 0) (M.keepAll (so.take 0)).length (M.encIs (M.intsF (M.keepAll (so.take 0)))) := by rw [hW4]; exact ownsRow_empty _ _ _ _ (Nat.le_refl _)
    have ST := Lib.hid (show W4.ownsRow w3.heap.size 3 1 (.slice (some ⟨w3.heap.size, 0, none⟩) 0 0) (M.keepAll (so.take 0)).length (M.encIs (M.intsF (M.keepAll (so.take 0)))) ∧ OwnAt w1.heap.size w2.heap.size W4 3 ca (M.encIs (M.intsF so)) ∧ Below w.heap.size w W4 ∧ w3.heap.size ≤ W4.heap.size from ⟨o4, HO3.out.below hb4 hz3, HB3.out.trans (hb4.mono HB3.out.size), hb4.size⟩)
    clear hW4 hb4 o4
    go_step3
    go_wp2_with fail
    go_loopg [5, 20] so.length (fun g v5 v20 wr => ∃ (k : Nat), k + g = so.length ∧ v20 = .int .i64 k ∧ wr.ownsRow w3.heap.size 3 1 v5 (M.keepAll (so.take k)).length (M.encIs (M.intsF (M.keepAll (so.take k)))) ∧ OwnAt w1.heap.size w2.heap.size wr 3 ca (M.encIs (M.intsF so)) ∧ Below w.heap.size w wr ∧ w3.heap.size ≤ wr.heap.size)
    case atStart => exact ⟨0, by omega, rfl, ST.out.1, ST.out.2.1, ST.out.2.2.1, ST.out.2.2.2⟩
    case round =>
      obtain ⟨k, hk, rfl, hso, hro, hlow, hsz⟩ := hrel
      obtain ⟨la, lc, hv, hl1, hl2, hrow0⟩ := own_slice hso
      subst hv
      have SO := Lib.hid hso
      have HRW := Lib.hid hrow0
      have RO := Lib.hid hro
      have LO := Lib.hid hlow
      have hzr := hlow.size
      have hkl64 := HKL.out k
      rw [List.length_take] at hkl64
      clear hso hro hlow hrow0
      cases gk with
      | succ go =>
        have hkl : k < so.length := by omega
        have hkl2 : k < sl.length := by omega
        obtain ⟨rb, off, hra, hr3, hr4, hc0⟩ := RO.out.row.at_ (k := k) (by rw [M.encIs_len, M.intsF_len]; exact hkl)
        have c0 := hc0 _ _ (enc6_at hkl)
        have HK1 := Lib.hid (HKT.out k hkl)
        generalize so[k] = s at *
        have hs64 := s.isLt
        generalize hcl : M.keepAll (so.take k) = cl at *
        clear hc0 hcl
        unfold enc6 at c0
        subst hra
        go_wp2_with fail
        go_loopg [26] cl.length (fun g v26 ws => ∃ (j : Nat), j + g = cl.length ∧ v26 = .int .i64 j ∧ (∀ i (h : i < cl.length), i < j → M.subF cl[i] s = false) ∧ ws = wr)
        case atStart => exact ⟨0, by omega, rfl, fun i _ hi => by omega, rfl⟩
        case round =>
          obtain ⟨j, hj, rfl, hall, rfl⟩ := hrel
          have HA := Lib.hid hall
          clear hall
          cases gk with
          | succ gi =>
            have hjl : j < cl.length := by omega
            obtain ⟨lb, loff, hlb, hlb1, hlb2, hlc⟩ := HRW.out.row.at_ (k := j) (by rw [M.encIs_len, M.intsF_len]; exact hjl)
            have c1 := hlc _ _ (enc6_at hjl)
            have HAT := Lib.hid (fun (q : Bool) (hq : M.subF cl[j] s = q) => hq)
            have HAB := Lib.hid (M.hasB_sub s cl[j])
            have HMEM := Lib.hid (List.getElem_mem hjl)
            have HNX := Lib.hid (fun (hq : M.subF cl[j] s = false) => show ∀ i (h : i < cl.length), i < j + 1 → M.subF cl[i] s = false from fun i h hi => by
              rcases Nat.lt_or_ge i j with h1 | h1
              · exact HA.out i h h1
              · obtain rfl : i = j := by omega
                exact hq)
            unfold enc6 at c1
            generalize cl[j] = t at *
            clear hlc
            subst hlb
            have hst := t.isLt
            cases hq : M.subF t s with
            | true =>
              have hkeep : Hid (M.keepAll (so.take (k + 1)) = cl) := Lib.hid (by rw [HK1.out]; unfold M.keep1; rw [if_pos (List.any_eq_true.2 ⟨t, HMEM.out, hq⟩)])
              rw [hq] at HAB
              clear hq
              go_wp2_with fail
              refine (hasAll_any _ _ _).mono ?_
              rintro e w5 ⟨rfl, rfl⟩
              rw [HAB.out]
              go_wp2_with fail
              go_roundg go
              case rel => exact ⟨k + 1, by omega, by go_num, by rw [hkeep.out]; exact SO.out, RO.out, LO.out, hsz⟩
              case measure => omega
            | false =>
              have HN := Lib.hid (HNX.out hq)
              rw [hq] at HAB
              clear hq HNX
              go_wp2_with fail
              refine (hasAll_any _ _ _).mono ?_
              rintro e w5 ⟨rfl, rfl⟩
              rw [HAB.out]
              go_wp2_with fail
              go_roundg gi
              case rel => exact ⟨j + 1, by omega, by go_num, HN.out, rfl⟩
              case measure => omega
          | zero =>
            obtain rfl : j = cl.length := by omega
            have hkeep : Hid (M.keepAll (so.take (k + 1)) = cl ++ [s]) := Lib.hid (by
              rw [HK1.out]
              unfold M.keep1
              rw [if_neg]
              intro h
              obtain ⟨x, hx, hxs⟩ := List.any_eq_true.1 h
              obtain ⟨i, hi, rfl⟩ := List.mem_iff_getElem.1 hx
              rw [HA.out i hi hi] at hxs
              cases hxs)
            clear HA
            go_wp2_with (at_builtin; refine wpList_append_own _ rfl _ _ 23 rfl w3.heap.size 3 ii0 (.int .i64 0) 1 8 Try.underlying23 hi0 hz0 hzz1 hz2 rfl (by decide) _ _ _ rfl (SO.out.alloc _) ⟨wr.heap.size, 0, none⟩ 1 1 [.int .i64 (s.val : Int)] rfl rfl (cell_one_new _ _ _) (fun x hx => by simp at hx; subst hx; rfl) (by unfold maxLen; omega) (by omega) (by simp; omega) ?_; intro v' w6 hown' hgrow3 hnil3)
            go_roundg go
            case rel =>
              refine ⟨k + 1, by omega, by go_num, ?_, (RO.out.below (below_alloc _ _) (by omega)).grownRow hgrow3 (by simp; omega) (fun z hz => .inr (by have := (SO.out.lt z hz).1; omega)), (LO.out.alloc (by omega) _).grown hgrow3 (by simp; omega) (fun z hz => by have := (SO.out.lt z hz).1; omega), by have := hgrow3.size; simp at this; omega⟩
              rw [hkeep.out, M.intsF_snoc, M.encIs_append, List.length_append]
              exact hown'
            case measure => omega
      | zero =>
        obtain rfl : k = so.length := by omega
        have hfin := SO.out
        rw [List.take_of_length_le (Nat.le_refl _), HEND.out] at hfin
        have HFI := Lib.hid hfin
        have HLN := Lib.hid (show (M.keepAll (so.take so.length)).length = (M.cluF sl).length by rw [List.take_of_length_le (Nat.le_refl _), HEND.out])
        clear hfin
        have hkn : ¬ (so.length : Int) < (sl.length : Int) := by omega
        go_wp2_with fail
        rw [hsl] at HLN
        go_ret2
        rw [HV.out, M.keysB_intsF, HLN.out]
        have hr0 := HRW.out
        rw [List.take_of_length_le (Nat.le_refl _), HEND.out] at hr0
        rw [hsl, HLN.out] at hl1
        exact ⟨la, lc, by rw [M.intsF_len]; rfl, hr0.mono (by omega) (Nat.le_refl _), by rw [M.intsF_len]; exact hl1, hl2, LO.out⟩
end C
end Go.Proofs.Ytcoaggnilgfjfaa
namespace Go.Proofs.Ytcoaggnilgfjfaa
open Go.RowKit
namespace M
def lowC (n : St6) (j : Nat) : Nat := (List.range j).countP fun c => n.val.testBit c
theorem lowC_step : ∀ n : St6, ∀ j : Fin 6, bits .and .i64 ((n.val / 2 ^ j.val : Nat) : Int) 1 = ((lowC n (j.val + 1) : Nat) : Int) - ((lowC n j.val : Nat) : Int) ∧ ((n.val / 2 ^ j.val : Nat) : Int) / 2 = ((n.val / 2 ^ (j.val + 1) : Nat) : Int) := by decide +kernel
theorem lowC_end : ∀ n : St6, ∀ j : Fin 7, n.val / 2 ^ j.val = 0 → lowC n j.val = cnt n := by decide +kernel
theorem lowC_le (n : St6) (j : Nat) : lowC n j ≤ j := by
  unfold lowC
  have := List.countP_le_length (p := fun c => n.val.testBit c) (l := List.range j)
  rwa [List.length_range] at this
theorem cnt_le (n : St6) : cnt n ≤ 6 := lowC_le n 6
/-- the sets with fewer than n colours, by their number of colours -/
def layersTo (n : Nat) : List St6 := (List.range n).flatMap fun i => selF fun a => cnt a == i
theorem layersTo_succ (n : Nat) : layersTo (n + 1) = layersTo n ++ selF fun a => cnt a == n := by unfold layersTo; rw [List.range_succ, List.flatMap_append]; simp
theorem layers_all : layersTo 7 = allS := by decide +kernel
theorem allS_len : allS.length = 64 := by decide +kernel
theorem leastB_bit (P : St6 → Bool) (a : St6) (c : Nat) : (List.range (c + 1)).all (fun c => !(a.val.testBit c && P (bit6 c a))) = ((List.range c).all (fun c => !(a.val.testBit c && P (bit6 c a))) && !(a.val.testBit c && P (bit6 c a))) := by
  rw [List.range_succ, List.all_append]; simp
def leastTo (P : St6 → Bool) (a : St6) (c : Nat) : Bool := P a && (List.range c).all fun c => !(a.val.testBit c && P (bit6 c a))
theorem leastTo_zero (P : St6 → Bool) (a : St6) : leastTo P a 0 = P a := by unfold leastTo; simp
theorem leastTo_no {P : St6 → Bool} {a : St6} {c : Nat} (h : (a.val.testBit c && P (bit6 c a)) = false) : leastTo P a (c + 1) = leastTo P a c := by
  unfold leastTo; rw [leastB_bit, h, Bool.not_false, Bool.and_true]
theorem leastTo_yes {P : St6 → Bool} {a : St6} {c : Nat} (h : (a.val.testBit c && P (bit6 c a)) = true) : leastTo P a (c + 1) = false := by
  unfold leastTo; rw [leastB_bit, h, Bool.not_true, Bool.and_false, Bool.and_false]
theorem leastTo_all (P : St6 → Bool) (a : St6) : leastTo P a 6 = leastB P a := rfl
theorem bit6_fin : ∀ a : St6, ∀ c : Fin 6, bits .xor .i64 (a.val : Int) (wrap64 (2 ^ c.val)) = ((bit6 c.val a).val : Int) ∧ IntKind.i64.wrap (2 ^ c.val) = wrap64 (2 ^ c.val) ∧ (bits .and .i64 ((a.val : Int) / 2 ^ c.val) 1 == 1) = a.val.testBit c.val := by decide +kernel
/-- what is kept of the first k sets in order -/
def leastUp (P : St6 → Bool) (k : Nat) : List St6 := (allS.take k).filter (leastB P)
theorem leastUp_yes {P : St6 → Bool} {k : Nat} (h : k < allS.length) (hp : leastB P allS[k] = true) : leastUp P (k + 1) = leastUp P k ++ [allS[k]] := by
  unfold leastUp
  rw [List.take_succ_eq_append_getElem h, List.filter_append, List.filter_cons_of_pos hp]
  rfl
theorem leastUp_no {P : St6 → Bool} {k : Nat} (h : k < allS.length) (hp : leastB P allS[k] = false) : leastUp P (k + 1) = leastUp P k := by
  unfold leastUp
  rw [List.take_succ_eq_append_getElem h, List.filter_append, List.filter_cons_of_neg (by rw [hp]; decide), List.filter_nil, List.append_nil]
theorem leastUp_len (P : St6 → Bool) (k : Nat) : (leastUp P k).length ≤ k := by
  unfold leastUp
  have := List.length_filter_le (leastB P) (allS.take k)
  rw [List.length_take] at this
  omega
theorem leastUp_all (P : St6 → Bool) : leastUp P 64 = leastF P := by unfold leastUp leastF; rw [List.take_of_length_le (by rw [allS_len]; exact Nat.le_refl _)]
end M
namespace C
set_option maxHeartbeats 3200000
set_option maxRecDepth 20000
theorem l2Many_any (n : M.St6) (w : World) : Calls Try.prog 119 #[.int .i64 (n.val : Int)] w fun e w' => e = .returned (.int .i64 (M.cnt n : Nat)) ∧ w = w' := by
  have HS := Lib.hid (fun (j : Nat) (hj : j < 6) => M.lowC_step n ⟨j, hj⟩)
  have HE := Lib.hid (fun (j : Nat) (hj : j < 7) => M.lowC_end n ⟨j, hj⟩)
  have h6 : Hid (n.val / 2 ^ 6 = 0) := Lib.hid (Nat.div_eq_of_lt n.isLt)
  have h1 : Hid (n.val / 2 ^ 0 = n.val) := Lib.hid (by simp)
  have HL := Lib.hid (M.lowC_le n)
  go_enter Try.func119, Try.ntmps119
  go_wp2_with fail
  go_loop [0, 3] (fun v0 v3 => ∃ (j : Nat), j ≤ 6 ∧ v0 = .int .i64 ((n.val / 2 ^ j : Nat) : Int) ∧ v3 = .int .i64 ((M.lowC n j : Nat) : Int)) (fun v0 _ => (intOf v0).toNat)
  case atStart => exact ⟨0, Nat.zero_le _, by rw [h1.out], rfl⟩
  case round =>
    obtain ⟨j, hj, rfl, rfl⟩ := hrel
    by_cases hp : 0 < n.val / 2 ^ j
    · have hj6 : j < 6 := by
        rcases Nat.lt_or_ge j 6 with h | h
        · exact h
        · obtain rfl : j = 6 := by omega
          rw [h6.out] at hp; omega
      obtain ⟨e1, e2⟩ := HS.out j hj6
      have hll := HL.out j
      have hll2 := HL.out (j + 1)
      have hlt : n.val / 2 ^ (j + 1) < n.val / 2 ^ j := by
        rw [Nat.pow_succ, ← Nat.div_div_eq_div_mul]; exact Nat.div_lt_self hp (by decide)
      generalize n.val / 2 ^ j = q at *
      generalize hq2 : n.val / 2 ^ (j + 1) = q2 at *
      generalize hc2 : M.lowC n (j + 1) = c2 at *
      generalize M.lowC n j = cc at *
      have HQ2 := Lib.hid hq2
      have HC2 := Lib.hid hc2
      clear hq2 hc2
      have hadd : (cc : Int) + ((c2 : Int) - (cc : Int)) = (c2 : Int) := by omega
      have hpi : (0 : Int) < (q : Int) := by omega
      go_wp2_with fail
      go_round
      case rel => exact ⟨j + 1, by omega, by rw [HQ2.out], by rw [HC2.out]⟩
      case measure => simp [intOf]; omega
    · have hz : n.val / 2 ^ j = 0 := Nat.eq_zero_of_not_pos hp
      have HZ := Lib.hid (HE.out j (by omega) hz)
      have hpi : ¬ (0 : Int) < ((n.val / 2 ^ j : Nat) : Int) := by omega
      rw [HZ.out]
      clear hz hp
      generalize n.val / 2 ^ j = q at *
      go_wp2_with fail
      go_ret
      exact ⟨rfl, rfl⟩
theorem l6Order_any (w : World) : Calls Try.prog 96 #[] w (IntsPost w (M.intsF M.allS)) := by
  obtain ⟨ii0, hi0, hz0, hzz1, hz2⟩ := info_parts infoI
  have HLA := Lib.hid M.layers_all
  go_enter Try.func96, Try.ntmps96
  go_wp2_with fail
  go_loopw [1, 2, 3] (fun v1 v2 _ wr => ∃ (n : Nat), n ≤ 7 ∧ v2 = .int .i64 n ∧ wr.ownsRow w.heap.size 3 1 v1 (M.layersTo n).length (M.encIs (M.intsF (M.layersTo n))) ∧ (M.layersTo n).length ≤ 64 * n ∧ Below w.heap.size w wr) (fun _ v2 _ _ => 7 - (intOf v2).toNat)
  case atStart => exact ⟨0, Nat.zero_le _, rfl, ownsRow_empty _ _ _ _ (Nat.le_refl _), by simp [M.layersTo], below_alloc _ _⟩
  case round =>
    obtain ⟨n, hn, rfl, hso, hlen, hlow⟩ := hrel
    obtain ⟨wo, hwo⟩ : ∃ x, x = wr := ⟨_, rfl⟩
    subst hwo
    obtain ⟨la, lc, hv, hl1, hl2, hrow0⟩ := own_slice hso
    subst hv
    by_cases hn7 : n < 7
    · have hn7' : (n : Int) ≤ 6 := by omega
      have HSU := Lib.hid (M.layersTo_succ n)
      have ST := Lib.hid (show wo.ownsRow w.heap.size 3 1 (.slice la (M.layersTo n).length lc) (M.layersTo n ++ M.selTo (fun a => M.cnt a == n) 0).length (M.encIs (M.intsF (M.layersTo n ++ M.selTo (fun a => M.cnt a == n) 0))) ∧ Below w.heap.size w wo from by rw [M.selTo_zero, List.append_nil]; exact ⟨hso, hlow⟩)
      clear hso hlow hrow0
      go_wp2_with fail
      go_loopw [1, 3] (fun v1 v3 wr => ∃ (k : Nat), k ≤ 64 ∧ v3 = .int .i64 k ∧ wr.ownsRow w.heap.size 3 1 v1 (M.layersTo n ++ M.selTo (fun a => M.cnt a == n) k).length (M.encIs (M.intsF (M.layersTo n ++ M.selTo (fun a => M.cnt a == n) k))) ∧ Below w.heap.size w wr) (fun _ v3 _ => 64 - (intOf v3).toNat)
      case atStart => exact ⟨0, Nat.zero_le _, rfl, ST.out.1, ST.out.2⟩
      case round =>
        obtain ⟨k, hk, rfl, hso, hlow⟩ := hrel
        obtain ⟨lb, ld, hv, hm1, hm2, _⟩ := own_slice hso
        subst hv
        have SO := Lib.hid hso
        have LO := Lib.hid hlow
        have hzr := hlow.size
        have hsl := M.selTo_len (fun a => M.cnt a == n) k
        have hll : (M.layersTo n ++ M.selTo (fun a => M.cnt a == n) k).length ≤ 64 * n + k := by rw [List.length_append]; omega
        clear hso hlow hsl
        by_cases hkl : k < 64
        · have HY := Lib.hid (fun (h : (M.cnt ⟨k, hkl⟩ == n) = true) => congrArg (M.layersTo n ++ ·) (M.selTo_yes (P := fun a => M.cnt a == n) hkl h))
          have HN := Lib.hid (fun (h : (M.cnt ⟨k, hkl⟩ == n) = false) => congrArg (M.layersTo n ++ ·) (M.selTo_no (P := fun a => M.cnt a == n) hkl h))
          have CM := Lib.hid (l2Many_any ⟨k, hkl⟩ wr)
          have hcl := M.cnt_le ⟨k, hkl⟩
          generalize M.cnt ⟨k, hkl⟩ = q at *
          generalize hrowlen : M.layersTo n ++ M.selTo (fun a => M.cnt a == n) k = rows at *
          have HR := Lib.hid hrowlen
          clear hrowlen
          by_cases hq : q = n
          · have HYE := Lib.hid (HY.out (by rw [beq_iff_eq]; exact hq))
            have hqb : ((q : Int) == (n : Int)) = true := by rw [beq_iff_eq]; omega
            have HQ := Lib.hid hq
            clear hq
            go_wp2_with fail
            refine CM.out.mono ?_
            rintro e w5 ⟨rfl, rfl⟩
            go_wp2_with (at_builtin; refine wpList_append_own _ rfl _ _ 23 rfl w.heap.size 3 ii0 (.int .i64 0) 1 8 Try.underlying23 hi0 hz0 hzz1 hz2 rfl (by decide) _ _ _ rfl (SO.out.alloc _) ⟨wr.heap.size, 0, none⟩ 1 1 [.int .i64 (k : Int)] rfl rfl (cell_one_new _ _ _) (fun x hx => by simp at hx; subst hx; rfl) (by unfold maxLen; omega) (by omega) (by simp; omega) ?_; intro v' w6 hown' hgrow3 hnil3)
            go_roundw
            case rel =>
              refine ⟨k + 1, by omega, by go_num, ?_, (LO.out.alloc (by omega) _).grown hgrow3 (by simp; omega) (own_base SO.out)⟩
              have e : M.layersTo n ++ M.selTo (fun a => M.cnt a == n) (k + 1) = rows ++ [⟨k, hkl⟩] := by rw [HYE.out, ← HR.out, List.append_assoc]
              rw [e, M.intsF_snoc, M.encIs_append, List.length_append]
              exact hown'
            case measure => simp [intOf]; omega
          · have HNO := Lib.hid (HN.out (by rw [beq_eq_false_iff_ne]; exact hq))
            have hqb : ((q : Int) == (n : Int)) = false := by rw [beq_eq_false_iff_ne]; omega
            have hqi : ¬ (q : Int) = (n : Int) := by omega
            clear hq
            go_wp2_with fail
            refine CM.out.mono ?_
            rintro e w5 ⟨rfl, rfl⟩
            go_wp2_with fail
            go_roundw
            case rel => exact ⟨k + 1, by omega, by go_num, by rw [HNO.out]; exact SO.out, LO.out⟩
            case measure => simp [intOf]; omega
        · obtain rfl : k = 64 := by omega
          go_wp2_with fail
          go_roundw
          case rel => exact ⟨n + 1, by omega, by go_num, by rw [HSU.out]; exact SO.out, by rw [HSU.out]; exact Nat.le_trans hll (by omega), LO.out⟩
          case measure => simp [intOf]; omega
    · obtain rfl : n = 7 := by omega
      rw [HLA.out] at hso hl1 ⊢
      rw [M.allS_len] at hl1 ⊢
      have SO := Lib.hid hso
      have LO := Lib.hid hlow
      have RO := Lib.hid hrow0
      clear hso hlow hrow0
      go_wp2_with fail
      go_ret
      refine ints_end (l := M.intsF M.allS) ?_ LO.out
      rw [M.intsF_len]
      have := SO.out
      rw [M.allS_len] at this ⊢
      exact this
theorem l6Least_any (w : World) (lo hi : Nat) (ba : Option Addr) (bc : Nat) (P : M.St6 → Bool) (h : RowIn lo hi w ba (M.encBs (M.boolsF P))) (hz : hi ≤ w.heap.size) (_hbc1 : 64 ≤ bc) (_hbc2 : bc ≤ 9223372036854775807) : Calls Try.prog 63 #[.slice ba 64 bc] w (IntsPost w (M.intsF (M.leastF P))) := by
  obtain ⟨ii0, hi0, hz0, hzz1, hz2⟩ := info_parts infoI
  have HB := Lib.hid h
  clear h
  have HBA := Lib.hid (fun s : M.St6 => M.boolsF_at P s)
  have HBL : Hid ((M.encBs (M.boolsF P)).length = 64) := Lib.hid (by rw [M.encBs_len, M.boolsF_len])
  have HAL := Lib.hid (M.leastUp_all P)
  have h64 := M.allS_len
  go_enter Try.func63, Try.ntmps63
  go_wp2_with fail
  refine named ?_
  intro W hW
  have hb : Below w.heap.size w W := by rw [hW]; exact below_alloc _ _
  have o2 : W.ownsRow w.heap.size 3 1 (.slice (some ⟨w.heap.size, 0, none⟩) 0 0) 0 (M.encIs (M.intsF (M.leastUp P 0))) := by rw [hW]; exact ownsRow_empty _ _ _ _ (Nat.le_refl _)
  clear hW
  refine (l6Order_any W).mono ?_
  rintro e w2 ⟨ra, rc, rfl, hr, hr1, hr2, hb2⟩
  rw [M.intsF_len, h64] at hr1 ⊢
  have HR := Lib.hid hr
  have hgW : w.heap.size < W.heap.size := (o2.lt w.heap.size rfl).2
  have ST := Lib.hid (show OwnQ w.heap.size w2 3 1 (.slice (some ⟨w.heap.size, 0, none⟩) 0 0) (M.leastUp P 0).length (M.encIs (M.intsF (M.leastUp P 0))) ∧ Below w.heap.size w w2 from ⟨OwnQ.of_own (own_below o2 hb2), hb.trans (hb2.mono hb.size)⟩)
  have hzW := hb.size
  have hz2' := hb2.size
  clear hr hb hb2 o2
  go_wp2_with fail
  go_loopw [3, 5, 6, 7] (fun v3 v5 _ _ wr => ∃ (k : Nat), k ≤ 64 ∧ v5 = .int .i64 k ∧ OwnQ w.heap.size wr 3 1 v3 (M.leastUp P k).length (M.encIs (M.intsF (M.leastUp P k))) ∧ (∀ z, v3.ownBlock = some z → z < W.heap.size ∨ w2.heap.size ≤ z) ∧ Below w.heap.size w wr ∧ OwnAt W.heap.size w2.heap.size wr 3 ra (M.encIs (M.intsF M.allS)) ∧ w2.heap.size ≤ wr.heap.size) (fun _ v5 _ _ _ => 64 - (intOf v5).toNat)
  case atStart => exact ⟨0, Nat.zero_le _, rfl, ST.out.1, fun z hz => by (have : w.heap.size = z := by simpa [Value.ownBlock] using hz); omega, ST.out.2, HR.out, Nat.le_refl _⟩
  case round =>
    obtain ⟨k, hk, rfl, hso, hnb, hlow, hrow, hsz⟩ := hrel
    obtain ⟨wo, hwo⟩ : ∃ x, x = wr := ⟨_, rfl⟩
    subst hwo
    obtain ⟨la, lc, hv, hl1, hl2⟩ := hso.shape
    have NB := Lib.hid hnb
    have hbs := Lib.hid hso.base
    clear hnb
    subst hv
    have SO := Lib.hid hso
    have LO := Lib.hid hlow
    have RO := Lib.hid hrow
    have hzr := hlow.size
    have hul := M.leastUp_len P k
    clear hso hlow hrow
    by_cases hkl : k < 64
    · have hk64 : k < M.allS.length := by rw [h64]; exact hkl
      obtain ⟨rb, off, hra, hr3, hr4, hc0⟩ := RO.out.row.at_ (k := k) (by rw [M.encIs_len, M.intsF_len]; exact hk64)
      have c0 : wo.cell? ⟨rb, off + k, none⟩ = some (.int .i64 ((M.allS[k]).val : Int)) := hc0 _ _ (by rw [M.encIs_at (by rw [M.intsF_len]; exact hk64), M.intsF_at hk64])
      have HY := Lib.hid (fun h => M.leastUp_yes (P := P) hk64 h)
      have HN := Lib.hid (fun h => M.leastUp_no (P := P) hk64 h)
      clear hc0
      subst hra
      generalize M.allS[k] = a at *
      have ha := a.isLt
      have hB2 := HB.out.below LO.out hz
      obtain ⟨bb, boff, hba, hb3, hb4, hbc⟩ := hB2.at_ (k := a.val) (by rw [HBL.out]; exact ha)
      have d0 := hbc _ _ (HBA.out a)
      have HCE := Lib.hid (fun s : M.St6 => hbc _ _ (HBA.out s))
      have hbl : bb < wo.heap.size := by omega
      clear hbc hB2
      subst hba
      have HT0 := Lib.hid (M.leastTo_zero P a)
      have HT6 := Lib.hid (M.leastTo_all P a)
      have hbit := Lib.hid (fun (c : Nat) (hc : c < 6) => M.bit6_fin a ⟨c, hc⟩)
      go_wp2_with fail
      go_loopw [6, 7] (fun v6 v7 wr => ∃ (c : Nat), c ≤ 6 ∧ v7 = .int .i64 c ∧ v6 = .bool (M.leastTo P a c) ∧ Below wo.heap.size wo wr) (fun _ v7 _ => 6 - (intOf v7).toNat)
      case atStart => exact ⟨0, Nat.zero_le _, rfl, by rw [HT0.out], Below.refl _ _⟩
      case round =>
        obtain ⟨c, hc, rfl, rfl, hni⟩ := hrel
        have HI := Lib.hid hni
        have hzi := hni.size
        clear hni
        have q0 : wr.cell? ⟨rb, off + k, none⟩ = some (.int .i64 (a.val : Int)) := (HI.out.cell (p := ⟨rb, off + k, none⟩) (show rb < wo.heap.size by omega)).trans c0
        by_cases hc6 : c < 6
        · obtain ⟨e1, e2, e3⟩ := hbit.out c hc6
          have HNO := Lib.hid (fun h => M.leastTo_no (P := P) (a := a) (c := c) h)
          have HYE := Lib.hid (fun h => M.leastTo_yes (P := P) (a := a) (c := c) h)
          have hcb := (M.bit6 c a).isLt
          have hc0' : ¬ (c : Int) < 0 := by omega
          have d1 : wr.cell? ⟨bb, boff + (M.bit6 c a).val, none⟩ = some (.bool (P (M.bit6 c a))) := (HI.out.cell (p := ⟨bb, boff + (M.bit6 c a).val, none⟩) hbl).trans (HCE.out (M.bit6 c a))
          have E0 := cell_grown (a := ⟨rb, off + k, none⟩) (show rb < wr.heap.size by omega) q0
          have E1 := cell_grown (a := ⟨bb, boff + (M.bit6 c a).val, none⟩) (show bb < wr.heap.size by omega) d1
          cases hb1 : a.val.testBit c with
          | false =>
            rw [hb1] at e3
            have HQ := Lib.hid (HNO.out (by rw [hb1]; rfl))
            clear hb1 e1 e2 d1 E1 q0
            have mixed : Try.prog.follows .mixedOrders = true := by kernel_rfl
            go_wp2_with fail
            refine wp_region_quiet_grown (by assumption) (by kernel_rfl) ?_
            repeat (first | go_big_quiet_step (fail) | quiet_step (fail))
            refine wpQuiet_nil ?_
            intro _ hw'
            obtain ⟨⟨nq, osq⟩, hw''⟩ := hw'
            subst hw''
            go_wp2_with fail
            go_roundw
            case rel => exact ⟨c + 1, by omega, by go_num, by rw [HQ.out], HI.out.trans ((below_grown wr nq osq).mono hzi)⟩
            case measure => simp [intOf]; omega
          | true =>
            rw [hb1] at e3
            cases hpb : P (M.bit6 c a) with
            | false =>
              have HQ := Lib.hid (HNO.out (by rw [hb1, hpb]; rfl))
              rw [hpb] at E1
              clear hb1 hpb d1 q0
              generalize M.bit6 c a = a2 at *
              generalize wrap64 (2 ^ c) = pw at *
              have mixed : Try.prog.follows .mixedOrders = true := by kernel_rfl
              go_wp2_with fail
              refine wp_region_quiet_grown (by assumption) (by kernel_rfl) ?_
              repeat (first | go_big_quiet_step (fail) | quiet_step (fail))
              refine wpQuiet_nil ?_
              intro _ hw'
              obtain ⟨⟨nq, osq⟩, hw''⟩ := hw'
              subst hw''
              go_wp2_with fail
              go_roundw
              case rel => exact ⟨c + 1, by omega, by go_num, by rw [HQ.out], HI.out.trans ((below_grown wr nq osq).mono hzi)⟩
              case measure => simp [intOf]; omega
            | true =>
              have HQ := Lib.hid (HYE.out (by rw [hb1, hpb]; rfl))
              rw [hpb] at E1
              clear hb1 hpb d1 q0
              generalize M.bit6 c a = a2 at *
              generalize wrap64 (2 ^ c) = pw at *
              have mixed : Try.prog.follows .mixedOrders = true := by kernel_rfl
              go_wp2_with fail
              refine wp_region_quiet_grown (by assumption) (by kernel_rfl) ?_
              repeat (first | go_big_quiet_step (fail) | quiet_step (fail))
              refine wpQuiet_nil ?_
              intro _ hw'
              obtain ⟨⟨nq, osq⟩, hw''⟩ := hw'
              subst hw''
              go_wp2_with fail
              go_roundw
              case rel => exact ⟨c + 1, by omega, by go_num, by rw [HQ.out], HI.out.trans ((below_grown wr nq osq).mono hzi)⟩
              case measure => simp [intOf]; omega
        · obtain rfl : c = 6 := by omega
          have SO5 := Lib.hid (SO.out.below HI.out)
          have LO5 := Lib.hid (LO.out.trans (HI.out.mono hzr))
          have RO5 := Lib.hid (RO.out.below HI.out hsz)
          rw [HT6.out]
          cases hlb : M.leastB P a with
          | false =>
            have HQ := Lib.hid (HN.out hlb)
            clear hlb
            go_wp2_with fail
            go_roundw
            case rel => exact ⟨k + 1, by omega, by go_num, by rw [HQ.out]; exact SO5.out, NB.out, LO5.out, RO5.out, by omega⟩
            case measure => simp [intOf]; omega
          | true =>
            have HQ := Lib.hid (HY.out hlb)
            clear hlb
            go_wp2_with (at_builtin; refine wpList_append_q rfl _ _ 23 rfl w.heap.size 3 ii0 (.int .i64 0) 1 8 Try.underlying23 hi0 hz0 hzz1 hz2 rfl _ _ _ rfl (SO5.out.below (below_alloc _ _)) ⟨wr.heap.size, 0, none⟩ 1 [.int .i64 (a.val : Int)] rfl rfl (cell_one_new _ _ _) (fun x hx => by simp at hx; subst hx; rfl) (by unfold maxLen; omega) (by omega) (by simp; omega) ?_; intro v' w7 hown' hgrow3 hnil3)
            go_roundw
            case rel =>
              refine ⟨k + 1, by omega, by go_num, ?_, ?_, (LO5.out.alloc (by omega) _).grown hgrow3 (by simp; omega) (fun z hz => (hbs.out z hz).1), (RO5.out.below (below_alloc _ _) (by omega)).grownRow hgrow3 (by simp; omega) NB.out, by have := hgrow3.size; simp at this; omega⟩
              · rw [HQ.out, M.intsF_snoc, M.encIs_append, List.length_append]
                exact hown'
              · intro z hz
                rcases hnil3 with e | e
                · rw [e] at hz; exact NB.out z hz
                · rw [e] at hz
                  injection hz with hz
                  have : wr.heap.size + 1 = z := by simpa using hz
                  omega
            case measure => simp [intOf]; omega
    · obtain rfl : k = 64 := by omega
      go_wp2_with fail
      go_ret
      have ho := SO.out.own rfl
      rw [HAL.out] at ho hl1
      exact ⟨la, lc, by rw [M.intsF_len, ← HAL.out]; rfl, ho, by rw [M.intsF_len]; exact hl1, by unfold maxLen at hl2; omega, LO.out⟩
end C
end Go.Proofs.Ytcoaggnilgfjfaa
namespace Go.Proofs.Ytcoaggnilgfjfaa
open Go.RowKit
namespace M
noncomputable def lwV (F : Mz → St6 → Bool) (m : Mz) : List Int := if mazeB m then intsF (leastF (F m)) else []
theorem lwV_no {F : Mz → St6 → Bool} {m : Mz} (h : mazeB m = false) : lwV F m = [] := by unfold lwV; rw [h]; rfl
theorem lwV_yes {F : Mz → St6 → Bool} {m : Mz} (h : mazeB m = true) : lwV F m = intsF (leastF (F m)) := by unfold lwV; rw [if_pos h]
theorem leastF_len (P : St6 → Bool) : (leastF P).length ≤ 64 := by
  rw [← leastUp_all]; exact leastUp_len P 64
theorem lwV_len (F : Mz → St6 → Bool) (m : Mz) : (lwV F m).length ≤ 1048576 := by
  cases h : mazeB m with
  | false => rw [lwV_no h]; simp
  | true => rw [lwV_yes h, intsF_len]; have := leastF_len (F m); omega
theorem least_sel {P : St6 → Bool} (hP : ∀ a b, subF a b = true → P a = true → P b = true) : cluV (intsF (selF P)) = intsF (leastF P) := by
  rw [cluV_intsF, least_all hP fun a => mem_selF]
def cntV (m : Mz) (F : Mz → St6 → Bool) : Int := if mazeB m then ((selF (F m)).length : Int) else 0
/-- the colours that all sets of a list have -/
def andAll : List St6 → Int → Int
  | [], s => s
  | a :: l, s => andAll l (bits .and .i64 s (a.val : Int))
theorem andAll_snoc : ∀ (l : List St6) (a : St6) (s : Int), andAll (l ++ [a]) s = bits .and .i64 (andAll l s) (a.val : Int)
  | [], _, _ => rfl
  | _ :: l, a, _ => andAll_snoc l a _
theorem andAll_take {l : List St6} {k : Nat} (h : k < l.length) (s : Int) : andAll (l.take (k + 1)) s = bits .and .i64 (andAll (l.take k) s) ((l[k]).val : Int) := by
  rw [List.take_succ_eq_append_getElem h, andAll_snoc]
/-- the colours that no set of a list has -/
def subAll : List St6 → Int → Int
  | [], s => s
  | a :: l, s => subAll l (bits .andNot .i64 s (a.val : Int))
theorem subAll_snoc : ∀ (l : List St6) (a : St6) (s : Int), subAll (l ++ [a]) s = bits .andNot .i64 (subAll l s) (a.val : Int)
  | [], _, _ => rfl
  | _ :: l, a, _ => subAll_snoc l a _
theorem subAll_take {l : List St6} {k : Nat} (h : k < l.length) (s : Int) : subAll (l.take (k + 1)) s = bits .andNot .i64 (subAll (l.take k) s) ((l[k]).val : Int) := by
  rw [List.take_succ_eq_append_getElem h, subAll_snoc]
end M
namespace C
set_option maxHeartbeats 3200000
set_option maxRecDepth 20000
end C
end Go.Proofs.Ytcoaggnilgfjfaa
namespace Go.Proofs.Ytcoaggnilgfjfaa
open Go.RowKit
namespace C
set_option maxHeartbeats 3200000
set_option maxRecDepth 20000
theorem implLw_lw (w : World) (lo hi : Nat) (m : M.Mz) (a b : Option Addr) (c d : Nat) (h : MzIn lo hi w m a c b d) (hz : hi ≤ w.heap.size) (_h1 : m.doors.length ≤ 1048576) (_h2 : m.keys.length ≤ 1048576) :
    Calls Try.prog 23 #[.agg #[.int .i64 m.size, .slice a m.doors.length c, .slice b m.keys.length d]] w (IntsOkPost w (M.lwV M.wF m) (M.mazeB m)) := by
  obtain ⟨ii0, hi0, hz0, hzz1, hz2⟩ := info_parts infoI
  have H := Lib.hid h
  clear h
  go_enter Try.func23, Try.ntmps23
  go_wp2_with fail
  refine named ?_
  intro W hW
  have hb : Below w.heap.size w W := by rw [hW]; exact below_alloc _ _
  have x1 : Box3 W w.heap.size 29 (.int .i64 m.size) (.slice a m.doors.length c) (.slice b m.keys.length d) := by rw [hW]; exact Box3.new _ _ _ _ rfl
  clear hW
  have hzw := hb.size
  refine (isMaze_any W lo hi m a b c d (H.out.below hb hz) (by omega)).mono ?_
  rintro e w1 ⟨rfl, hb1⟩
  have X1 := Lib.hid (x1.below hb1)
  have HB1 := Lib.hid (hb.trans (hb1.mono hzw))
  have hz1 := hb1.size
  have hxl1 := X1.out.lt
  clear hb hb1 x1
  obtain ⟨c0, c1, c2⟩ := X1.out.cells
  cases q0 : M.mazeB m with
  | false =>
    have HM := Lib.hid q0
    clear q0
    go_wp2_with fail
    go_ret2
    rw [HM.out, M.lwV_no HM.out]
    exact intsOk_end (l := []) (ownsRow_empty _ _ _ _ (by omega)) (HB1.out.alloc (by omega) _)
  | true =>
    have HM := Lib.hid q0
    have HV := Lib.hid (M.valid_of q0)
    clear q0
    have HLS : Hid (M.cluV (M.intsF (M.selF (M.wF m))) = M.lwV M.wF m) := Lib.hid (by rw [M.least_sel (M.wF_more HV.out), M.lwV_yes HM.out])
    have HKB := Lib.hid (M.keysB_intsF (M.selF (M.wF m)))
    have hl64 := M.selTo_len (M.wF m) 64
    have HSE := Lib.hid (setsWith_any 61 #[.agg #[.int .i64 m.size, .slice a m.doors.length c, .slice b m.keys.length d]] #[] (M.wF m) (enters_of Try.func61 (by kernel_rfl) rfl) w1 (fun W' s hq => wins6_any W' lo hi m a b c d (H.out.below (HB1.out.trans (hq.mono (by omega))) hz) (by have := hq.size; omega) HV.out s))
    go_wp2_with fail
    refine HSE.out.mono ?_
    rintro e w2 ⟨ra, rc, rfl, ho, ho1, ho2, hb2⟩
    have HO := Lib.hid ho
    have HB2 := Lib.hid (HB1.out.trans (hb2.mono (by omega)))
    have hz2' := hb2.size
    have hll : (M.intsF (M.selF (M.wF m))).length ≤ 1048576 := by rw [M.intsF_len]; show (M.selTo (M.wF m) 64).length ≤ _; omega
    clear ho hb2
    generalize M.intsF (M.selF (M.wF m)) = L at *
    go_wp2_with fail
    refine (clutterOf_any w2 _ _ ra rc L HO.out.row (Nat.le_refl _) hll).mono ?_
    rintro e w3 ⟨qa, qc, rfl, hp, hp1, hp2, hb3⟩
    rw [HLS.out] at hp hp1 ⊢
    have HP := Lib.hid hp
    have HB3 := Lib.hid (HB2.out.trans (hb3.mono (by omega)))
    clear hp hb3
    rw [HKB.out]
    generalize M.lwV M.wF m = R at *
    go_wp2_with fail
    go_ret2
    rw [HM.out]
    exact ⟨qa, qc, rfl, HP.out.mono (by omega) (Nat.le_refl _), hp1, hp2, HB3.out⟩
theorem implLb_lw (w : World) (lo hi : Nat) (m : M.Mz) (a b : Option Addr) (c d : Nat) (h : MzIn lo hi w m a c b d) (hz : hi ≤ w.heap.size) (_h1 : m.doors.length ≤ 1048576) (_h2 : m.keys.length ≤ 1048576) :
    Calls Try.prog 29 #[.agg #[.int .i64 m.size, .slice a m.doors.length c, .slice b m.keys.length d]] w (IntsOkPost w (M.lwV M.bF m) (M.mazeB m)) := by
  obtain ⟨ii0, hi0, hz0, hzz1, hz2⟩ := info_parts infoI
  have H := Lib.hid h
  clear h
  go_enter Try.func29, Try.ntmps29
  go_wp2_with fail
  refine named ?_
  intro W hW
  have hb : Below w.heap.size w W := by rw [hW]; exact below_alloc _ _
  have x1 : Box3 W w.heap.size 29 (.int .i64 m.size) (.slice a m.doors.length c) (.slice b m.keys.length d) := by rw [hW]; exact Box3.new _ _ _ _ rfl
  clear hW
  have hzw := hb.size
  refine (isMaze_any W lo hi m a b c d (H.out.below hb hz) (by omega)).mono ?_
  rintro e w1 ⟨rfl, hb1⟩
  have X1 := Lib.hid (x1.below hb1)
  have HB1 := Lib.hid (hb.trans (hb1.mono hzw))
  have hz1 := hb1.size
  have hxl1 := X1.out.lt
  clear hb hb1 x1
  obtain ⟨c0, c1, c2⟩ := X1.out.cells
  cases q0 : M.mazeB m with
  | false =>
    have HM := Lib.hid q0
    clear q0
    go_wp2_with fail
    go_ret2
    rw [HM.out, M.lwV_no HM.out]
    exact intsOk_end (l := []) (ownsRow_empty _ _ _ _ (by omega)) (HB1.out.alloc (by omega) _)
  | true =>
    have HM := Lib.hid q0
    have HV := Lib.hid (M.valid_of q0)
    clear q0
    have HLS : Hid (M.cluV (M.intsF (M.selF (M.bF m))) = M.lwV M.bF m) := Lib.hid (by rw [M.least_sel (M.bF_more HV.out), M.lwV_yes HM.out])
    have HKB := Lib.hid (M.keysB_intsF (M.selF (M.bF m)))
    have hl64 := M.selTo_len (M.bF m) 64
    have HSE := Lib.hid (setsWith_any 67 #[.agg #[.int .i64 m.size, .slice a m.doors.length c, .slice b m.keys.length d]] #[] (M.bF m) (enters_of Try.func67 (by kernel_rfl) rfl) w1 (fun W' s hq => bars6_any W' lo hi m a b c d (H.out.below (HB1.out.trans (hq.mono (by omega))) hz) (by have := hq.size; omega) HV.out s))
    go_wp2_with fail
    refine HSE.out.mono ?_
    rintro e w2 ⟨ra, rc, rfl, ho, ho1, ho2, hb2⟩
    have HO := Lib.hid ho
    have HB2 := Lib.hid (HB1.out.trans (hb2.mono (by omega)))
    have hz2' := hb2.size
    have hll : (M.intsF (M.selF (M.bF m))).length ≤ 1048576 := by rw [M.intsF_len]; show (M.selTo (M.bF m) 64).length ≤ _; omega
    clear ho hb2
    generalize M.intsF (M.selF (M.bF m)) = L at *
    go_wp2_with fail
    refine (clutterOf_any w2 _ _ ra rc L HO.out.row (Nat.le_refl _) hll).mono ?_
    rintro e w3 ⟨qa, qc, rfl, hp, hp1, hp2, hb3⟩
    rw [HLS.out] at hp hp1 ⊢
    have HP := Lib.hid hp
    have HB3 := Lib.hid (HB2.out.trans (hb3.mono (by omega)))
    clear hp hb3
    rw [HKB.out]
    generalize M.lwV M.bF m = R at *
    go_wp2_with fail
    go_ret2
    rw [HM.out]
    exact ⟨qa, qc, rfl, HP.out.mono (by omega) (Nat.le_refl _), hp1, hp2, HB3.out⟩
end C
end Go.Proofs.Ytcoaggnilgfjfaa
namespace Go.Proofs.Ytcoaggnilgfjfaa
open Go.RowKit
namespace C
set_option maxHeartbeats 3200000
set_option maxRecDepth 20000
theorem specLw_lw (w : World) (lo hi : Nat) (m : M.Mz) (a b : Option Addr) (c d : Nat) (h : MzIn lo hi w m a c b d) (hz : hi ≤ w.heap.size) (_h1 : m.doors.length ≤ 1048576) (_h2 : m.keys.length ≤ 1048576) :
    Calls Try.prog 22 #[.agg #[.int .i64 m.size, .slice a m.doors.length c, .slice b m.keys.length d]] w (IntsOkPost w (M.lwV M.wF m) (M.mazeB m)) := by
  obtain ⟨ii0, hi0, hz0, hzz1, hz2⟩ := info_parts infoI
  have H := Lib.hid h
  clear h
  go_enter Try.func22, Try.ntmps22
  go_wp2_with fail
  refine named ?_
  intro W hW
  have hb : Below w.heap.size w W := by rw [hW]; exact below_alloc _ _
  have x1 : Box3 W w.heap.size 29 (.int .i64 m.size) (.slice a m.doors.length c) (.slice b m.keys.length d) := by rw [hW]; exact Box3.new _ _ _ _ rfl
  clear hW
  have hzw := hb.size
  refine (specMaze_any W lo hi m a b c d (H.out.below hb hz) (by omega)).mono ?_
  rintro e w1 ⟨rfl, hb1⟩
  have X1 := Lib.hid (x1.below hb1)
  have HB1 := Lib.hid (hb.trans (hb1.mono hzw))
  have hz1 := hb1.size
  have hxl1 := X1.out.lt
  clear hb hb1 x1
  obtain ⟨c0, c1, c2⟩ := X1.out.cells
  cases q0 : M.mazeB m with
  | false =>
    have HM := Lib.hid q0
    clear q0
    go_wp2_with fail
    go_ret2
    rw [HM.out, M.lwV_no HM.out]
    exact intsOk_end (l := []) (ownsRow_empty _ _ _ _ (by omega)) (HB1.out.alloc (by omega) _)
  | true =>
    have HM := Lib.hid q0
    have HV := Lib.hid (M.valid_of q0)
    clear q0
    have HLS := Lib.hid (M.lwV_yes (F := M.wF) HM.out)
    have h64 := M.boolsF_len (M.wF m)
    go_wp2_with fail
    refine (l6Wins_any w1 lo hi m a b c d (H.out.below HB1.out hz) (by omega) HV.out).mono ?_
    rintro e w2 ⟨ra, rc, rfl, ho, ho1, ho2, hb2⟩
    rw [h64] at ho1 ⊢
    have HO := Lib.hid ho
    have HB2 := Lib.hid (HB1.out.trans (hb2.mono (by omega)))
    have hz2' := hb2.size
    clear ho hb2
    go_wp2_with fail
    refine (l6Least_any w2 _ _ ra rc (M.wF m) HO.out.row (Nat.le_refl _) ho1 ho2).mono ?_
    rintro e w3 ⟨qa, qc, rfl, hp, hp1, hp2, hb3⟩
    rw [← HLS.out] at hp hp1 ⊢
    have HP := Lib.hid hp
    have HB3 := Lib.hid (HB2.out.trans (hb3.mono (by omega)))
    clear hp hb3
    generalize M.lwV M.wF m = R at *
    go_wp2_with fail
    go_ret2
    rw [HM.out]
    exact ⟨qa, qc, rfl, HP.out.mono (by omega) (Nat.le_refl _), hp1, hp2, HB3.out⟩
theorem specLb_lw (w : World) (lo hi : Nat) (m : M.Mz) (a b : Option Addr) (c d : Nat) (h : MzIn lo hi w m a c b d) (hz : hi ≤ w.heap.size) (_h1 : m.doors.length ≤ 1048576) (_h2 : m.keys.length ≤ 1048576) :
    Calls Try.prog 28 #[.agg #[.int .i64 m.size, .slice a m.doors.length c, .slice b m.keys.length d]] w (IntsOkPost w (M.lwV M.bF m) (M.mazeB m)) := by
  obtain ⟨ii0, hi0, hz0, hzz1, hz2⟩ := info_parts infoI
  have H := Lib.hid h
  clear h
  go_enter Try.func28, Try.ntmps28
  go_wp2_with fail
  refine named ?_
  intro W hW
  have hb : Below w.heap.size w W := by rw [hW]; exact below_alloc _ _
  have x1 : Box3 W w.heap.size 29 (.int .i64 m.size) (.slice a m.doors.length c) (.slice b m.keys.length d) := by rw [hW]; exact Box3.new _ _ _ _ rfl
  clear hW
  have hzw := hb.size
  refine (specMaze_any W lo hi m a b c d (H.out.below hb hz) (by omega)).mono ?_
  rintro e w1 ⟨rfl, hb1⟩
  have X1 := Lib.hid (x1.below hb1)
  have HB1 := Lib.hid (hb.trans (hb1.mono hzw))
  have hz1 := hb1.size
  have hxl1 := X1.out.lt
  clear hb hb1 x1
  obtain ⟨c0, c1, c2⟩ := X1.out.cells
  cases q0 : M.mazeB m with
  | false =>
    have HM := Lib.hid q0
    clear q0
    go_wp2_with fail
    go_ret2
    rw [HM.out, M.lwV_no HM.out]
    exact intsOk_end (l := []) (ownsRow_empty _ _ _ _ (by omega)) (HB1.out.alloc (by omega) _)
  | true =>
    have HM := Lib.hid q0
    have HV := Lib.hid (M.valid_of q0)
    clear q0
    have HLS := Lib.hid (M.lwV_yes (F := M.bF) HM.out)
    have h64 := M.boolsF_len (M.bF m)
    go_wp2_with fail
    refine (l6Bars_any w1 lo hi m a b c d (H.out.below HB1.out hz) (by omega) HV.out).mono ?_
    rintro e w2 ⟨ra, rc, rfl, ho, ho1, ho2, hb2⟩
    rw [h64] at ho1 ⊢
    have HO := Lib.hid ho
    have HB2 := Lib.hid (HB1.out.trans (hb2.mono (by omega)))
    have hz2' := hb2.size
    clear ho hb2
    go_wp2_with fail
    refine (l6Least_any w2 _ _ ra rc (M.bF m) HO.out.row (Nat.le_refl _) ho1 ho2).mono ?_
    rintro e w3 ⟨qa, qc, rfl, hp, hp1, hp2, hb3⟩
    rw [← HLS.out] at hp hp1 ⊢
    have HP := Lib.hid hp
    have HB3 := Lib.hid (HB2.out.trans (hb3.mono (by omega)))
    clear hp hb3
    generalize M.lwV M.bF m = R at *
    go_wp2_with fail
    go_ret2
    rw [HM.out]
    exact ⟨qa, qc, rfl, HP.out.mono (by omega) (Nat.le_refl _), hp1, hp2, HB3.out⟩
end C
end Go.Proofs.Ytcoaggnilgfjfaa
