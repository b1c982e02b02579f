/-
  CONTRACTS of impl.compareSets and of what it calls: bits.OnesCount at numbers below 64, cmp.Compare at ints, cmp.Or at two ints; the world is as it was but for a new list. Condition: sets of colours.
-/
import Derived.Test.YtkkfmleoamhgkaaCmp
import Derived.Test.YtkkfmleoamhgkaaCluM
import Derived.Test.YtkkfmleoamhgkaaWinM
import Derived.Sort.Grow
namespace Go.Proofs.Ytkkfmleoamhgkaa
open Go.RowKit
namespace M

def cmpS (a b : St6) : Int := if cmpI (cnt a) (cnt b) = 0 then cmpI a.val b.val else cmpI (cnt a) (cnt b)
theorem cmpS_lt (a b : St6) : decide (cmpS a b < 0) = ltS a b := by
  unfold cmpS cmpI ltS
  rw [Bool.eq_iff_iff, decide_eq_true_iff, decide_eq_true_iff]
  split <;> split <;> (try split) <;> (try split) <;> omega
end M
namespace C
set_option maxHeartbeats 1600000
set_option maxRecDepth 20000
theorem isNaN_any (x : Int) (w : World) : Calls Try.prog 62 #[.int .i64 x] w fun e w' => e = .returned (.bool false) ∧ w = w' := by
  go_enter Try.func62, Try.ntmps62
  go_wp2_with fail
  go_ret
  exact ⟨by simp, rfl⟩
theorem compareI_any (x y : Int) (w : World) : Calls Try.prog 47 #[.int .i64 x, .int .i64 y] w fun e w' => e = .returned (.int .i64 (M.cmpI x y)) ∧ w = w' := by
  rcases Int.lt_trichotomy x y with h | h | h
  · have e : M.cmpI x y = -1 := by unfold M.cmpI; rw [if_pos h]
    rw [e]
    clear e
    go_enter Try.func47, Try.ntmps47
    go_wp2_with (go_at_call 62; refine (isNaN_any _ _).mono ?_; rintro e w1 ⟨rfl, rfl⟩)
    go_ret
    exact ⟨rfl, rfl⟩
  · subst h
    have e : M.cmpI x x = 0 := by unfold M.cmpI; rw [if_neg (by omega), if_neg (by omega)]
    rw [e]
    clear e
    go_enter Try.func47, Try.ntmps47
    go_wp2_with (go_at_call 62; refine (isNaN_any _ _).mono ?_; rintro e w1 ⟨rfl, rfl⟩)
    go_ret
    exact ⟨rfl, rfl⟩
  · have e : M.cmpI x y = 1 := by unfold M.cmpI; rw [if_neg (by omega), if_pos h]
    have h2 : ¬ x < y := by omega
    rw [e]
    clear e
    go_enter Try.func47, Try.ntmps47
    go_wp2_with (go_at_call 62; refine (isNaN_any _ _).mono ?_; rintro e w1 ⟨rfl, rfl⟩)
    go_ret
    exact ⟨rfl, rfl⟩
theorem ones64_any (n : M.St6) (w : World) : Calls Try.prog 64 #[.int .u64 (n.val : Int)] w fun e w' => e = .returned (.int .i64 (M.cnt n : Nat)) ∧ w = w' := by
  go_enter Try.func64, Try.ntmps64
  go_wp2_with fail
  go_ret
  refine ⟨congrArg (fun z => Ending.returned (Value.int .i64 z)) ?_, rfl⟩
  clear w
  revert n
  decide +kernel
theorem ones_any (n : M.St6) (w : World) : Calls Try.prog 48 #[.int .u64 (n.val : Int)] w fun e w' => e = .returned (.int .i64 (M.cnt n : Nat)) ∧ w = w' := by
  go_enter Try.func48, Try.ntmps48
  go_wp2_with fail
  refine (ones64_any _ _).mono ?_
  rintro e w1 ⟨rfl, rfl⟩
  go_wp2_with fail
  go_ret
  exact ⟨rfl, rfl⟩
theorem orI_any (x y : Int) (w : World) (hi lo : Nat) (a : Option Addr) (c : Nat) (h : RowIn lo hi w a (M.encIs [x, y])) : Calls Try.prog 46 #[.slice a 2 c] w fun e w' => e = .returned (.int .i64 (if x = 0 then y else x)) ∧ w = w' := by
  obtain ⟨b, off, rfl, _, _, hc⟩ := h.at_ (k := 0) (by simp [M.encIs])
  have c0 := hc 0 _ rfl
  have c1 := hc 1 _ rfl
  rw [Nat.add_zero] at c0
  clear hc h
  by_cases hx : x = 0
  · subst hx
    by_cases hy : y = 0
    · subst hy
      go_enter Try.func46, Try.ntmps46
      go_wp2_with fail
      go_loop [8] (fun i => ∃ (k : Nat), k ≤ 2 ∧ i = .int .i64 k) (fun i => 2 - (intOf i).toNat)
      case atStart => exact ⟨0, by omega, rfl⟩
      case round =>
        obtain ⟨k, hk, rfl⟩ := hrel
        match k, hk with
        | 0, _ =>
          go_wp2_with fail
          go_round
          case rel => exact ⟨1, by omega, rfl⟩
          case measure => simp [intOf]
        | 1, _ =>
          go_wp2_with fail
          go_round
          case rel => exact ⟨2, by omega, rfl⟩
          case measure => simp [intOf]
        | 2, _ =>
          go_wp2_with fail
          go_ret
          exact ⟨by simp, rfl⟩
    · have hyb : (y == 0) = false := by rw [beq_eq_false_iff_ne]; exact hy
      go_enter Try.func46, Try.ntmps46
      go_wp2_with fail
      go_loop [8] (fun i => ∃ (k : Nat), k < 2 ∧ i = .int .i64 k) (fun i => 2 - (intOf i).toNat)
      case atStart => exact ⟨0, by omega, rfl⟩
      case round =>
        obtain ⟨k, hk, rfl⟩ := hrel
        match k, hk with
        | 0, _ =>
          go_wp2_with fail
          go_round
          case rel => exact ⟨1, by omega, rfl⟩
          case measure => simp [intOf]
        | 1, _ =>
          go_wp2_with fail
          go_ret
          exact ⟨by simp, rfl⟩
  · have hxb : (x == 0) = false := by rw [beq_eq_false_iff_ne]; exact hx
    go_enter Try.func46, Try.ntmps46
    go_wp2_with fail
    go_loop [8] (fun i => i = .int .i64 0) (fun i => 2 - (intOf i).toNat)
    case atStart => rfl
    case round =>
      subst hrel
      go_wp2_with fail
      go_ret
      exact ⟨by simp, rfl⟩
theorem compareSets_any (a b : M.St6) (w : World) : Calls Try.prog 30 #[.int .i64 (a.val : Int), .int .i64 (b.val : Int)] w fun e w' => e = .returned (.int .i64 (M.cmpS a b)) ∧ ∃ q os, w' = Sort.grow (w.drewN q) os := by
  have ha := a.isLt
  have hb := b.isLt
  have O1 := Lib.hid (fun W => ones_any a W)
  have O2 := Lib.hid (fun W => ones_any b W)
  have C1 := Lib.hid (fun W => compareI_any (M.cnt a : Int) (M.cnt b : Int) W)
  have C2 := Lib.hid (fun W => compareI_any (a.val : Int) (b.val : Int) W)
  have hS : Hid (M.cmpS a b = if M.cmpI (M.cnt a : Int) (M.cnt b : Int) = 0 then M.cmpI (a.val : Int) (b.val : Int) else M.cmpI (M.cnt a : Int) (M.cnt b : Int)) := Lib.hid rfl
  generalize M.cmpS a b = r at *
  generalize M.cmpI (M.cnt a : Int) (M.cnt b : Int) = x at *
  generalize M.cmpI (a.val : Int) (b.val : Int) = y at *
  generalize M.cnt a = na at *
  generalize M.cnt b = nb at *
  generalize a.val = av at *
  generalize b.val = bv at *
  go_enter Try.func30, Try.ntmps30
  go_wp2_with fail
  refine (O1.out _).mono ?_
  rintro e w1 ⟨rfl, rfl⟩
  go_wp2_with fail
  refine (O2.out _).mono ?_
  rintro e w1 ⟨rfl, rfl⟩
  go_wp2_with fail
  refine (C1.out _).mono ?_
  rintro e w1 ⟨rfl, rfl⟩
  go_wp2_with fail
  refine (C2.out _).mono ?_
  rintro e w1 ⟨rfl, rfl⟩
  go_wp2_with fail
  refine named ?_
  intro W hW
  have hr : RowIn w.heap.size (w.heap.size + 1) W (some ⟨w.heap.size, 0, none⟩) (M.encIs [x, y]) := by
    rw [hW]
    refine .inr ⟨_, 0, rfl, Nat.le_refl _, Nat.lt_succ_self _, fun i u hu => ?_⟩
    rw [Nat.zero_add]
    exact cell_of_row _ _ _ _ _ _ (heap_alloc_new w _) |>.trans (by simpa [M.encIs] using hu)
  refine (orI_any x y W _ _ _ _ hr).mono ?_
  rintro e w1 ⟨rfl, rfl⟩
  rw [← hS.out]
  go_wp2_with fail
  go_ret
  exact ⟨rfl, 0, #[.cells #[.int .i64 x, .int .i64 y] 3], by
    show _ = Sort.grow (w.drewN 0) _
    unfold Sort.grow
    rw [Array.append_singleton]
    rfl⟩
end C
end Go.Proofs.Ytkkfmleoamhgkaa
