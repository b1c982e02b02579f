/-
  CONTRACT of the model's l2Many; memory stays as it is. Condition: a number from 0 to 63.
-/
import Derived.Test.YtdgfceiobpnchaaOnesW
namespace Go.Proofs.Ytdgfceiobpnchaa
open Go.RowKit
namespace M
/-- the colours counted, the first k of them -/
def manyTo (n : Nat) : Nat → Int
  | 0 => 0
  | k + 1 => manyTo n k + ((n / 2 ^ k % 2 : Nat) : Int)
theorem manyTo_fin : ∀ (n : Fin 64) (k : Fin 7), n.val / 2 ^ k.val = 0 → manyTo n.val k.val = many (n.val : Int) := by decide +kernel
theorem manyTo_end {n k : Nat} (hn : n < 64) (hk : k < 7) (h : n / 2 ^ k = 0) : manyTo n k = many (n : Int) := manyTo_fin ⟨n, hn⟩ ⟨k, hk⟩ h
theorem manyTo_le (n k : Nat) : 0 ≤ manyTo n k ∧ manyTo n k ≤ k := by
  induction k with
  | zero => exact ⟨Int.le_refl _, Int.le_refl _⟩
  | succ k ih =>
    unfold manyTo
    have : n / 2 ^ k % 2 < 2 := Nat.mod_lt _ (by decide)
    omega
theorem and1_fin : ∀ q : Fin 64, bits .and .i64 (q.val : Int) 1 = ((q.val % 2 : Nat) : Int) := by decide +kernel
theorem half6 {n : Nat} (h : n < 64) : n / 2 ^ 6 = 0 := by
  rw [show (2 : Nat) ^ 6 = 64 from rfl]
  omega
end M
namespace C
set_option maxHeartbeats 3200000
set_option maxRecDepth 20000
theorem l2Many_any (n : Nat) (w : World) (h : n < 64) : Calls Try.prog 124 #[.int .i64 (n : Int)] w fun e w' => e = .returned (.int .i64 (M.many (n : Int))) ∧ w = w' := by
  go_enter Try.func124, Try.ntmps124
  go_wp2_with fail
  go_loop [0, 3] (fun v0 v3 => ∃ (k : Nat), k < 7 ∧ v0 = .int .i64 ((n / 2 ^ k : Nat) : Int) ∧ v3 = .int .i64 (M.manyTo n k)) (fun v0 _ => (intOf v0).toNat)
  case atStart => exact ⟨0, by omega, by simp, rfl⟩
  case round =>
    obtain ⟨k, hk, rfl, rfl⟩ := hrel
    obtain ⟨q1, q2⟩ := M.manyTo_le n k
    have HQ := Lib.hid (show n / 2 ^ (k + 1) = n / 2 ^ k / 2 by rw [Nat.pow_succ, Nat.div_div_eq_div_mul])
    have HS := Lib.hid (show M.manyTo n (k + 1) = M.manyTo n k + ((n / 2 ^ k % 2 : Nat) : Int) from rfl)
    have HE := Lib.hid (fun h0 : n / 2 ^ k = 0 => M.manyTo_end h hk h0)
    have H6 : Hid (0 < n / 2 ^ k → k < 6) := Lib.hid fun hp => by
      rcases Nat.lt_or_ge k 6 with h6 | h6
      · exact h6
      · obtain rfl : k = 6 := by omega
        rw [M.half6 h] at hp
        omega
    have hle : n / 2 ^ k < 64 := Nat.lt_of_le_of_lt (Nat.div_le_self _ _) h
    have HA := Lib.hid (M.and1_fin ⟨n / 2 ^ k, hle⟩)
    simp only at HA
    generalize n / 2 ^ k = q at *
    generalize M.manyTo n k = c at *
    by_cases hq : 0 < q
    · have hand := HA.out
      have hqi : (0 : Int) < (q : Int) := by omega
      go_wp2_with fail
      go_round
      case rel => exact ⟨k + 1, by have := H6.out hq; omega, by rw [HQ.out]; congr 1, by rw [HS.out]; congr 1⟩
      case measure => simp [intOf]; omega
    · have hz : q = 0 := by omega
      have HC := Lib.hid (HE.out hz)
      clear HE HA H6 HQ HS
      subst hz
      go_wp2_with fail
      go_ret
      exact ⟨by rw [← HC.out]; rfl, rfl⟩
end C
end Go.Proofs.Ytdgfceiobpnchaa
