/-
  CONTRACT of spec.l1Num: for every int n with -999999 .. 999999 (and more) it returns the decimal numeral Lib.itoa n; the world is as it was but for draws. No further condition.
-/
import Derived.Test.YtlbnofkjjjbfnaaDoorRows
import Derived.Test.YtlbnofkjjjbfnaaDoorMath
import Derived.WalkKit
import Derived.WalkSpells
import Derived.WalkLawsBesides
import Derived.Lib.Hide
import Derived.BigQuiet
import Derived.Deep.QuietTactic
import Derived.Lib.ItoaNum
import Derived.Lib.ItoaLen
namespace Go.Proofs.YtlbnofkjjjbfnaaDoor
open Go.RowKit
namespace C

def decB (x : Int) : ByteArray := ⟨(Lib.itoa x).toArray⟩
def digs : ByteArray := { data := #[48, 49, 50, 51, 52, 53, 54, 55, 56, 57] }

theorem digs_at : ∀ i : Fin 10, digs.extract i.val (i.val + 1) = ⟨#[UInt8.ofNat (48 + i.val)]⟩ := by decide +kernel
theorem digs_at' (i : Nat) (h : i < 10) : digs.extract i (i + 1) = ⟨#[UInt8.ofNat (48 + i)]⟩ := digs_at ⟨i, h⟩

theorem decB_small (x : Int) (h0 : 0 ≤ x) (h : x < 10) : (digs.extract x.toNat (x + 1).toNat) = decB x := by
  rw [show (x + 1).toNat = x.toNat + 1 by omega, digs_at' x.toNat (by omega)]
  unfold decB Lib.itoa
  rw [if_neg (by omega), Lib.decDigits, dif_pos (by omega)]
theorem decB_big (x : Int) (h0 : 10 ≤ x) : decB (x / 10) ++ (digs.extract (x % 10).toNat (x % 10 + 1).toNat) = decB x := by
  rw [show (x % 10 + 1).toNat = (x % 10).toNat + 1 by omega, digs_at' (x % 10).toNat (by omega)]
  have e1 : (x / 10).toNat = x.toNat / 10 := by omega
  have e2 : (x % 10).toNat = x.toNat % 10 := by omega
  have e : Lib.itoa x = Lib.itoa (x / 10) ++ [UInt8.ofNat (48 + (x % 10).toNat)] := by
    unfold Lib.itoa
    rw [if_neg (by omega), if_neg (by omega), e1, e2]
    rw [Lib.decDigits, dif_neg (by omega)]
  unfold decB
  rw [e]
  apply ByteArray.ext
  simp
theorem decB_neg (x : Int) (h : x < 0) : (⟨#[45]⟩ : ByteArray) ++ decB (-x) = decB x := by
  have e : Lib.itoa x = [45] ++ Lib.itoa (-x) := by
    unfold Lib.itoa
    rw [if_pos h, if_neg (by omega), show x.natAbs = (-x).toNat by omega]
    rfl
  unfold decB
  rw [e]
  apply ByteArray.ext
  simp

theorem decB_size (x : Int) (h0 : -9223372036854775808 ≤ x) (h1 : x ≤ 9223372036854775807) : (decB x).size ≤ 21 := by
  have := Lib.itoa_length_le x h0 h1
  unfold decB
  simpa [ByteArray.size] using this

set_option maxHeartbeats 400000 in
theorem l1Num_nat (f : Nat) : ∀ (x : Int) (w : World), 0 ≤ x → x ≤ f → x ≤ 4611686018427387904 →
    Calls Tryd.prog 25 #[.int .i64 x] w fun e w' => e = .returned (.string (decB x)) ∧ ∃ k, w' = w.drewN k := by
  induction f with
  | zero =>
    intro x w h0 hf hn
    obtain rfl : x = 0 := by omega
    go_enter Tryd.func25, Tryd.ntmps25
    go_wp2_with fail
    go_ret
    exact ⟨by rw [← decB_small 0 (by omega) (by omega)]; rfl, 0, rfl⟩
  | succ f ih =>
    intro x w h0 hf hn
    by_cases h10 : x < 10
    · go_enter Tryd.func25, Tryd.ntmps25
      go_wp2_with fail
      go_ret
      exact ⟨by rw [← decB_small x (by omega) (by omega)]; rfl, 0, rfl⟩
    · have hr0 : 0 ≤ x % 10 := by omega
      have hr9 : x % 10 ≤ 9 := by omega
      have hsz := decB_size (x / 10) (by omega) (by omega)
      have ih' := fun W => ih (x / 10) W (by omega) (by omega) (by omega)
      go_enter Tryd.func25, Tryd.ntmps25
      go_wp2_with fail
      go_quiet ((go_at_call 25; exact Calls.quiet_of (ih' _)))
      go_wp2_with fail
      go_ret
      exact ⟨by rw [← decB_big x (by omega)]; rfl, _, rfl⟩

set_option maxHeartbeats 400000 in
theorem l1Num_any (x : Int) (w : World) (h0 : -4611686018427387904 ≤ x) (h1 : x ≤ 4611686018427387904) :
    Calls Tryd.prog 25 #[.int .i64 x] w fun e w' => e = .returned (.string (decB x)) ∧ ∃ k, w' = w.drewN k := by
  by_cases hn : x < 0
  · have c := fun W => l1Num_nat (-x).toNat (-x) W (by omega) (by omega) (by omega)
    have hsz := decB_size (-x) (by omega) (by omega)
    go_enter Tryd.func25, Tryd.ntmps25
    go_wp2_with fail
    refine (c _).mono ?_
    rintro e w' ⟨rfl, k, rfl⟩
    go_wp2_with fail
    go_ret
    exact ⟨by rw [← decB_neg x hn]; rfl, _, rfl⟩
  · exact l1Num_nat x.toNat x w (by omega) (by omega) h1

end C
end Go.Proofs.YtlbnofkjjjbfnaaDoor
