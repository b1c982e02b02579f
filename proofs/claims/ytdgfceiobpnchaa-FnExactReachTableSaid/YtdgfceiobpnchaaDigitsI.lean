/-
  CONTRACT of impl.digitsOf: the places of the binary digits 1, in a new list, ascending; what lay in memory stays. Condition: a number below 4096 (64 for colours).
-/
import Derived.Test.YtdgfceiobpnchaaSets
namespace Go.Proofs.Ytdgfceiobpnchaa
open Go.RowKit
namespace M
theorem wraps_i64 (n : Int) (h0 : 0 ≤ n) (h1 : n < 2 ^ 62) : IntKind.i64.wrap n = n := by rw [IntKind.wrap_i64]; omega
theorem and1 (n : Nat) (h : n < 4096) : bits .and .i64 (n : Int) 1 = ((n % 2 : Nat) : Int) := by
  have := (bits_nat .i64 62 (by decide) wraps_i64 n 1 (by omega) (by decide)).1
  rw [Nat.and_one_is_mod] at this
  exact this
theorem shr_nat (n p : Nat) : (n : Int) / 2 ^ p = ((n / 2 ^ p : Nat) : Int) := by simp
theorem bit_test {n p : Nat} (h : n < 4096) : (bits .and .i64 ((n : Int) / 2 ^ p) 1 == 1) = digB n p := by
  rw [shr_nat, and1 _ (Nat.lt_of_le_of_lt (Nat.div_le_self _ _) h)]
  unfold digB
  rw [Bool.eq_iff_iff]
  simp only [beq_iff_eq, decide_eq_true_eq]
  exact ⟨fun h => by exact_mod_cast h, fun h => by exact_mod_cast h⟩
def colours (s : Int) : List Int := if setB s then digsTo s.toNat 6 else []
end M
namespace C
set_option maxHeartbeats 800000
set_option maxRecDepth 20000
theorem digits_any (n : Nat) (hn : n < 4096) (w : World) : Calls Try.prog 129 #[.int .i64 (n : Int)] w (IntsPost w (M.digsTo n 12)) := by
  obtain ⟨i0, hi0, hz0, hz1, hz2⟩ := info_parts infoI
  have h12 : Hid (n / 2 ^ 12 = 0) := Lib.hid (Nat.div_eq_of_lt hn)
  go_enter Try.func129, Try.ntmps129
  go_wp2_with fail
  go_loopw [3, 4] (fun v i wr => ∃ (k : Nat), k ≤ 12 ∧ i = .int .i64 k ∧ wr.ownsRow w.heap.size 3 1 v (M.digsTo n k).length (M.encIs (M.digsTo n k)) ∧ Below w.heap.size w wr) (fun _ i _ => 12 - (intOf i).toNat)
  case atStart => exact ⟨0, Nat.zero_le _, rfl, ownsRow_empty _ _ _ _ (Nat.le_refl _), below_alloc _ _⟩
  case round =>
    obtain ⟨k, hk, rfl, hown, hnx⟩ := hrel
    have HN := Lib.hid hnx
    have HO := Lib.hid hown
    have hzr := hnx.size
    have hlen := M.digsTo_len n k
    clear hnx
    have hsh := M.shr_nat n k
    by_cases hp : 0 < n / 2 ^ k
    · have hk12 : k < 12 := by
        rcases Nat.lt_or_ge k 12 with h | h
        · exact h
        · have : k = 12 := by omega
          subst this
          rw [h12.out] at hp
          omega
      have hpt : 0 < (n : Int) / 2 ^ k := by rw [hsh]; exact_mod_cast hp
      have hbt := M.bit_test (p := k) hn
      clear hsh hp
      cases hd : M.digB n k with
      | true =>
        rw [hd] at hbt
        have HD := Lib.hid (M.digsTo_yes hd)
        clear hd
        go_wp2_with (at_builtin; refine wpList_append_own _ rfl _ _ 23 rfl w.heap.size 3 i0 (.int .i64 0) 1 8 Try.underlying23 hi0 hz0 hz1 hz2 rfl (by decide) _ _ _ rfl (hown.alloc _) ⟨wr.heap.size, 0, none⟩ 1 1 [.int .i64 (k : Int)] rfl rfl (cell_one_new _ _ _) (fun x hx => by simp at hx; subst hx; rfl) (by unfold maxLen; omega) (by omega) (by simp; omega) ?_; intro v' w3 hown' hgrow3 hnil3)
        go_roundw
        case rel =>
          refine ⟨k + 1, by omega, by go_num, ?_, (HN.out.alloc hzr _).grown hgrow3 (by simp; omega) (own_base hown)⟩
          rw [HD.out]
          simpa [M.encIs] using hown'
        case measure => simp [intOf]; omega
      | false =>
        rw [hd] at hbt
        have HD := Lib.hid (M.digsTo_no hd)
        clear hd hown
        go_wp2_with fail
        go_roundw
        case rel => exact ⟨k + 1, by omega, by go_num, by rw [HD.out]; exact HO.out, HN.out⟩
        case measure => simp [intOf]; omega
    · have hz : n / 2 ^ k = 0 := Nat.eq_zero_of_not_pos hp
      have hpt : ¬ 0 < (n : Int) / 2 ^ k := by rw [hsh, hz]; simp
      have HE : Hid (M.digsTo n 12 = M.digsTo n k) := Lib.hid (M.digsTo_eq hz hk)
      clear hsh hz hp hown
      go_wp2_with fail
      go_ret
      exact ints_end (by rw [HE.out]; exact HO.out) HN.out
end C
end Go.Proofs.Ytdgfceiobpnchaa
