/-
  CONTRACTS of the two checksums: spec.l1Sum, spec.Checksum and impl.Checksum return the fold M.csum of the bytes (of at most 4000 bytes, else 0 and false), for every string that fits in memory; the world is as it was. No further condition.
-/
import Derived.Test.YtlbnofkjjjbfnaaDoorRows
import Derived.Test.YtlbnofkjjjbfnaaDoorMath
import Derived.WalkKit
import Derived.WalkSpells
import Derived.WalkLawsBesides
import Derived.Lib.Hide
namespace Go.Proofs.YtlbnofkjjjbfnaaDoor
open Go.RowKit
namespace C

theorem ret_int {k : IntKind} {a b : Int} (h : a = b) : Ending.returned (.int k a) = .returned (.int k b) := by rw [h]

set_option maxHeartbeats 400000 in
theorem l1Sum_any (s : ByteArray) (w : World) (hs : s.size ≤ maxLen) :
    Calls Tryd.prog 42 #[.string s] w fun e w' => e = .returned (.int .i64 (M.csum s.data.toList)) ∧ w = w' := by
  unfold maxLen at hs
  go_enter Tryd.func42, Tryd.ntmps42
  go_wp2
  go_loop [3, 4] (fun h i => ∃ k : Nat, k ≤ s.size ∧ i = .int .i64 k ∧ h = .int .i64 (M.csum (s.data.toList.take k))) (fun _ i => s.size - (intOf i).toNat)
  case atStart => exact ⟨0, Nat.zero_le _, rfl, rfl⟩
  case round =>
    obtain ⟨k, hk, rfl, rfl⟩ := hrel
    have hd := M.csum_bd (s.data.toList.take k)
    by_cases hlt : k < s.size
    · have hb : 0 ≤ (s[k].toNat : Int) ∧ (s[k].toNat : Int) ≤ 255 := ⟨by omega, by have := UInt8.toNat_lt s[k]; omega⟩
      have HS : Hid (M.csum (s.data.toList.take (k + 1)) = (41 * M.csum (s.data.toList.take k) + (s[k].toNat : Int) + 1) % 999979) := by
        rw [M.take_snoc s k hlt, M.csum_snoc]; exact rfl
      go_wp2
      go_round
      case rel => exact ⟨k + 1, by omega, by go_num, by rw [HS.out]⟩
      case measure => simp [intOf]; omega
    · go_wp2
      go_ret
      exact ⟨ret_int (by rw [List.take_of_length_le (by simp; omega)]), rfl⟩

set_option maxHeartbeats 400000 in
theorem implSum_ok (s : ByteArray) (w : World) (hs : s.size ≤ 4000) :
    Calls Tryd.prog 31 #[.string s] w fun e w' => e = .returned (.tuple #[.int .i64 (M.csum s.data.toList), .bool true]) ∧ w = w' := by
  have hs' : ¬ (4000 < (s.size : Int)) := by omega
  go_enter Tryd.func31, Tryd.ntmps31
  go_wp2
  go_loop [4, 11] (fun h i => ∃ k : Nat, k ≤ s.size ∧ i = .int .i64 k ∧ h = .int .i64 (M.csum (s.data.toList.take k))) (fun _ i => s.size - (intOf i).toNat)
  case atStart => exact ⟨0, Nat.zero_le _, rfl, rfl⟩
  case round =>
    obtain ⟨k, hk, rfl, rfl⟩ := hrel
    have hd := M.csum_bd (s.data.toList.take k)
    by_cases hlt : k < s.size
    · have hb : 0 ≤ (s[k].toNat : Int) ∧ (s[k].toNat : Int) ≤ 255 := ⟨by omega, by have := UInt8.toNat_lt s[k]; omega⟩
      have HS : Hid (M.csum (s.data.toList.take (k + 1)) = (41 * M.csum (s.data.toList.take k) + (s[k].toNat : Int) + 1) % 999979) := by
        rw [M.take_snoc s k hlt, M.csum_snoc]; exact rfl
      go_wp2
      go_round
      case rel => exact ⟨k + 1, by omega, by go_num, by rw [HS.out]⟩
      case measure => simp [intOf]; omega
    · go_wp2
      go_ret2
      exact ⟨by rw [List.take_of_length_le (by simp; omega)]; rfl, rfl⟩

set_option maxHeartbeats 400000 in
theorem implSum_no (s : ByteArray) (w : World) (hs : 4000 < s.size) :
    Calls Tryd.prog 31 #[.string s] w fun e w' => e = .returned (.tuple #[.int .i64 0, .bool false]) ∧ w = w' := by
  have hs' : 4000 < (s.size : Int) := by omega
  go_enter Tryd.func31, Tryd.ntmps31
  go_wp2
  go_ret2
  exact ⟨rfl, rfl⟩


end C
end Go.Proofs.YtlbnofkjjjbfnaaDoor
