/-
  CONTRACT of spec.l1Has: whether a number is in a list; memory stays. Condition: the list reads so.
-/
import Derived.Test.YtdgfceiobpnchaaInts
import Derived.Test.YtdgfceiobpnchaaMem
namespace Go.Proofs.Ytdgfceiobpnchaa
open Go.RowKit
namespace M
def memB (l : List Int) (n : Int) : Bool := l.contains n
theorem memB_true {l : List Int} {n : Int} (h : memB l n = true) : n ∈ l := by unfold memB at h; exact List.contains_iff_mem.1 h
theorem memB_false {l : List Int} {n : Int} (h : memB l n = false) : n ∉ l := fun hm => by
  have : memB l n = true := by unfold memB; exact List.contains_iff_mem.2 hm
  rw [h] at this; cases this
end M
namespace C
set_option maxHeartbeats 3200000
set_option maxRecDepth 20000
theorem l1Has_any (w : World) (lo hi : Nat) (a : Option Addr) (c : Nat) (l : List Int) (n : Int) (h : RowIn lo hi w a (M.encIs l)) (hl : l.length ≤ 1048576) :
    Calls Try.prog 75 #[.slice a l.length c, .int .i64 n] w fun e w' => e = .returned (.bool (M.memB l n)) ∧ w = w' := by
  have H := Lib.hid h
  clear h
  go_enter Try.func75, Try.ntmps75
  go_wp2_with fail
  go_loop [5] (fun i => ∃ (k : Nat), k ≤ l.length ∧ i = .int .i64 k ∧ (∀ j (hj : j < l.length), j < k → l[j] ≠ n)) (fun i => l.length - (intOf i).toNat)
  case atStart => exact ⟨0, Nat.zero_le _, rfl, fun j _ h => by omega⟩
  case round =>
    obtain ⟨k, hk, rfl, hall⟩ := hrel
    have HA := Lib.hid hall
    clear hall
    by_cases hlt : k < l.length
    · obtain ⟨b, off, rfl, _, _, hc0⟩ := H.out.at_ (k := k) (by rw [M.encIs_len]; exact hlt)
      have p0 := hc0 _ _ (M.encIs_at hlt)
      clear hc0
      rcases Decidable.em (l[k] = n) with hlk | hlk
      · have HF : Hid (M.memB l n = true) := Lib.hid (by unfold M.memB; rw [List.contains_iff_mem, ← hlk]; exact List.getElem_mem hlt)
        have hb : (l[k] == n) = true := by simpa using hlk
        clear hlk
        go_wp2_with fail
        go_ret
        exact ⟨by rw [HF.out]; rfl, rfl⟩
      · have HK := Lib.hid hlk
        have hb : (l[k] == n) = false := by simpa using hlk
        clear hlk
        go_wp2_with fail
        go_round
        case rel => exact ⟨k + 1, by omega, by go_num, fun j hj hjk => by
          rcases Nat.lt_or_ge j k with h | h
          · exact HA.out j hj h
          · obtain rfl : j = k := by omega
            exact HK.out⟩
        case measure => simp [intOf]; omega
    · have HF : Hid (M.memB l n = false) := Lib.hid (by
        unfold M.memB
        rw [Bool.eq_false_iff, ne_eq, List.contains_iff_mem]
        intro hm
        obtain ⟨j, hj, he⟩ := List.mem_iff_getElem.1 hm
        exact HA.out j hj (by omega) he)
      go_wp2_with fail
      go_ret
      exact ⟨by rw [HF.out]; rfl, rfl⟩
end C
end Go.Proofs.Ytdgfceiobpnchaa
