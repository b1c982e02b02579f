/-
  CONTRACTS of impl.isRenumbering and spec.l2Order: whether a list has each of the numbers below a size once; what lay in memory stays. Condition: a size from 1 to 1000, at most 1048576 numbers.
-/
import Derived.Test.YtmccpjdgnenmeaaSortI
import Derived.Test.YtmccpjdgnenmeaaClone
import Derived.Test.YtmccpjdgnenmeaaPutI
import Derived.OwnWalk
namespace Go.Proofs.Ytmccpjdgnenmeaa
open Go.RowKit
namespace C
set_option maxHeartbeats 3200000
set_option maxRecDepth 20000
theorem l2Order_any (w : World) (lo hi : Nat) (a : Option Addr) (c : Nat) (l : List Int) (n : Nat) (h : RowIn lo hi w a (M.encIs l)) (hl : l.length ≤ 1048576) (hn : n ≤ 1000) :
    Calls Try.prog 71 #[.slice a l.length c, .int .i64 n] w fun e w' => e = .returned (.bool (M.orderB l n)) ∧ w = w' := by
  have H := Lib.hid h
  clear h
  go_enter Try.func71, Try.ntmps71
  go_wp2_with fail
  go_loop [5] (fun i => ∃ (k : Nat), k ≤ n ∧ i = .int .i64 k ∧ (∀ j : Nat, j < k → (j : Int) ∈ l)) (fun i => n - (intOf i).toNat)
  case atStart => exact ⟨0, Nat.zero_le _, rfl, fun j h => by omega⟩
  case round =>
    obtain ⟨k, hk, rfl, hall⟩ := hrel
    have HA := Lib.hid hall
    clear hall
    by_cases hlt : k < n
    · have hltI : (k : Int) < (n : Int) := by omega
      go_wp2_with fail
      refine (l1Has_any w lo hi a c l k H.out hl).mono ?_
      rintro e w2 ⟨rfl, rfl⟩
      cases q : M.memB l k with
      | false =>
        have HF : Hid (M.orderB l n = false) := Lib.hid (M.order_miss hlt (M.memB_false q))
        clear q
        go_wp2_with fail
        go_ret
        exact ⟨by rw [HF.out]; rfl, rfl⟩
      | true =>
        have HK := Lib.hid (M.memB_true q)
        clear q
        go_wp2_with fail
        go_round
        case rel => exact ⟨k + 1, by omega, by go_num, fun j hjk => by
          rcases Nat.lt_or_ge j k with h | h
          · exact HA.out j h
          · obtain rfl : j = k := by omega
            exact HK.out⟩
        case measure => simp [intOf]; omega
    · obtain rfl : k = n := by omega
      have hnlt : ¬ (k : Int) < (k : Int) := by omega
      rcases Decidable.em (l.length = k) with hlk | hlk
      · have HF : Hid (M.orderB l k = true) := Lib.hid (M.order_all hlk HA.out)
        have hb : ((l.length : Int) == (k : Int)) = true := by rw [hlk]; simp
        clear hlk
        go_wp2_with fail
        go_ret
        exact ⟨by rw [HF.out]; rfl, rfl⟩
      · have HF : Hid (M.orderB l k = false) := Lib.hid (M.order_short hlk)
        have hb : ((l.length : Int) == (k : Int)) = false := by rw [beq_eq_false_iff_ne]; omega
        clear hlk
        go_wp2_with fail
        go_ret
        exact ⟨by rw [HF.out]; rfl, rfl⟩
theorem isRen_any (w : World) (lo hi : Nat) (a : Option Addr) (c : Nat) (l : List Int) (n : Nat) (h : RowIn lo hi w a (M.encIs l)) (hz : hi ≤ w.heap.size) (hl : l.length ≤ 1048576) (hn1 : 1 ≤ n) (hn : n ≤ 1000) :
    Calls Try.prog 72 #[.slice a l.length c, .int .i64 n] w fun e w' => e = .returned (.bool (M.orderB l n)) ∧ Below w.heap.size w w' := by
  have H := Lib.hid h
  clear h
  go_enter Try.func72, Try.ntmps72
  rcases Decidable.em (l.length = n) with hlk | hlk
  · have hb : ((l.length : Int) == (n : Int)) = true := by rw [hlk]; simp
    have hbn : ¬ ((l.length : Int) ≠ (n : Int)) := by omega
    have HN := Lib.hid hlk
    have hl1 : 1 ≤ l.length := by omega
    clear hlk
    go_wp2_with fail
    refine (cloneInts_any w lo hi a c l H.out hz hl).mono ?_
    rintro e w1 ⟨ca, cc, rfl, ho, hc1, hc2, hb1⟩
    go_wp2_with fail
    have hne : l ≠ [] := List.length_pos_iff.1 (by omega)
    refine (sortInts_any w1 w.heap.size w1.heap.size ca cc l ho hne hl).mono ?_
    rintro e w2 ⟨rfl, hs, ht⟩
    have HB2 : Hid (Below w.heap.size w w2) := Lib.hid (Below.thenTurned hb1 ht (Nat.le_refl _) hb1.size)
    have HS := Lib.hid hs.row
    have hsl := M.srtI_len l
    clear ho hs ht hb1
    go_wp2_with fail
    go_loop [18] (fun i => ∃ (k : Nat), k ≤ l.length ∧ i = .int .i64 k ∧ (∀ j (hj : j < (M.srtI l).length), j < k → (M.srtI l)[j] = (j : Int))) (fun i => l.length - (intOf i).toNat)
    case atStart => exact ⟨0, Nat.zero_le _, rfl, fun j _ h => by omega⟩
    case round =>
      obtain ⟨k, hk, rfl, hall⟩ := hrel
      have HA := Lib.hid hall
      clear hall
      by_cases hlt : k < l.length
      · have hltI : (k : Int) < (l.length : Int) := by omega
        have hks : k < (M.srtI l).length := by omega
        obtain ⟨b, off, rfl, _, _, hc0⟩ := HS.out.at_ (k := k) (by rw [M.encIs_len]; exact hks)
        have p0 := hc0 _ _ (M.encIs_at hks)
        clear hc0
        obtain ⟨v, hv⟩ : ∃ v, (M.srtI l)[k] = v := ⟨_, rfl⟩
        rw [hv] at p0
        rcases Decidable.em (v = (k : Int)) with hvk | hvk
        · have HK : Hid ((M.srtI l)[k] = (k : Int)) := Lib.hid (hv.trans hvk)
          subst hvk
          clear hv
          go_wp2_with fail
          go_round
          case rel => exact ⟨k + 1, by omega, by go_num, fun j hj hjk => by
            rcases Nat.lt_or_ge j k with h | h
            · exact HA.out j hj h
            · obtain rfl : j = k := by omega
              exact HK.out⟩
          case measure => simp [intOf]; omega
        · have HF : Hid (M.orderB l n = false) := Lib.hid (M.order_no hks (by rw [hv]; exact hvk))
          have hvb : (v == (k : Int)) = false := by rw [beq_eq_false_iff_ne]; exact hvk
          clear hv hvk
          go_wp2_with fail
          go_ret
          exact ⟨by rw [HF.out]; rfl, HB2.out⟩
      · obtain rfl : k = l.length := by omega
        have hnlt : ¬ (l.length : Int) < (l.length : Int) := by omega
        have HF : Hid (M.orderB l n = true) := Lib.hid (by rw [← HN.out]; exact M.order_yes (fun j hj => HA.out j hj (by omega)))
        go_wp2_with fail
        go_ret
        exact ⟨by rw [HF.out]; rfl, HB2.out⟩
  · have hb : ((l.length : Int) == (n : Int)) = false := by rw [beq_eq_false_iff_ne]; omega
    have HF : Hid (M.orderB l n = false) := Lib.hid (M.order_short hlk)
    clear hlk
    go_wp2_with fail
    go_ret
    exact ⟨by rw [HF.out]; rfl, Below.refl _ _⟩
end C
end Go.Proofs.Ytmccpjdgnenmeaa
