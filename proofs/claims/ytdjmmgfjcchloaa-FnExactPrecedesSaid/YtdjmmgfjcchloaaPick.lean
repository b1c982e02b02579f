/-
  CONTRACTS of slices.Min and slices.Max at ints: the least and the greatest of a list that ascends; memory stays. Condition: the list reads so, ascends, is not empty.
-/
import Derived.Test.YtdjmmgfjcchloaaOpen
import Derived.Test.YtdjmmgfjcchloaaPutMath
namespace Go.Proofs.Ytdjmmgfjcchloaa
open Go.RowKit
namespace M
def pickMin (l : List Int) : Int := l.headD 0
def pickMax (l : List Int) : Int := l.getLastD 0
def pickOf (last : Bool) : List Int → Int := if last then pickMax else pickMin
theorem pickMin_in : ∀ l : List Int, l ≠ [] → pickMin l ∈ l
  | [], h => absurd rfl h
  | _ :: _, _ => List.mem_cons_self ..
theorem pickMax_in (l : List Int) (h : l ≠ []) : pickMax l ∈ l := by
  unfold pickMax
  rw [List.getLastD_eq_getLast?, List.getLast?_eq_some_getLast h]
  exact List.getLast_mem h
theorem pickMin_at {l : List Int} (h : 0 < l.length) : pickMin l = l[0] := by
  cases l with
  | nil => simp at h
  | cons x l => rfl
theorem pickMax_at {l : List Int} (h : 0 < l.length) : pickMax l = l[l.length - 1] := by
  unfold pickMax
  rw [List.getLastD_eq_getLast?, List.getLast?_eq_getElem?, List.getElem?_eq_getElem (by omega)]
  rfl
theorem asc_lt {l : List Int} (h : Asc ltI l) {i j : Nat} (hij : i < j) (hj : j < l.length) : l[i] < l[j] := by
  have := List.pairwise_iff_getElem.1 h i j (by omega) hj hij
  unfold ltI at this
  rwa [decide_eq_true_iff] at this
end M
namespace C
set_option maxHeartbeats 1600000
set_option maxRecDepth 20000
theorem sliceMin_any (w : World) (lo hi : Nat) (a : Option Addr) (c : Nat) (l : List Int) (h : RowIn lo hi w a (M.encIs l)) (hne : 0 < l.length) (hl : l.length ≤ 1000) (hasc : M.Asc M.ltI l) :
    Calls Try.prog 63 #[.slice a l.length c] w fun e w' => e = .returned (.int .i64 (M.pickMin l)) ∧ w = w' := by
  obtain ⟨b, off, rfl, _, _, hc0⟩ := h.at_ (k := 0) (by rw [M.encIs_len]; exact hne)
  have HC := Lib.hid (show ∀ k (hk : k < l.length), w.cell? ⟨b, off + k, none⟩ = some (.int .i64 l[k]) from fun k hk => hc0 _ _ (M.encIs_at hk))
  have a0 : w.cell? ⟨b, off, none⟩ = some (.int .i64 (M.pickMin l)) := by rw [M.pickMin_at hne]; simpa using HC.out 0 hne
  have HA := Lib.hid (show ∀ k (hk : k < l.length), 0 < k → M.pickMin l ≤ l[k] from fun k hk h0 => by rw [M.pickMin_at hne]; have := M.asc_lt hasc h0 hk; omega)
  have hg : ¬ (l.length : Int) < 1 := by omega
  have hlt : (0 : Int) < (l.length : Int) := by omega
  clear hc0 h hasc
  generalize M.pickMin l = v at *
  go_enter Try.func63, Try.ntmps63
  go_wp2_with fail
  go_loop [3, 4] (fun u i => ∃ (k : Nat), 1 ≤ k ∧ k ≤ l.length ∧ i = .int .i64 k ∧ u = .int .i64 v) (fun _ i => l.length - (intOf i).toNat)
  case atStart => exact ⟨1, Nat.le_refl _, by omega, rfl, rfl⟩
  case round =>
    obtain ⟨k, hk1, hk, rfl, rfl⟩ := hrel
    by_cases hkl : k < l.length
    · have ak := HC.out k hkl
      have hmin := HA.out k hkl hk1
      have hki : (k : Int) < (l.length : Int) := by omega
      generalize l[k] = u at *
      have hmn : ¬ u < v := by omega
      go_wp2_with fail
      go_round
      case rel => exact ⟨k + 1, by omega, by omega, by go_num, by first | rfl | rw [if_neg hmn]⟩
      case measure => simp [intOf]; omega
    · obtain rfl : k = l.length := by omega
      go_wp2_with fail
      go_ret
      exact ⟨rfl, rfl⟩
theorem sliceMax_any (w : World) (lo hi : Nat) (a : Option Addr) (c : Nat) (l : List Int) (h : RowIn lo hi w a (M.encIs l)) (hne : 0 < l.length) (hl : l.length ≤ 1000) (hasc : M.Asc M.ltI l) :
    Calls Try.prog 65 #[.slice a l.length c] w fun e w' => e = .returned (.int .i64 (M.pickMax l)) ∧ w = w' := by
  obtain ⟨b, off, rfl, _, _, hc0⟩ := h.at_ (k := 0) (by rw [M.encIs_len]; exact hne)
  have HC := Lib.hid (show ∀ k (hk : k < l.length), w.cell? ⟨b, off + k, none⟩ = some (.int .i64 l[k]) from fun k hk => hc0 _ _ (M.encIs_at hk))
  have a0 : w.cell? ⟨b, off, none⟩ = some (.int .i64 l[0]) := by simpa using HC.out 0 hne
  have HA := Lib.hid (show ∀ k (hk : k < l.length), 0 < k → l[k - 1] < l[k] from fun k hk h0 => M.asc_lt hasc (i := k - 1) (j := k) (by omega) hk)
  have HP := Lib.hid (M.pickMax_at hne)
  have hg : ¬ (l.length : Int) < 1 := by omega
  have hlt : (0 : Int) < (l.length : Int) := by omega
  clear hc0 h hasc
  go_enter Try.func65, Try.ntmps65
  go_wp2_with fail
  go_loop [3, 4] (fun u i => ∃ (k : Nat), ∃ h : 1 ≤ k ∧ k ≤ l.length, i = .int .i64 k ∧ u = .int .i64 (l[k - 1]'(by omega))) (fun _ i => l.length - (intOf i).toNat)
  case atStart => exact ⟨1, ⟨Nat.le_refl _, by omega⟩, rfl, rfl⟩
  case round =>
    obtain ⟨k, ⟨hk1, hk⟩, rfl, rfl⟩ := hrel
    by_cases hkl : k < l.length
    · have ak := HC.out k hkl
      have hmax := HA.out k hkl hk1
      have hki : (k : Int) < (l.length : Int) := by omega
      go_wp2_with fail
      go_round
      case rel => exact ⟨k + 1, ⟨by omega, by omega⟩, by go_num, by first | rfl | (rw [if_pos hmax]; rfl)⟩
      case measure => simp [intOf]; omega
    · obtain rfl : k = l.length := by omega
      have hp := HP.out
      rw [← hp]
      go_wp2_with fail
      go_ret
      exact ⟨rfl, rfl⟩
end C
end Go.Proofs.Ytdjmmgfjcchloaa
