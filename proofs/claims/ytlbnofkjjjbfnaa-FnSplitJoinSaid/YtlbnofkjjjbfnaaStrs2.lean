/-
  CONTRACTS of toStringS and eqStringS: a copy of the strings in a slice of the call's own; yes of two slices that read alike; what lay in memory stays. Condition: the slices read as lists of strings.
-/
import Derived.Test.YtlbnofkjjjbfnaaStrs
namespace Go.Proofs.Ytlbnofkjjjbfnaa
open Go.RowKit
namespace C

set_option maxHeartbeats 800000 in
theorem toS_any (w : World) (a : Option Addr) (cap : Nat) (ss : List ByteArray) (hl : ss.length ≤ 1048576) (h : StrsAt w.heap.size w a ss) :
    Calls Try.prog 22 #[.slice a ss.length cap] w fun e w' => e = .returned (.slice (some ⟨w.heap.size, 0, none⟩) ss.length ss.length) ∧
      w'.ownsRow w.heap.size 9 1 (.slice (some ⟨w.heap.size, 0, none⟩) ss.length ss.length) ss.length (ss.map Value.string) ∧ Below w.heap.size w w' := by
  obtain ⟨i0, hi, hz0, hz1, hz2⟩ := info_parts info9
  have h' := Lib.hid h
  clear h
  go_enter Try.func22, Try.ntmps22
  go_wp2_with (at_make; refine wpList_make_full _ rfl _ _ 26 rfl w.heap.size 9 i0 (.string ByteArray.empty) 1 Try.underlying26 hi hz0 hz1 .i64 .i64 _ _ ss.length rfl rfl rfl rfl (by rw [hz2]; omega) (by unfold maxLen; omega) (Nat.le_refl _) ?_; intro w1 hown1 hgrow1)
  have hb1 : Below w.heap.size w w1 := (Below.refl _ _).grown hgrow1 (Nat.le_refl _) (fun k e => by cases e)
  have hx1 : ∃ xs : List Value, w1.ownsRow w.heap.size 9 1 (.slice (some ⟨w.heap.size, 0, none⟩) ss.length ss.length) ss.length xs := ⟨_, hown1⟩
  have HB1 := Lib.hid hb1
  have HX1 := Lib.hid hx1
  clear hown1 hgrow1 hb1 hx1
  go_wp2_with fail
  go_loopw [4] (fun i wr => ∃ (k : Nat) (xs : List Value), k ≤ ss.length ∧ i = .int .i64 k ∧ xs.take k = (ss.take k).map Value.string ∧
      wr.ownsRow w.heap.size 9 1 (.slice (some ⟨w.heap.size, 0, none⟩) ss.length ss.length) ss.length xs ∧ Below w.heap.size w wr) (fun i _ => ss.length - (intOf i).toNat)
  case atStart =>
    obtain ⟨xs, hx⟩ := HX1.out
    exact ⟨0, xs, Nat.zero_le _, rfl, by simp, hx, HB1.out⟩
  case round =>
    obtain ⟨k, xs, hk, rfl, ht, hown, hnx⟩ := hrel
    have HT := Lib.hid ht
    have HO := Lib.hid hown
    have HN := Lib.hid hnx
    have hxl : xs.length = ss.length := by have := hown.1; omega
    clear ht hown hnx
    by_cases hlt : k < ss.length
    · obtain ⟨b, off, rfl, hb, hcell0⟩ := h'.out.at_ hlt
      have hcell : wr.cell? ⟨b, off + k, none⟩ = some (.string ss[k]) := (HN.out.cell (p := ⟨b, off + k, none⟩) hb).trans hcell0
      obtain ⟨u, hu⟩ : ∃ u, xs[k]? = some u := ⟨_, List.getElem?_eq_getElem (by omega)⟩
      have hdst : wr.cell? ⟨w.heap.size, k, none⟩ = some u := by
        rw [HO.out.cellAt k (by omega), hu]
      have hfr : wr.frozen? ⟨w.heap.size, k, none⟩ = false := HO.out.frozenAt k
      have HS := Lib.hid (HO.out.stored k (.string ss[k]))
      clear hcell0 hu
      have HX := Lib.hid hxl
      clear hxl
      go_wp2_with fail
      go_roundw
      case rel =>
        refine ⟨k + 1, xs.set k (.string ss[k]), by omega, by go_num, ?_, HS.out.1, HN.out.setCell (p := ⟨w.heap.size, k, none⟩) (Nat.le_refl _) _⟩
        have h1 : k < xs.length := by have := HX.out; omega
        rw [List.take_succ_eq_append_getElem (by simpa using h1), List.take_set_of_le (Nat.le_refl _), HT.out, M.takeB_snoc ss k hlt, List.map_append, List.getElem_set_self]
        rfl
      case measure => simp [intOf]; omega
    · have HA : Hid (xs = ss.map Value.string) := Lib.hid (by
        have := HT.out
        rwa [List.take_of_length_le (by omega), List.take_of_length_le (by omega)] at this)
      go_wp2_with fail
      go_ret
      exact ⟨rfl, by have := HO.out; rwa [HA.out] at this, HN.out⟩

set_option maxHeartbeats 800000 in
theorem eq_any (w : World) (B : Nat) (a b : Option Addr) (c1 c2 : Nat) (ss : List ByteArray) (hl : ss.length ≤ 1048576) (h1 : StrsAt B w a ss) (h2 : StrsAt B w b ss) :
    Calls Try.prog 18 #[.slice a ss.length c1, .slice b ss.length c2] w fun e w' => e = .returned (.bool true) ∧ ∃ m, w' = w.drewN m := by
  have h1' := Lib.hid h1
  have h2' := Lib.hid h2
  clear h1 h2
  go_enter Try.func18, Try.ntmps18
  go_wp2_with fail
  go_loopw [5] (fun i wr => ∃ (k m : Nat), k ≤ ss.length ∧ i = .int .i64 k ∧ wr = w.drewN m) (fun i _ => ss.length - (intOf i).toNat)
  case atStart => exact ⟨0, 0, Nat.zero_le _, rfl, rfl⟩
  case round =>
    obtain ⟨k, m, hk, rfl, rfl⟩ := hrel
    by_cases hlt : k < ss.length
    · obtain ⟨ab, ao, rfl, _, hca⟩ := h1'.out.at_ hlt
      obtain ⟨bb, bo, rfl, _, hcb⟩ := h2'.out.at_ hlt
      go_wp2_with fail
      go_quiet (fail)
      go_wp2_with fail
      go_roundw
      case rel => exact ⟨k + 1, _, by omega, by go_num, rfl⟩
      case measure => simp [intOf]; omega
    · go_wp2_with fail
      go_ret
      exact ⟨rfl, _, rfl⟩
end C
end Go.Proofs.Ytlbnofkjjjbfnaa
