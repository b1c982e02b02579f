/-
  MATHEMATICS of the keys at some nodes, own to these proofs: the set is the least that has the keys of each. No condition.
-/
import Derived.Test.YthgmkkkfhbjhoaaGainMath
namespace Go.Proofs.Ythgmkkkfhbjhoaa
open Go.RowKit
namespace M
theorem SubS.orL {s t u : Int} (hs : 0 ≤ s ∧ s < 64) (ht : 0 ≤ t ∧ t < 64) (hu : 0 ≤ u ∧ u < 64) (h1 : SubS s u) (h2 : SubS t u) : SubS (bits .or .i64 s t) u := by
  obtain ⟨a, rfl⟩ : ∃ a : Nat, s = a := ⟨s.toNat, by omega⟩
  obtain ⟨b, rfl⟩ : ∃ b : Nat, t = b := ⟨t.toNat, by omega⟩
  obtain ⟨c, rfl⟩ : ∃ c : Nat, u = c := ⟨u.toNat, by omega⟩
  rw [sub_nat (by omega) (by omega)] at h1 h2
  have ho := or_set hs.1 hs.2 ht.1 ht.2
  rw [or_nat (by omega) (by omega)] at ho ⊢
  rw [sub_nat (by omega) (by omega), Nat.and_or_distrib_left, h1, h2]
theorem gath_least {m : Mz} (V : Valid m) {u : Int} (hu : 0 ≤ u ∧ u < 64) : ∀ (l : List Int) (s : Int), 0 ≤ s ∧ s < 64 → SubS s u → (∀ x ∈ l, SubS (m.keys.getD x.toNat 0) u) → SubS (gath m l s) u
  | [], _, _, h, _ => h
  | x :: l, s, hs, h, hl => by
    have hk := key_set V x.toNat
    exact gath_least V hu l _ (or_set hs.1 hs.2 hk.1 hk.2) (SubS.orL hs hk hu h (hl x (by simp))) fun y hy => hl y (List.mem_cons_of_mem _ hy)
theorem SubS.orR {s t : Int} (hs : 0 ≤ s ∧ s < 64) (ht : 0 ≤ t ∧ t < 64) : SubS t (bits .or .i64 s t) := by
  obtain ⟨a, rfl⟩ : ∃ a : Nat, s = a := ⟨s.toNat, by omega⟩
  obtain ⟨b, rfl⟩ : ∃ b : Nat, t = b := ⟨t.toNat, by omega⟩
  have ho := or_set hs.1 hs.2 ht.1 ht.2
  rw [or_nat (by omega) (by omega)] at ho ⊢
  rw [sub_nat (by omega) (by omega)]
  refine Nat.eq_of_testBit_eq fun i => ?_
  rw [Nat.testBit_and, Nat.testBit_or]
  cases a.testBit i <;> cases b.testBit i <;> rfl
theorem gath_key {m : Mz} (V : Valid m) : ∀ (l : List Int) (s : Int), 0 ≤ s ∧ s < 64 → ∀ x ∈ l, SubS (m.keys.getD x.toNat 0) (gath m l s)
  | y :: l, s, hs, x, hx => by
    have hk := key_set V y.toNat
    have ho := or_set hs.1 hs.2 hk.1 hk.2
    rcases List.mem_cons.1 hx with rfl | hx
    · exact (SubS.orR hs hk).trans hk ho (gath_set V l _ ho).1 (gath_set V l _ ho).2
    · exact gath_key V l _ ho x hx
end M
end Go.Proofs.Ythgmkkkfhbjhoaa
