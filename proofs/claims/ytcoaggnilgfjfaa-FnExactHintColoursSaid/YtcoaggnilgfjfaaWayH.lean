/-
  CONTRACTS of impl's FewestKeys, DetourOf; what lay in memory stays. No condition but that the maze reads so.
-/
import Derived.Test.YtcoaggnilgfjfaaWayG
namespace Go.Proofs.Ytcoaggnilgfjfaa
open Go.RowKit
namespace M
theorem stepsTo_at (m : Mz) (p : Int → St → Bool) {k j : Nat} (h : j < (stepsTo m p k).length) : (stepsTo m p k)[j] = optI (wayO m (st0 m) (p j)) := by
  have h' := h
  rw [stepsTo_len] at h'
  have : (stepsTo m p k)[j]? = some (optI (wayO m (st0 m) (p j))) := by unfold stepsTo; rw [List.getElem?_map, List.getElem?_range h']; rfl
  rw [List.getElem?_eq_getElem h] at this
  exact Option.some.inj this
theorem optI_has (r : Option Nat) : decide (0 ≤ optI r) = true ↔ ∃ v, r = some v := by
  rw [decide_eq_true_iff]
  cases r with
  | none => simp [optI]
  | some n => simp [optI]
theorem fk_idx {m : Mz} {i : Int} (h : IsIdx (fun z => decide (0 ≤ z)) (sakV m) i) : (i = -1 ∧ fkO m = none) ∨ ∃ k : Nat, i = k ∧ fkO m = some k := by
  unfold fkO
  unfold sakV at h
  cases q : mazeB m with
  | false =>
    rw [q] at h
    rcases h with ⟨k, hk, _⟩ | ⟨h, _⟩
    · simp at hk
    · exact .inl ⟨h, rfl⟩
  | true =>
    rw [q] at h
    simp only [if_true] at h ⊢
    rcases h with ⟨k, hk, e, h1, h2⟩ | ⟨e, h2⟩
    · refine .inr ⟨k, e, lst_eq ⟨⟨by rw [stepsTo_len] at hk; exact hk, ?_⟩, fun n hn => ?_⟩⟩
      · rw [stepsTo_at] at h1
        exact (optI_has _).1 h1
      · rcases Nat.lt_or_ge n k with hlt | hge
        · have hn' : n < (stepsTo m (keysP m) 7).length := by rw [stepsTo_len]; exact hn.1
          have := h2 n hn' hlt
          rw [stepsTo_at] at this
          dsimp only at this
          rw [(optI_has _).2 hn.2] at this
          cases this
        · exact hge
    · refine .inl ⟨e, lst_eq fun n hn => ?_⟩
      have hn' : n < (stepsTo m (keysP m) 7).length := by rw [stepsTo_len]; exact hn.1
      have := h2 n hn'
      rw [stepsTo_at] at this
      dsimp only at this
      rw [(optI_has _).2 hn.2] at this
      cases this
theorem sakV_len (m : Mz) : (sakV m).length ≤ 7 := by
  unfold sakV
  split
  · rw [stepsTo_len]; exact Nat.le_refl _
  · simp
end M
namespace C
set_option maxHeartbeats 3200000
set_option maxRecDepth 20000
end C
end Go.Proofs.Ytcoaggnilgfjfaa
