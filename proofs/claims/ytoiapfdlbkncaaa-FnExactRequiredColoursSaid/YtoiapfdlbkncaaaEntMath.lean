/-
  MATHEMATICS of the rounds in which nodes are entered, node by node, own to these proofs. No condition.
-/
import Derived.Test.YtoiapfdlbkncaaaGainMath
namespace Go.Proofs.Ytoiapfdlbkncaaa
open Go.RowKit
namespace M
/-- the round of a node, where the nodes of P have just been looked at -/
noncomputable def vR (m : Mz) (s : Int) (r : Nat) (P : List Int) (x : Nat) : Int := if (x : Int) ∈ P ∧ entTo m s r x = 0 then ((r + 1 : Nat) : Int) else ((entTo m s r x : Nat) : Int)
noncomputable def midR (m : Mz) (s : Int) (r : Nat) (P : List Int) : List Int := (List.range m.size.toNat).map (vR m s r P)
theorem midR_len (m : Mz) (s : Int) (r : Nat) (P : List Int) : (midR m s r P).length = m.size.toNat := by unfold midR; simp
theorem midR_at {m : Mz} {s : Int} {r x : Nat} {P : List Int} (h : x < m.size.toNat) : (midR m s r P)[x]? = some (vR m s r P x) := by unfold midR; rw [List.getElem?_map, List.getElem?_range h]; rfl
theorem midR_nil (m : Mz) (s : Int) (r : Nat) : midR m s r [] = nodeRounds m s r := by
  unfold midR nodeRounds
  refine List.map_congr_left fun x _ => ?_
  unfold vR
  rw [if_neg (fun h => by cases h.1)]
theorem midR_all (m : Mz) (s : Int) (r : Nat) : midR m s r (reachOf m 0 (it m s r)) = nodeRounds m s (r + 1) := by
  unfold midR nodeRounds
  refine List.map_congr_left fun x _ => ?_
  unfold vR
  show _ = (((if entTo m s r x = 0 then (if (x : Int) ∈ reachOf m 0 (it m s r) then r + 1 else 0) else entTo m s r x : Nat)) : Int)
  by_cases h0 : entTo m s r x = 0
  · by_cases hm : (x : Int) ∈ reachOf m 0 (it m s r)
    · rw [if_pos ⟨hm, h0⟩, if_pos h0, if_pos hm]
    · rw [if_neg (fun h => hm h.1), if_pos h0, if_neg hm, h0]
  · rw [if_neg (fun h => h0 h.2), if_neg h0]
theorem vR_nonneg (m : Mz) (s : Int) (r : Nat) (P : List Int) (x : Nat) : 0 ≤ vR m s r P x := by unfold vR; split <;> omega
theorem mid_yes {m : Mz} {s : Int} {r j i : Nat} {L : List Int} (hi : i < L.length) (hj : L[i] = (j : Int)) (_hjs : j < m.size.toNat) (h : vR m s r (L.take i) j = 0) : midR m s r (L.take (i + 1)) = (midR m s r (L.take i)).set j ((r + 1 : Nat) : Int) := by
  have h0 : entTo m s r j = 0 := by
    unfold vR at h
    split at h
    · rename_i hc; exact hc.2
    · omega
  refine List.ext_getElem? fun x => ?_
  by_cases hx : x < m.size.toNat
  · rw [midR_at hx, List.getElem?_set]
    by_cases hxj : j = x
    · subst hxj
      rw [if_pos rfl, if_pos (by rw [midR_len]; exact hx)]
      congr 1
      unfold vR
      rw [if_pos ⟨by rw [List.take_succ_eq_append_getElem hi, hj]; simp, h0⟩]
    · rw [if_neg hxj, midR_at hx]
      congr 1
      unfold vR
      have : (x : Int) ∈ L.take (i + 1) ↔ (x : Int) ∈ L.take i := by
        rw [List.take_succ_eq_append_getElem hi, hj, List.mem_append, List.mem_singleton]
        exact ⟨fun h => h.resolve_right (by omega), .inl⟩
      simp only [this]
  · rw [List.getElem?_eq_none (by rw [midR_len]; omega), List.getElem?_eq_none (by rw [List.length_set, midR_len]; omega)]
theorem mid_no {m : Mz} {s : Int} {r j i : Nat} {L : List Int} (hi : i < L.length) (hj : L[i] = (j : Int)) (h : vR m s r (L.take i) j ≠ 0) : midR m s r (L.take (i + 1)) = midR m s r (L.take i) := by
  unfold midR
  refine List.map_congr_left fun x _ => ?_
  have hm : (x : Int) ∈ L.take (i + 1) ↔ (x : Int) ∈ L.take i ∨ x = j := by
    rw [List.take_succ_eq_append_getElem hi, hj, List.mem_append, List.mem_singleton]
    exact ⟨fun h => h.imp id (fun e => by omega), fun h => h.imp id (fun e => by omega)⟩
  unfold vR
  by_cases hxj : x = j
  · subst hxj
    unfold vR at h
    by_cases h0 : entTo m s r x = 0
    · by_cases hp : (x : Int) ∈ L.take i
      · rw [if_pos ⟨hm.2 (.inl hp), h0⟩, if_pos ⟨hp, h0⟩]
      · rw [if_neg (fun h => hp h.1), h0] at h
        exact absurd rfl h
    · rw [if_neg (fun h => h0 h.2), if_neg (fun h => h0 h.2)]
  · have : (x : Int) ∈ L.take (i + 1) ↔ (x : Int) ∈ L.take i := hm.trans ⟨fun h => h.resolve_right hxj, .inl⟩
    simp only [this]
theorem nodeRounds0 {m : Mz} {s : Int} {n : Nat} (h : m.size = (n : Int)) : nodeRounds m s 0 = List.replicate n 0 := by
  unfold nodeRounds
  rw [h, Int.toNat_natCast]
  refine List.ext_getElem? fun x => ?_
  rcases Nat.lt_or_ge x n with hx | hx
  · rw [List.getElem?_map, List.getElem?_range hx, List.getElem?_replicate, if_pos hx]; rfl
  · rw [List.getElem?_eq_none (by simp; omega), List.getElem?_eq_none (by simp; omega)]
end M
end Go.Proofs.Ytoiapfdlbkncaaa
