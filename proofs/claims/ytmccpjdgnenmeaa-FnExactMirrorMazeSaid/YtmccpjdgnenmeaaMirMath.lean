/-
  MATHEMATICS of the mirrored maze, own to these proofs: the list that sends each node to its mirror has each once. No condition.
-/
import Derived.Test.YtmccpjdgnenmeaaRenMath
namespace Go.Proofs.Ytmccpjdgnenmeaa
open Go.RowKit
namespace M
/-- the first k numbers of the list that sends each node to its mirror -/
def mirTo (n : Nat) (k : Nat) : List Int := (List.range k).map fun (j : Nat) => (n : Int) - 1 - (j : Int)
theorem mirTo_zero (n : Nat) : mirTo n 0 = [] := rfl
theorem mirTo_len (n k : Nat) : (mirTo n k).length = k := by unfold mirTo; rw [List.length_map, List.length_range]
theorem mirTo_succ (n k : Nat) : mirTo n (k + 1) = mirTo n k ++ [(n : Int) - 1 - (k : Int)] := by
  unfold mirTo
  rw [List.range_succ, List.map_append]
  rfl
theorem mir_order (n : Nat) : orderB (mirTo n n) n = true := order_all (mirTo_len n n) fun j hj => by
  unfold mirTo
  rw [List.mem_map]
  exact ⟨n - 1 - j, List.mem_range.2 (by omega), by omega⟩
def mirL (m : Mz) : List Int := mirTo m.size.toNat m.size.toNat
def mirV (m : Mz) : Mz := if mazeB m then numOf m (mirL m) else C.mz0
theorem mirV_yes {m : Mz} (h : mazeB m = true) : mirV m = numOf m (mirL m) := by unfold mirV; rw [if_pos h]
theorem mirV_no {m : Mz} (h : mazeB m = false) : mirV m = C.mz0 := by unfold mirV; rw [h]; rfl
theorem mir_numB {m : Mz} (h : mazeB m = true) : numB m (mirL m) = true := by unfold numB mirL; rw [h, mir_order]; rfl
theorem mir_numV {m : Mz} (h : mazeB m = true) : numV m (mirL m) = mirV m := by rw [mirV_yes h, numV_yes (mir_numB h)]
theorem mirV_len (m : Mz) : (mirV m).doors.length ≤ 1048576 ∧ (mirV m).keys.length ≤ 1048576 := by
  cases h : mazeB m with
  | false => rw [mirV_no h]; simp [C.mz0]
  | true => rw [← mir_numV h]; exact numV_len m _
theorem mirTo_next {m : Mz} (h : 0 ≤ m.size) (k : Nat) : mirTo m.size.toNat (k + 1) = mirTo m.size.toNat k ++ [m.size - 1 - (k : Int)] := by
  rw [mirTo_succ, Int.toNat_of_nonneg h]
theorem mir_bd {n k : Nat} (hn : n ≤ 12) (hk : k ≤ 12) : ∀ z ∈ mirTo n k, -9223372036854775808 ≤ z ∧ z ≤ 9223372036854775807 := by
  intro z hz
  unfold mirTo at hz
  rw [List.mem_map] at hz
  obtain ⟨j, hj, rfl⟩ := hz
  rw [List.mem_range] at hj
  omega
end M
end Go.Proofs.Ytmccpjdgnenmeaa
