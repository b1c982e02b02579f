/-
  MATHEMATICS of complete entry orders, own to these proofs. No condition.
-/
import Derived.Test.YtdjmmgfjcchloaaBigM
import Derived.Test.YtdjmmgfjcchloaaPick
namespace Go.Proofs.Ytdjmmgfjcchloaa
open Go.RowKit
namespace M
theorem done_exB {m : Mz} (V : Valid m) (a : Nat) {pick : List Int → Int} (hp : Picks pick) : ∃ k, DoneA m a pick k := by
  refine Classical.byContradiction fun hn => ?_
  have hall : ∀ k, ¬ DoneA m a pick k := fun k hk => hn ⟨k, hk⟩
  have hg : ∀ k, k ≤ (seqA m a pick k).2 := by
    intro k
    induction k with
    | zero => exact Nat.zero_le _
    | succ k ih => have := seqA_grow V hp (hall k); omega
  have h1 := hg 4096
  have h2 := (seqA_ok V (a := a) hp 4096).1
  omega
theorem pmin : Picks pickMin := pickMin_in
theorem pmax : Picks pickMax := pickMax_in
theorem seqA_one {m : Mz} (V : Valid m) {pick : List Int → Int} (hp : ∀ x, pick [x] = x) : seqA m (allN m) pick 1 = ([0], 1) := by
  have e : nxtA m (allN m) 0 = 1 := by rw [next_all V]; rfl
  have hd : digsTo 1 12 = [0] := by decide
  show (if nxtA m (allN m) 0 = 0 then _ else _) = _
  rw [e, if_neg (by decide)]
  show ([] ++ [pick (digsTo (nxtA m (allN m) 0) 12)], 0 ||| 2 ^ (pick (digsTo (nxtA m (allN m) 0) 12)).toNat) = _
  rw [e, hd, hp]
  rfl
theorem seqA_pos {m : Mz} (V : Valid m) {a : Nat} {pick : List Int → Int} (hp : Picks pick) : ∀ k, (seqA m a pick (k + 1)).2 ≠ 0 ∨ DoneA m a pick 0
  | 0 => by
    by_cases h : DoneA m a pick 0
    · exact .inr h
    · have := seqA_grow V hp h
      exact .inl (by omega)
  | k + 1 => by
    rcases seqA_pos V (a := a) hp k with h | h
    · by_cases hd : DoneA m a pick (k + 1)
      · have := seqA_far hd 1
        exact .inl (by rw [this]; exact h)
      · have := seqA_grow V hp hd
        exact .inl (by omega)
    · exact .inr h
theorem all_pick {m : Mz} (V : Valid m) {n : Nat} (h0 : n ≠ 0) (pick : List Int → Int) : pickA m (allN m) pick n = pick (nextL m n) := by
  unfold pickA
  rw [next_all V, digs_nextN V h0]
theorem all_done {m : Mz} (V : Valid m) {n : Nat} (h0 : n ≠ 0) : nxtA m (allN m) n = 0 ↔ nextL m n = [] := by
  rw [next_all V, ← digs_nextN V h0]
  constructor
  · intro h; rw [h]; rfl
  · intro h
    refine Classical.byContradiction fun hne => digs_ne (nextN_lt m n) hne h
noncomputable def fullV (m : Mz) (pick : List Int → Int) : List Int := if mazeB m then (fullA m (allN m) pick).1 else []
theorem fullV_no {m : Mz} (h : mazeB m = false) (pick : List Int → Int) : fullV m pick = [] := by unfold fullV; rw [h]; rfl
theorem fullV_yes {m : Mz} (h : mazeB m = true) (pick : List Int → Int) : fullV m pick = (fullA m (allN m) pick).1 := by unfold fullV; rw [if_pos h]
theorem full_bd {m : Mz} (V : Valid m) (a : Nat) {pick : List Int → Int} (hp : Picks pick) : (fullA m a pick).1.length ≤ 4096 ∧ (fullA m a pick).2 < 4096 ∧ ∀ x ∈ (fullA m a pick).1, 0 ≤ x ∧ x < 12 := by
  obtain ⟨k, hk⟩ := done_exB V a hp
  rw [fullA_eq hk]
  obtain ⟨h1, h2, _, h4⟩ := seqA_ok V (a := a) hp k
  exact ⟨by omega, h1, h4⟩
theorem fullV_bd (m : Mz) {pick : List Int → Int} (hp : Picks pick) : (fullV m pick).length ≤ 1048576 := by
  unfold fullV
  split
  · rename_i h
    have := (full_bd (valid_of h) (allN m) hp).1
    omega
  · simp
end M
namespace C
set_option maxHeartbeats 3200000
set_option maxRecDepth 20000
end C
end Go.Proofs.Ytdjmmgfjcchloaa
