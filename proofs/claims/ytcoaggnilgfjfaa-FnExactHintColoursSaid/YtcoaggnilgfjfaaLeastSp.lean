/-
  CONTRACT of the model's l4Least: the least number of a table at a node with all colours of a set and at most so many; memory stays as it is. Condition: the table tells numbers for states of the maze alone.
-/
import Derived.Test.YtcoaggnilgfjfaaSpread
namespace Go.Proofs.Ytcoaggnilgfjfaa
open Go.RowKit
namespace M
def leastB (x set most : Int) (t : St) : Bool := (t.1 == x) && (has2B t.2 set && decide (many t.2 ≤ most))
/-- among the first k sets -/
def LeastTo (x set most : Int) (f : St → Option Nat) (k : Nat) (n : Nat) : Prop := ∃ j : Nat, j < k ∧ leastB x set most (x, (j : Int)) = true ∧ f (x, (j : Int)) = some n
theorem leastTo_succ {x set most : Int} {f : St → Option Nat} {k n : Nat} : LeastTo x set most f (k + 1) n ↔ LeastTo x set most f k n ∨ (leastB x set most (x, (k : Int)) = true ∧ f (x, (k : Int)) = some n) := by
  constructor
  · rintro ⟨j, hj, h1, h2⟩
    rcases Nat.lt_or_ge j k with h | h
    · exact .inl ⟨j, h, h1, h2⟩
    · obtain rfl : j = k := by omega
      exact .inr ⟨h1, h2⟩
  · rintro (⟨j, hj, h1, h2⟩ | ⟨h1, h2⟩)
    · exact ⟨j, by omega, h1, h2⟩
    · exact ⟨k, by omega, h1, h2⟩
theorem leastTo_end {m : Mz} {x set most : Int} {f : St → Option Nat} (hf : ∀ t n, f t = some n → StOk m t) {best : Option Nat} (h : IsLst (LeastTo x set most f 64) best) : minO (fun t => leastB x set most t = true) f = best := by
  refine lst_eq (h.congr fun n => ?_)
  constructor
  · rintro ⟨j, hj, h1, h2⟩
    exact ⟨(x, (j : Int)), h1, h2⟩
  · rintro ⟨t, h1, h2⟩
    obtain ⟨a1, a2, a3, a4⟩ := hf t n h2
    have hx : t.1 = x := by
      unfold leastB at h1
      rw [Bool.and_eq_true] at h1
      exact beq_iff_eq.1 h1.1
    have ht : t = (x, ((t.2.toNat : Nat) : Int)) := by
      obtain ⟨c, d⟩ := t
      simp only at *
      rw [hx, Int.toNat_of_nonneg a3]
    exact ⟨t.2.toNat, by omega, by rw [← ht]; exact h1, by rw [← ht]; exact h2⟩
theorem leastB_at (x set most : Int) (k : Int) : leastB x set most (x, k) = (has2B k set && decide (many k ≤ most)) := by unfold leastB; simp
end M
namespace C
set_option maxHeartbeats 3200000
set_option maxRecDepth 20000
end C
end Go.Proofs.Ytcoaggnilgfjfaa
