/-
  MATHEMATICS of orders, own to these proofs: what the two orders' laws tell. No condition.
-/
import Derived.Test.YtdjmmgfjcchloaaOrdMath2
import Derived.Test.YtdjmmgfjcchloaaNextS
namespace Go.Proofs.Ytdjmmgfjcchloaa
open Go.RowKit
namespace M
theorem ordF_in {m : Mz} : ∀ {l : List Int} {n k : Nat}, ordF m n l = some k → (∀ p, digB n p = true → (p : Int) < m.size) → ∀ p, digB k p = true → (p : Int) < m.size
  | [], n, k, h, hn => by injection h with h; subst h; exact hn
  | x :: l, n, k, h, hn => by
    unfold ordF at h
    split at h
    · rename_i hc
      have h1 := hc.1
      unfold nodeB at h1
      rw [decide_eq_true_iff] at h1
      refine ordF_in h fun p hp => ?_
      rw [digB_or, Bool.or_eq_true] at hp
      rcases hp with hp | hp
      · exact hn p hp
      · rw [digB_pow, decide_eq_true_iff] at hp
        omega
    · cases h
theorem zero_in {m : Mz} : ∀ p, digB 0 p = true → (p : Int) < m.size := fun p hp => by
  have : digB 0 p = false := by unfold digB; simp
  rw [this] at hp; cases hp
theorem ordF_take {m : Mz} {l : List Int} {k n : Nat} (hk : k < l.length) (h : ordF m 0 (l.take k) = some n) : ordF m 0 (l.take (k + 1)) = if nodeB m.size l[k] = true ∧ digB (nextN m n) l[k].toNat = true then some (n ||| 2 ^ l[k].toNat) else none := by
  rw [List.take_succ_eq_append_getElem hk, ordF_snoc h]
theorem ordF_bad {m : Mz} {l : List Int} {k : Nat} (h : ordF m 0 (l.take k) = none) : ordF m 0 l = none := by
  have := ordF_none h (l.drop k)
  rwa [List.take_append_drop] at this
def ordB (m : Mz) (l : List Int) : Bool := mazeB m && decide (orderN m l ≠ 0)
def nextV (m : Mz) (l : List Int) : List Int := if ordB m l then nextL m (orderN m l) else []
theorem ordB_no {m : Mz} (h : mazeB m = false) (l : List Int) : ordB m l = false := by unfold ordB; rw [h]; rfl
theorem ordB_yes {m : Mz} (h : mazeB m = true) (l : List Int) : ordB m l = decide (orderN m l ≠ 0) := by unfold ordB; rw [h]; rfl
theorem nextV_no {m : Mz} {l : List Int} (h : ordB m l = false) : nextV m l = [] := by unfold nextV; rw [h]; rfl
theorem nextV_yes {m : Mz} {l : List Int} (h : ordB m l = true) : nextV m l = nextL m (orderN m l) := by unfold nextV; rw [if_pos h]
theorem nextV_bd (m : Mz) (l : List Int) : (nextV m l).length ≤ 1048576 := by
  unfold nextV
  split
  · have := nextL_len m (orderN m l); omega
  · simp
theorem orderN_ok {m : Mz} (V : Valid m) (l : List Int) : orderN m l < 4096 ∧ ∀ p, digB (orderN m l) p = true → (p : Int) < m.size := by
  cases h : ordF m 0 l with
  | none => rw [order_none h]; exact ⟨by decide, zero_in⟩
  | some k => rw [order_some h]; exact ⟨ordF_lt V h (by decide), ordF_in h zero_in⟩
theorem orP {n q : Nat} (hn : n < 4096) (hq : q < 12) : bits .or .i64 (n : Int) (2 ^ q) = ((n ||| 2 ^ q : Nat) : Int) := by
  have h := or4 n (2 ^ q) hn (pow12 hq)
  rwa [show ((2 ^ q : Nat) : Int) = 2 ^ q by simp] at h
end M
end Go.Proofs.Ytdjmmgfjcchloaa
