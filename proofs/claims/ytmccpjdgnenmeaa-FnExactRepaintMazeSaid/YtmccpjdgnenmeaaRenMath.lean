/-
  MATHEMATICS of lists with each number once, own to these proofs: such a list, sorted, is all numbers in order, and only such a list. No condition.
-/
import Derived.Test.YtmccpjdgnenmeaaNumMath
namespace Go.Proofs.Ytmccpjdgnenmeaa
open Go.RowKit
namespace M
def srtI (l : List Int) : List Int := l.mergeSort fun x y => decide (x ≤ y)
theorem srtI_perm (l : List Int) : (srtI l).Perm l := List.mergeSort_perm l _
theorem srtI_len (l : List Int) : (srtI l).length = l.length := (srtI_perm l).length_eq
theorem srtI_sorted (l : List Int) : (srtI l).Pairwise fun a b => decide (a ≤ b) = true :=
  List.pairwise_mergeSort (fun a b c h1 h2 => by simp only [decide_eq_true_iff] at *; omega) (fun a b => by simp only [Bool.or_eq_true, decide_eq_true_iff]; omega) l
theorem srtI_asc {l : List Int} (h : l.Nodup) : Asc ltI (srtI l) := by
  have h1 := srtI_sorted l
  have h2 : (srtI l).Nodup := (srtI_perm l).nodup_iff.2 h
  unfold Asc
  have h3 := h1.and h2
  refine h3.imp fun {a b} hab => ?_
  obtain ⟨hle, hne⟩ := hab
  rw [decide_eq_true_iff] at hle
  unfold ltI
  rw [decide_eq_true_iff]
  omega
theorem upto_asc (n : Nat) : Asc ltI (upto n) := by
  unfold upto Asc
  rw [List.pairwise_map]
  refine List.pairwise_lt_range.imp ?_
  intro a b h
  unfold ltI
  rw [decide_eq_true_iff]
  show (a : Int) < (b : Int)
  omega
theorem order_sorted {l : List Int} {n : Nat} (h : orderB l n = true) : srtI l = upto n :=
  Asc.ext ordI (srtI_asc (order_nodup h)) (upto_asc n) fun x => by rw [(srtI_perm l).mem_iff, (order_perm h).mem_iff]
theorem order_of_sorted {l : List Int} {n : Nat} (h : srtI l = upto n) : orderB l n = true := order_of_perm (h ▸ (srtI_perm l).symm)
theorem upto_at {n k : Nat} (hk : k < n) : (upto n)[k]? = some (k : Int) := by
  unfold upto
  rw [List.getElem?_map, List.getElem?_range hk]
  rfl
/-- all places hold their own number -/
theorem order_yes {l : List Int} (h : ∀ j (hj : j < (srtI l).length), (srtI l)[j] = (j : Int)) : orderB l l.length = true := by
  refine order_of_sorted (List.ext_getElem? fun k => ?_)
  rcases Nat.lt_or_ge k l.length with hk | hk
  · rw [upto_at hk, List.getElem?_eq_getElem (by rw [srtI_len]; exact hk), h]
  · rw [List.getElem?_eq_none (by rw [srtI_len]; exact hk), List.getElem?_eq_none (by rw [upto_len]; exact hk)]
/-- one place does not -/
theorem order_no {l : List Int} {n k : Nat} (hk : k < (srtI l).length) (h : (srtI l)[k] ≠ (k : Int)) : orderB l n = false := by
  cases ho : orderB l n with
  | false => rfl
  | true =>
    have e := order_sorted ho
    have hn := order_len ho
    have h1 := upto_at (n := n) (k := k) (by rw [← hn, ← srtI_len]; exact hk)
    rw [← e, List.getElem?_eq_getElem hk] at h1
    injection h1 with h1
    exact absurd h1 h
theorem order_short {l : List Int} {n : Nat} (h : l.length ≠ n) : orderB l n = false := by
  unfold orderB
  rw [decide_eq_false_iff_not]
  exact fun hh => h hh.1
/-- a number that is not there -/
theorem order_miss {l : List Int} {n k : Nat} (hk : k < n) (h : (k : Int) ∉ l) : orderB l n = false := by
  unfold orderB
  rw [decide_eq_false_iff_not]
  exact fun hh => h (hh.2 k (mem_upto.2 ⟨by omega, by omega⟩))
theorem order_all {l : List Int} {n : Nat} (hl : l.length = n) (h : ∀ j : Nat, j < n → (j : Int) ∈ l) : orderB l n = true := by
  unfold orderB
  rw [decide_eq_true_iff]
  refine ⟨hl, fun x hx => ?_⟩
  obtain ⟨h1, h2⟩ := mem_upto.1 hx
  have := h x.toNat (by omega)
  rwa [Int.toNat_of_nonneg h1] at this
end M
end Go.Proofs.Ytmccpjdgnenmeaa
