/-
  WORDS for rows that are written over from a place on, and for a list without those of which a predicate holds, own to these proofs. No condition.
-/
import Derived.Test.YtoiapfdlbkncaaaMem
import Derived.Lib.SliceRun
namespace Go.Proofs.Ytoiapfdlbkncaaa
open Go.RowKit
namespace M
def over {α : Type} (xs : List α) : Nat → List α → List α
  | _, [] => xs
  | k, v :: vs => over (xs.set k v) (k + 1) vs
theorem over_len {α : Type} : ∀ (vs xs : List α) (k : Nat), (over xs k vs).length = xs.length
  | [], _, _ => rfl
  | v :: vs, xs, k => by unfold over; rw [over_len vs]; simp
theorem over_get {α : Type} : ∀ (vs xs : List α) (k i : Nat), k + vs.length ≤ xs.length → (over xs k vs)[i]? = if i < k then xs[i]? else if i < k + vs.length then vs[i - k]? else xs[i]?
  | [], xs, k, i, _ => by
    unfold over
    simp only [List.length_nil, Nat.add_zero]
    by_cases h : i < k
    · simp only [h, if_true]
    · simp only [h, if_false]
  | v :: vs, xs, k, i, h => by
    unfold over
    simp only [List.length_cons] at h ⊢
    rw [over_get vs (xs.set k v) (k + 1) i (by simp; omega)]
    rcases Nat.lt_trichotomy i k with hi | hi | hi
    · have h1 : i < k + 1 := by omega
      simp only [h1, hi, if_true]
      exact List.getElem?_set_ne (by omega)
    · subst hi
      have h1 : i < i + 1 := by omega
      have h2 : ¬ i < i := by omega
      have h3 : i < i + (vs.length + 1) := by omega
      simp only [h1, h2, h3, if_true, if_false]
      rw [List.getElem?_set_self (by omega), Nat.sub_self]
      rfl
    · have h1 : ¬ i < k + 1 := by omega
      have h2 : ¬ i < k := by omega
      simp only [h1, h2, if_false]
      by_cases h3 : i < k + 1 + vs.length
      · have h4 : i < k + (vs.length + 1) := by omega
        simp only [h3, h4, if_true]
        obtain ⟨j, rfl⟩ : ∃ j, i = k + 1 + j := ⟨i - (k + 1), by omega⟩
        rw [show k + 1 + j - (k + 1) = j by omega, show k + 1 + j - k = j + 1 by omega]
        rfl
      · have h4 : ¬ i < k + (vs.length + 1) := by omega
        simp only [h3, h4, if_false]
        exact List.getElem?_set_ne (by omega)
end M
namespace M
/-- those of which p does not hold -/
def kept {α : Type} (p : α → Bool) (l : List α) : List α := l.filter fun x => !p x
theorem kept_all {α : Type} {p : α → Bool} {l : List α} (h : ∀ j (hj : j < l.length), p l[j] = false) : kept p l = l := by
  unfold kept
  rw [List.filter_eq_self]
  intro x hx
  obtain ⟨j, hj, rfl⟩ := List.mem_iff_getElem.1 hx
  rw [h j hj]; rfl
theorem kept_yes {α : Type} {p : α → Bool} {l : List α} {k : Nat} (hk : k < l.length) (h : p l[k] = false) : kept p (l.take (k + 1)) = kept p (l.take k) ++ [l[k]] := by
  unfold kept
  rw [List.take_succ_eq_append_getElem hk, List.filter_append, List.filter_cons_of_pos (p := fun x => !p x) (by show (!p l[k]) = true; rw [h]; rfl)]
  rfl
theorem kept_no {α : Type} {p : α → Bool} {l : List α} {k : Nat} (hk : k < l.length) (h : p l[k] = true) : kept p (l.take (k + 1)) = kept p (l.take k) := by
  unfold kept
  rw [List.take_succ_eq_append_getElem hk, List.filter_append, List.filter_cons_of_neg (p := fun x => !p x) (by show ¬ (!p l[k]) = true; rw [h]; decide)]
  simp
theorem kept_first {α : Type} {p : α → Bool} {l : List α} {k : Nat} (hk : k < l.length) (h : p l[k] = true) (hn : ∀ j (hj : j < l.length), j < k → p l[j] = false) : l.take k = kept p (l.take (k + 1)) := by
  rw [kept_no hk h]
  exact (kept_all fun j hj => by
    rw [List.length_take] at hj
    rw [List.getElem_take]
    exact hn j (by omega) (by omega)).symm
theorem drop_set_lt {α : Type} (xs : List α) (i j : Nat) (u : α) (h : i < j) : (xs.set i u).drop j = xs.drop j := by
  refine List.ext_getElem? fun k => ?_
  rw [List.getElem?_drop, List.getElem?_drop, List.getElem?_set_ne (by omega)]
theorem take_set_succ {α : Type} (xs : List α) (i : Nat) (u : α) (h : i < xs.length) : (xs.set i u).take (i + 1) = xs.take i ++ [u] := by
  rw [List.take_succ_eq_append_getElem (by simpa using h), List.take_set_of_le (Nat.le_refl _), List.getElem_set_self]
theorem drop_next {α : Type} {xs l : List α} {j : Nat} (h : xs.drop j = l.drop j) : xs.drop (j + 1) = l.drop (j + 1) := by
  rw [← List.drop_drop, ← List.drop_drop, h]
end M
namespace C
theorem Turned.setCells {lo hi : Nat} (b : Nat) (h1 : lo ≤ b) (h2 : b < hi) : ∀ (vs : List Value) (o : Nat) (w : World), Turned lo hi w (w.setCells b o vs)
  | [], _, w => Turned.refl _ _ w
  | v :: vs, o, w => (Turned.setCell w b o v h1 h2).trans (Turned.setCells b h1 h2 vs (o + 1) _)
theorem OwnAt.setCells {lo hi : Nat} {T : TypeId} {b off : Nat} : ∀ (vs : List Value) (k : Nat) (w : World) (xs : List Value), OwnAt lo hi w T (some ⟨b, off, none⟩) xs → OwnAt lo hi (w.setCells b (off + k) vs) T (some ⟨b, off, none⟩) (M.over xs k vs)
  | [], _, _, _, h => h
  | v :: vs, k, w, xs, h => by
    have := OwnAt.setCells vs (k + 1) _ _ (h.set_ rfl k v)
    rwa [← Nat.add_assoc] at this
theorem OwnAt.less {lo hi : Nat} {w : World} {T : TypeId} {a : Option Addr} {xs ys : List Value} (h : OwnAt lo hi w T a xs) (hy : ∀ (i : Nat) u, ys[i]? = some u → xs[i]? = some u) : OwnAt lo hi w T a ys := by
  rcases h with h | ⟨g, off, cur, ha, h1, h2, hh, hc⟩
  · left
    cases ys with
    | nil => rfl
    | cons y ys => exact absurd (hy 0 y (by simp)) (by rw [h]; simp)
  · exact .inr ⟨g, off, cur, ha, h1, h2, hh, fun i u hu => hc i u (hy i u hu)⟩
end C
end Go.Proofs.Ytoiapfdlbkncaaa
