/-
  CONTRACT of slices.Delete at doors, one door: the row without it, in place; what lay elsewhere stays. Condition: the row may be written, the place is one of its doors.
-/
import Derived.Test.YtcaaookecgdbdaaPutW
import Derived.Deep.RegionLaw
import Derived.Lib.SliceRun
namespace Go.Proofs.Ytcaaookecgdbdaa
open Go.RowKit
namespace M
def over {α : Type} (xs : List α) : Nat → List α → List α
  | _, [] => xs
  | k, v :: vs => over (xs.set k v) (k + 1) vs
theorem over_len {α : Type} : ∀ (vs xs : List α) (k : Nat), (over xs k vs).length = xs.length
  | [], _, _ => rfl
  | v :: vs, xs, k => by unfold over; rw [over_len vs]; simp
theorem over_get {α : Type} : ∀ (vs xs : List α) (k i : Nat), k + vs.length ≤ xs.length → (over xs k vs)[i]? = if i < k then xs[i]? else if i < k + vs.length then vs[i - k]? else xs[i]?
  | [], xs, k, i, _ => by
    unfold over
    simp only [List.length_nil, Nat.add_zero]
    by_cases h : i < k
    · simp only [h, if_true]
    · simp only [h, if_false]
  | v :: vs, xs, k, i, h => by
    unfold over
    simp only [List.length_cons] at h ⊢
    rw [over_get vs (xs.set k v) (k + 1) i (by simp; omega)]
    rcases Nat.lt_trichotomy i k with hi | hi | hi
    · have h1 : i < k + 1 := by omega
      simp only [h1, hi, if_true]
      exact List.getElem?_set_ne (by omega)
    · subst hi
      have h1 : i < i + 1 := by omega
      have h2 : ¬ i < i := by omega
      have h3 : i < i + (vs.length + 1) := by omega
      simp only [h1, h2, h3, if_true, if_false]
      rw [List.getElem?_set_self (by omega), Nat.sub_self]
      rfl
    · have h1 : ¬ i < k + 1 := by omega
      have h2 : ¬ i < k := by omega
      simp only [h1, h2, if_false]
      by_cases h3 : i < k + 1 + vs.length
      · have h4 : i < k + (vs.length + 1) := by omega
        simp only [h3, h4, if_true]
        obtain ⟨j, rfl⟩ : ∃ j, i = k + 1 + j := ⟨i - (k + 1), by omega⟩
        rw [show k + 1 + j - (k + 1) = j by omega, show k + 1 + j - k = j + 1 by omega]
        rfl
      · have h4 : ¬ i < k + (vs.length + 1) := by omega
        simp only [h3, h4, if_false]
        exact List.getElem?_set_ne (by omega)
end M
namespace C
set_option maxHeartbeats 3200000
set_option maxRecDepth 20000
theorem Turned.setCells {lo hi : Nat} (b : Nat) (h1 : lo ≤ b) (h2 : b < hi) : ∀ (vs : List Value) (o : Nat) (w : World), Turned lo hi w (w.setCells b o vs)
  | [], _, w => Turned.refl _ _ w
  | v :: vs, o, w => (Turned.setCell w b o v h1 h2).trans (Turned.setCells b h1 h2 vs (o + 1) _)
theorem OwnAt.setCells {lo hi : Nat} {T : TypeId} {b off : Nat} : ∀ (vs : List Value) (k : Nat) (w : World) (xs : List Value), OwnAt lo hi w T (some ⟨b, off, none⟩) xs → OwnAt lo hi (w.setCells b (off + k) vs) T (some ⟨b, off, none⟩) (M.over xs k vs)
  | [], _, _, _, h => h
  | v :: vs, k, w, xs, h => by
    have := OwnAt.setCells vs (k + 1) _ _ (h.set_ rfl k v)
    rwa [← Nat.add_assoc] at this
theorem OwnAt.less {lo hi : Nat} {w : World} {T : TypeId} {a : Option Addr} {xs ys : List Value} (h : OwnAt lo hi w T a xs) (hy : ∀ (i : Nat) u, ys[i]? = some u → xs[i]? = some u) : OwnAt lo hi w T a ys := by
  rcases h with h | ⟨g, off, cur, ha, h1, h2, hh, hc⟩
  · left
    cases ys with
    | nil => rfl
    | cons y ys => exact absurd (hy 0 y (by simp)) (by rw [h]; simp)
  · exact .inr ⟨g, off, cur, ha, h1, h2, hh, fun i u hu => hc i u (hy i u hu)⟩
theorem run_clear_door {P : Program} (w : World) (t e ty : TypeId) (ht : P.underlying t = some (.slice e)) (hv : ∀ w, (zeroValue e).run P w = .ok (.agg #[.int .i64 0, .int .i64 0, .int .i64 0]) w) (b o c : Nat)
    (hc : ∀ j, j < 3 → (w.cell? ⟨b, o + j, none⟩).isSome = true) (hf : ∀ j, j < 3 → w.frozen? ⟨b, o + j, none⟩ = false) :
    (Builtin.clear_ #[t] ty #[.slice (some ⟨b, o, none⟩) 1 c]).run P w = .ok (.tuple #[]) (w.setCells b o [.int .i64 0, .int .i64 0, .int .i64 0]) := by
  have hst := run_storeCells_cells (P := P) b o [.int .i64 0, .int .i64 0, .int .i64 0] 0 w (by simpa using hc) (by simpa using hf) (by intro v hv'; simp at hv'; subst hv'; rfl)
  simp only [Nat.add_zero] at hst
  have hzc : (Builtin.zeroCells (Value.agg #[.int .i64 0, .int .i64 0, .int .i64 0]).cells 1).toList = [.int .i64 0, .int .i64 0, .int .i64 0] := by kernel_rfl
  simp [Builtin.clear_, run_underlying ht, hv, hzc, hst]
theorem zeroD (w : World) : (zeroValue 61).run Try.prog w = .ok (.agg #[.int .i64 0, .int .i64 0, .int .i64 0]) w := by kernel_rfl
end C
end Go.Proofs.Ytcaaookecgdbdaa
