/-
  CONTRACTS of the laws' own helpers over slices of slices of numbers: eqIntSS says yes of two that read alike, markIntSS writes rising numbers, heldIntSS finds them. Condition: each row lies in a block of its own, at most 1048576 numbers in all.
-/
import Derived.Test.YthgmkkkfhbjhoaaInts
import Derived.Test.YthgmkkkfhbjhoaaLate
import Derived.Test.YthgmkkkfhbjhoaaStep
namespace Go.Proofs.Ythgmkkkfhbjhoaa
open Go.RowKit
namespace M
def totL (X : List (List Value)) : Nat := (X.map List.length).sum
theorem totL_nil : totL [] = 0 := rfl
theorem totL_cons (x : List Value) (X : List (List Value)) : totL (x :: X) = x.length + totL X := by unfold totL; rw [List.map_cons, List.sum_cons]
theorem totL_append (X Y : List (List Value)) : totL (X ++ Y) = totL X + totL Y := by unfold totL; rw [List.map_append, List.sum_append]
theorem totL_succ {X : List (List Value)} {k : Nat} (h : k < X.length) : totL (X.take (k + 1)) = totL (X.take k) + X[k].length := by
  rw [List.take_succ_eq_append_getElem h, totL_append, totL_cons, totL_nil]
  omega
theorem totL_le (X : List (List Value)) (k : Nat) : totL (X.take k) ≤ totL X := by
  have := totL_append (X.take k) (X.drop k)
  rw [List.take_append_drop] at this
  omega
theorem len_le_tot {X : List (List Value)} {k : Nat} (h : k < X.length) : X[k].length ≤ totL X := by
  have h1 := totL_succ h
  have h2 := totL_le X (k + 1)
  omega
/-- rising numbers, row by row -/
def marksSS : Nat → List (List Value) → List (List Value)
  | _, [] => []
  | k, x :: X => marks k x.length :: marksSS (k + x.length) X
theorem marksSS_len : ∀ (X : List (List Value)) (k : Nat), (marksSS k X).length = X.length
  | [], _ => rfl
  | x :: X, k => by
    show (marks k x.length :: marksSS (k + x.length) X).length = _
    rw [List.length_cons, marksSS_len X, List.length_cons]
theorem marksSS_at : ∀ (X : List (List Value)) (k i : Nat) (h : i < X.length), (marksSS k X)[i]? = some (marks (k + totL (X.take i)) X[i].length)
  | x :: X, k, 0, h => by
    show (marks k x.length :: marksSS (k + x.length) X)[0]? = _
    rfl
  | x :: X, k, i + 1, h => by
    show (marks k x.length :: marksSS (k + x.length) X)[i + 1]? = _
    rw [List.getElem?_cons_succ, marksSS_at X (k + x.length) i (by simpa using h), List.take_succ_cons, totL_cons, Nat.add_assoc]
    rfl
end M
namespace C
theorem infoII : (Try.prog.info? 23).map (fun i => (i.zero, i.size, i.bytes)) = some (some (.slice none 0 0), 1, 24) := by kernel_rfl
/-- a row's slice: the block, the length, the room -/
abbrev Sl := Nat × Nat × Nat
def slV (u : Sl) : Value := .slice (some ⟨u.1, 0, none⟩) u.2.1 u.2.2
/-- a list of lists of values, each in a block of its own -/
structure OwnSS (lo hi : Nat) (w : World) (a : Option Addr) (V : List Sl) (X : List (List Value)) : Prop where
  len : V.length = X.length
  outer : OwnAt lo hi w 23 a (V.map slV)
  row : ∀ (i : Nat) (u : Sl) (x : List Value), V[i]? = some u → X[i]? = some x → u.2.1 = x.length ∧ lo ≤ u.1 ∧ u.1 < hi ∧ OwnAt u.1 (u.1 + 1) w 3 (some ⟨u.1, 0, none⟩) x
  apart : ∀ (i j : Nat) (u v : Sl), V[i]? = some u → V[j]? = some v → i ≠ j → u.1 ≠ v.1
  beside : ∀ u ∈ V, ∀ p : Addr, a = some p → p.block ≠ u.1
section
variable {lo hi lo' hi' : Nat} {w w' : World} {a : Option Addr} {V : List Sl} {X : List (List Value)}
theorem OwnAt.turnedB {T : TypeId} {xs : List Value} (h : OwnAt lo hi w T a xs) (t : Turned lo' hi' w w') (hd : ∀ p, a = some p → p.block < lo' ∨ hi' ≤ p.block) : OwnAt lo hi w' T a xs := by
  rcases h with h | ⟨g, off, cur, ha, h1, h2, hh, hc⟩
  · exact .inl h
  · exact .inr ⟨g, off, cur, ha, h1, h2, (t.block g (heap_lt hh) (hd _ ha)).trans hh, hc⟩
theorem OwnSS.turned (h : OwnSS lo hi w a V X) (t : Turned lo' hi' w w') (hz : hi ≤ w.heap.size) (hd : hi ≤ lo' ∨ hi' ≤ lo) : OwnSS lo hi w' a V X :=
  ⟨h.len, h.outer.turned t hz hd, fun i u x hu hx => by
    obtain ⟨h1, h2, h3, h4⟩ := h.row i u x hu hx
    exact ⟨h1, h2, h3, h4.turned t (by omega) (by omega)⟩, h.apart, h.beside⟩
theorem OwnSS.mono (h : OwnSS lo hi w a V X) (h1 : lo' ≤ lo) (h2 : hi ≤ hi') : OwnSS lo' hi' w a V X :=
  ⟨h.len, h.outer.mono h1 h2, fun i u x hu hx => by
    obtain ⟨q1, q2, q3, q4⟩ := h.row i u x hu hx
    exact ⟨q1, by omega, by omega, q4⟩, h.apart, h.beside⟩
theorem OwnSS.at_ (h : OwnSS lo hi w a V X) {k : Nat} (hk : k < X.length) : ∃ g c b off, V[k]? = some (g, X[k].length, c) ∧ a = some ⟨b, off, none⟩ ∧ w.cell? ⟨b, off + k, none⟩ = some (.slice (some ⟨g, 0, none⟩) X[k].length c) ∧ lo ≤ g ∧ g < hi ∧ b < hi ∧ OwnAt g (g + 1) w 3 (some ⟨g, 0, none⟩) X[k] := by
  have hkV : k < V.length := by rw [h.len]; exact hk
  obtain ⟨b, off, ha, _, hb, hc⟩ := h.outer.row.at_ (k := k) (by rw [List.length_map]; exact hkV)
  obtain ⟨⟨g, n, c⟩, hu⟩ : ∃ u, V[k]? = some u := ⟨_, List.getElem?_eq_getElem hkV⟩
  obtain ⟨h1, h2, h3, h4⟩ := h.row k _ _ hu (List.getElem?_eq_getElem hk)
  have hn : n = X[k].length := h1
  subst hn
  exact ⟨g, c, b, off, hu, ha, hc k _ (by rw [List.getElem?_map, hu]; rfl), h2, h3, hb, h4⟩
/-- one row is written over -/
theorem OwnSS.setRow (h : OwnSS lo hi w a V X) {k g n c : Nat} (hu : V[k]? = some (g, n, c)) {Z : List Value} (hl : n = Z.length) (t : Turned g (g + 1) w w') (ho : OwnAt g (g + 1) w' 3 (some ⟨g, 0, none⟩) Z) : OwnSS lo hi w' a V (X.set k Z) := by
  refine ⟨by rw [List.length_set]; exact h.len, h.outer.turnedB t fun p hp => ?_, fun i u x hi hx => ?_, h.apart, h.beside⟩
  · have := h.beside _ (List.mem_of_getElem? hu) p hp
    have h1 : p.block ≠ g := this
    omega
  · have hkV := (List.getElem?_eq_some_iff.1 hu).1
    have hkX : k < X.length := by rw [← h.len]; exact hkV
    by_cases e : i = k
    · subst e
      rw [hu] at hi
      injection hi with hi
      subst hi
      rw [List.getElem?_set_self hkX] at hx
      injection hx with hx
      subst hx
      obtain ⟨_, h2, h3, _⟩ := h.row i _ _ hu (List.getElem?_eq_getElem hkX)
      exact ⟨hl, h2, h3, ho⟩
    · rw [List.getElem?_set_ne (fun e2 => e e2.symm)] at hx
      obtain ⟨h1, h2, h3, h4⟩ := h.row i u x hi hx
      have hne : u.1 ≠ g := h.apart i k _ _ hi hu e
      exact ⟨h1, h2, h3, h4.turnedB t fun p hp => by injection hp with hp; subst hp; show u.1 < g ∨ g + 1 ≤ u.1; omega⟩
end
theorem Turned.more {lo hi lo' hi' : Nat} {w w' : World} (h : Turned lo hi w w') (h1 : lo' ≤ lo) (h2 : hi ≤ hi') : Turned lo' hi' w w' := ⟨h.os, h.tape, h.output, h.size, fun k hk ho => h.block k hk (by omega)⟩
set_option maxHeartbeats 1600000
set_option maxRecDepth 20000
end C
end Go.Proofs.Ythgmkkkfhbjhoaa
