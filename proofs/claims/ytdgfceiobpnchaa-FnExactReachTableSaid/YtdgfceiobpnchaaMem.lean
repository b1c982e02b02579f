/-
  WORDS for memory, own to these proofs: a slice that reads as a list of cells in blocks of a known range; one that the call owns; what a step leaves unturned. No condition.
-/
import Derived.Test.YtdgfceiobpnchaaRows
import Derived.WalkKit
import Derived.WalkSpells
import Derived.WalkLawsBesides
import Derived.Lib.Hide
import Derived.Deep.AppendLies
import Derived.Sort.Grow
namespace Go.Proofs.Ytdgfceiobpnchaa
open Go.RowKit
namespace C

/-- outside the blocks lo..hi-1 nothing that was there has turned -/
structure Turned (lo hi : Nat) (w w' : World) : Prop where
  os : w'.os = w.os
  tape : w'.tape = w.tape
  output : w'.output = w.output
  size : w.heap.size ≤ w'.heap.size
  block : ∀ k, k < w.heap.size → (k < lo ∨ hi ≤ k) → w'.heap[k]? = w.heap[k]?

section
variable {lo hi lo' hi' B : Nat} {w w' w'' : World}
theorem Turned.refl (lo hi : Nat) (w : World) : Turned lo hi w w := ⟨rfl, rfl, rfl, Nat.le_refl _, fun _ _ _ => rfl⟩
theorem Turned.of_below (h : Below w.heap.size w w') (lo hi : Nat) : Turned lo hi w w' := ⟨h.os, h.tape, h.output, h.size, fun k hk _ => h.block k hk⟩
theorem Turned.trans (h : Turned lo hi w w') (k : Turned lo hi w' w'') : Turned lo hi w w'' :=
  ⟨k.os.trans h.os, k.tape.trans h.tape, k.output.trans h.output, Nat.le_trans h.size k.size, fun i hi' ho => (k.block i (Nat.lt_of_lt_of_le hi' h.size) ho).trans (h.block i hi' ho)⟩
theorem Turned.mono (h : Turned lo hi w w') (h1 : lo' ≤ lo) (h2 : hi ≤ hi') : Turned lo' hi' w w' :=
  ⟨h.os, h.tape, h.output, h.size, fun i hi ho => h.block i hi (by omega)⟩
theorem Turned.below (h : Turned lo hi w w') (hB : B ≤ lo) (hz : B ≤ w.heap.size) : Below B w w' :=
  ⟨h.os, h.tape, h.output, h.size, fun k hk => h.block k (by omega) (.inl (by omega))⟩
theorem Turned.drewN (w : World) (n : Nat) (lo hi : Nat) : Turned lo hi w (w.drewN n) := ⟨rfl, rfl, rfl, Nat.le_refl _, fun _ _ _ => rfl⟩
theorem below_drawn (w : World) (k : Nat) : Below w.heap.size w (w.drewN k) := ⟨rfl, rfl, rfl, Nat.le_refl _, fun _ _ => rfl⟩
theorem below_alloc (w : World) (o : Obj) : Below w.heap.size w (w.alloc o) := (Below.refl _ _).alloc (Nat.le_refl _) o
theorem Below.more {a b c : World} (h : Below a.heap.size a b) (k : Below b.heap.size b c) : Below a.heap.size a c := h.trans (k.mono h.size)
theorem Turned.setCell (w : World) (g i : Nat) (u : Value) (h1 : lo ≤ g) (h2 : g < hi) : Turned lo hi w (w.setCell ⟨g, i, none⟩ u) :=
  ⟨rfl, rfl, rfl, by simp [World.setCell], fun k _ ho => Below.heap_setCell w ⟨g, i, none⟩ u k (by show k ≠ g; omega)⟩
theorem Below.drawnN {a : World} (h : Below B a w) (n : Nat) : Below B a (w.drewN n) := ⟨h.os, h.tape, h.output, h.size, h.block⟩
theorem Below.far {a : World} (h : Below a.heap.size a w) (k : Turned 0 0 w w') : Below a.heap.size a w' := ⟨k.os.trans h.os, k.tape.trans h.tape, k.output.trans h.output, Nat.le_trans h.size k.size, fun i hi => (k.block i (Nat.lt_of_lt_of_le hi h.size) (.inr (Nat.zero_le _))).trans (h.block i hi)⟩
theorem Below.thenTurned (h : Below B w w') (k : Turned lo hi w' w'') (hB : B ≤ lo) (hz : B ≤ w'.heap.size) : Below B w w'' := h.trans (k.below hB hz)
end

/-- the slice's address, where it reads as xs, cell by cell, in blocks lo..hi-1 -/
def RowIn (lo hi : Nat) (w : World) (a : Option Addr) (xs : List Value) : Prop :=
  xs = [] ∨ ∃ b off, a = some ⟨b, off, none⟩ ∧ lo ≤ b ∧ b < hi ∧ ∀ i u, xs[i]? = some u → w.cell? ⟨b, off + i, none⟩ = some u
/-- the same, and the cells may be written -/
def OwnAt (lo hi : Nat) (w : World) (T : TypeId) (a : Option Addr) (xs : List Value) : Prop :=
  xs = [] ∨ ∃ g off cur, a = some ⟨g, off, none⟩ ∧ lo ≤ g ∧ g < hi ∧ w.heap[g]? = some (.cells cur T (0, 0)) ∧ ∀ i u, xs[i]? = some u → cur[off + i]? = some u

section
variable {lo hi lo' hi' : Nat} {w w' : World} {a : Option Addr} {xs : List Value} {T : TypeId}
theorem RowIn.nil (lo hi : Nat) (w : World) (a : Option Addr) : RowIn lo hi w a [] := .inl rfl
theorem RowIn.turned (h : RowIn lo hi w a xs) (t : Turned lo' hi' w w') (hz : hi ≤ w.heap.size) (hd : hi ≤ lo' ∨ hi' ≤ lo) : RowIn lo hi w' a xs := by
  rcases h with h | ⟨b, off, ha, h1, h2, hc⟩
  · exact .inl h
  · exact .inr ⟨b, off, ha, h1, h2, fun i u hu => (World.cell?_of_block (w := w) (t.block b (by omega) (by omega))).trans (hc i u hu)⟩
theorem RowIn.below (h : RowIn lo hi w a xs) (t : Below w.heap.size w w') (hz : hi ≤ w.heap.size) : RowIn lo hi w' a xs := h.turned (Turned.of_below t hi hi) hz (.inl (Nat.le_refl _))
theorem RowIn.mono (h : RowIn lo hi w a xs) (h1 : lo' ≤ lo) (h2 : hi ≤ hi') : RowIn lo' hi' w a xs := by
  rcases h with h | ⟨b, off, ha, h3, h4, hc⟩
  · exact .inl h
  · exact .inr ⟨b, off, ha, by omega, by omega, hc⟩
theorem RowIn.at_ (h : RowIn lo hi w a xs) {k : Nat} (hk : k < xs.length) : ∃ b off, a = some ⟨b, off, none⟩ ∧ lo ≤ b ∧ b < hi ∧ ∀ i u, xs[i]? = some u → w.cell? ⟨b, off + i, none⟩ = some u := by
  rcases h with h | h
  · rw [h] at hk; simp at hk
  · exact h
theorem OwnAt.turned (h : OwnAt lo hi w T a xs) (t : Turned lo' hi' w w') (hz : hi ≤ w.heap.size) (hd : hi ≤ lo' ∨ hi' ≤ lo) : OwnAt lo hi w' T a xs := by
  rcases h with h | ⟨b, off, cur, ha, h1, h2, hh, hc⟩
  · exact .inl h
  · exact .inr ⟨b, off, cur, ha, h1, h2, (t.block b (by omega) (by omega)).trans hh, hc⟩
theorem OwnAt.below (h : OwnAt lo hi w T a xs) (t : Below w.heap.size w w') (hz : hi ≤ w.heap.size) : OwnAt lo hi w' T a xs := h.turned (Turned.of_below t hi hi) hz (.inl (Nat.le_refl _))
theorem OwnAt.mono (h : OwnAt lo hi w T a xs) (h1 : lo' ≤ lo) (h2 : hi ≤ hi') : OwnAt lo' hi' w T a xs := by
  rcases h with h | ⟨b, off, cur, ha, h3, h4, hh, hc⟩
  · exact .inl h
  · exact .inr ⟨b, off, cur, ha, by omega, by omega, hh, hc⟩
theorem OwnAt.row (h : OwnAt lo hi w T a xs) : RowIn lo hi w a xs := by
  rcases h with h | ⟨b, off, cur, ha, h1, h2, hh, hc⟩
  · exact .inl h
  · exact .inr ⟨b, off, ha, h1, h2, fun i u hu => (cell_of_row w b (off + i) cur T (0, 0) hh).trans (hc i u hu)⟩
theorem OwnAt.nil (lo hi : Nat) (w : World) (T : TypeId) (a : Option Addr) : OwnAt lo hi w T a [] := .inl rfl
theorem heap_lt {w : World} {g : Nat} {o : Obj} (h : w.heap[g]? = some o) : g < w.heap.size := by
  rcases Nat.lt_or_ge g w.heap.size with hlt | hge
  · exact hlt
  · rw [Array.getElem?_eq_none hge] at h; cases h
theorem OwnAt.of_own {base size n c : Nat} (h : w.ownsRow base T size (.slice a n c) n xs) : OwnAt base w.heap.size w T a xs := by
  rcases h with ⟨hl, ⟨hv, rfl⟩ | ⟨g, cap, cur, hv, hb, hh, hn, hm, hs, ht⟩⟩
  · exact .inl (List.eq_nil_of_length_eq_zero (by simpa using hl))
  · injection hv with ha _ _
    refine .inr ⟨g, 0, cur, ha, hb, heap_lt hh, hh, fun i u hu => ?_⟩
    rw [← ht, List.getElem?_take] at hu
    split at hu
    · simpa using hu
    · cases hu
/-- one cell is written -/
theorem OwnAt.set_ (h : OwnAt lo hi w T a xs) {b off : Nat} (ha : a = some ⟨b, off, none⟩) (k : Nat) (u : Value) : OwnAt lo hi (w.setCell ⟨b, off + k, none⟩ u) T a (xs.set k u) := by
  rcases h with h | ⟨g, o, cur, hg, h1, h2, hh, hc⟩
  · exact .inl (by rw [h]; rfl)
  · rw [ha] at hg
    injection hg with hg
    injection hg with e1 e2 _
    subst e1; subst e2
    refine .inr ⟨b, off, cur.setIfInBounds (off + k) u, ha, h1, h2, by simp [World.setCell, Array.getElem?_modify, hh], fun i v hv => ?_⟩
    rw [List.getElem?_set] at hv
    by_cases hik : k = i
    · subst hik
      rw [if_pos rfl] at hv
      split at hv
      · rename_i hlt
        have := hc k _ (List.getElem?_eq_getElem hlt)
        have hb : off + k < cur.size := (Array.getElem?_eq_some_iff.1 this).1
        rw [Array.getElem?_setIfInBounds_self_of_lt hb]
        exact hv
      · cases hv
    · rw [if_neg hik] at hv
      rw [Array.getElem?_setIfInBounds_ne (by omega)]
      exact hc i v hv
theorem OwnAt.free (h : OwnAt lo hi w T a xs) {b off : Nat} (ha : a = some ⟨b, off, none⟩) {k : Nat} (hk : k < xs.length) (j : Nat) : w.frozen? ⟨b, j, none⟩ = false := by
  rcases h with h | ⟨g, o, cur, hg, h1, h2, hh, hc⟩
  · rw [h] at hk; simp at hk
  · rw [ha] at hg
    injection hg with hg
    injection hg with e1 e2 _
    subst e1; subst e2
    simp [World.frozen?, hh]
theorem OwnAt.cell0 {g : Nat} (h : OwnAt lo hi w T (some ⟨g, 0, none⟩) xs) {k : Nat} (hk : k < xs.length) : ∃ u, xs[k]? = some u ∧ w.cell? ⟨g, k, none⟩ = some u ∧ w.frozen? ⟨g, k, none⟩ = false := by
  obtain ⟨b, off, e, _, _, hc⟩ := h.row.at_ hk
  injection e with e
  injection e with e1 e2 _
  subst e1; subst e2
  refine ⟨xs[k], List.getElem?_eq_getElem hk, ?_, h.free rfl hk k⟩
  have := hc k _ (List.getElem?_eq_getElem hk)
  rwa [Nat.zero_add] at this
theorem OwnAt.set0 {g : Nat} (h : OwnAt lo hi w T (some ⟨g, 0, none⟩) xs) (k : Nat) (u : Value) : OwnAt lo hi (w.setCell ⟨g, k, none⟩ u) T (some ⟨g, 0, none⟩) (xs.set k u) := by
  have := h.set_ rfl k u
  rwa [Nat.zero_add] at this
/-- rows of two types lie in two blocks: a write to the one leaves the other -/
theorem OwnAt.far {U : TypeId} {c : Option Addr} {ys : List Value} (h : OwnAt lo hi w T a xs) (h' : OwnAt lo' hi' w U c ys) (hne : T ≠ U) {b off : Nat} (hc : c = some ⟨b, off, none⟩) {k : Nat} (hk : k < ys.length) (j : Nat) (u : Value) :
    OwnAt lo hi (w.setCell ⟨b, j, none⟩ u) T a xs := by
  rcases h' with h' | ⟨g', o', cur', hg', h1', h2', hh', hc'⟩
  · rw [h'] at hk; simp at hk
  · rw [hc] at hg'
    injection hg' with hg'
    injection hg' with e1 e2 _
    subst e1; subst e2
    rcases h with h | ⟨g, o, cur, hg, h1, h2, hh, hcc⟩
    · exact .inl h
    · refine .inr ⟨g, o, cur, hg, h1, h2, ?_, hcc⟩
      have hgb : g ≠ b := by
        rintro rfl
        rw [hh] at hh'
        injection hh' with e
        injection e with _ e2
        exact hne e2
      exact (Below.heap_setCell w ⟨b, j, none⟩ u g hgb).trans hh
end
theorem Turned.above {lo hi lo' hi' : Nat} {w w' : World} (t : Turned lo' hi' w w') (h : w.heap.size ≤ lo') : Turned lo hi w w' := ⟨t.os, t.tape, t.output, t.size, fun k hk _ => t.block k hk (.inl (by omega))⟩
/-- a row's own block: where another type's row lies is another block -/
theorem OwnAt.narrow {lo hi : Nat} {w : World} {T : TypeId} {a : Option Addr} {xs : List Value} (h : OwnAt lo hi w T a xs) :
    ∃ g, OwnAt g (g + 1) w T a xs ∧ (∀ w', Turned g (g + 1) w w' → Turned lo hi w w') ∧ (∀ w' ys, ys.length = xs.length → OwnAt g (g + 1) w' T a ys → OwnAt lo hi w' T a ys) ∧ ∀ cur V f, w.heap[g]? = some (.cells cur V f) → V = T := by
  rcases h with h | ⟨g, off, cur, ha, h1, h2, hh, hc⟩
  · exact ⟨w.heap.size, .inl h, fun w' t => t.above (Nat.le_refl _), fun w' ys hy _ => .inl (List.eq_nil_of_length_eq_zero (by rw [hy, h]; rfl)), fun cur V f hf => by simp at hf⟩
  · refine ⟨g, .inr ⟨g, off, cur, ha, Nat.le_refl _, Nat.lt_succ_self _, hh, hc⟩, fun w' t => t.mono h1 h2, fun w' ys _ ho => ho.mono h1 h2, fun cur' V f hf => ?_⟩
    rw [hh] at hf
    injection hf with hf
    injection hf with _ e
    exact e.symm
theorem OwnAt.other {lo hi g : Nat} {w w' : World} {U : TypeId} {c : Option Addr} {ys : List Value} (h : OwnAt lo hi w U c ys) (t : Turned g (g + 1) w w') (hg : ∀ cur V f, w.heap[g]? = some (.cells cur V f) → V ≠ U) : OwnAt lo hi w' U c ys := by
  rcases h with h | ⟨b, off, cur, ha, h1, h2, hh, hc⟩
  · exact .inl h
  · refine .inr ⟨b, off, cur, ha, h1, h2, (t.block b (heap_lt hh) ?_).trans hh, hc⟩
    have hne : b ≠ g := by
      rintro rfl
      exact hg _ _ _ hh rfl
    omega
theorem RowIn.other {lo hi g : Nat} {w w' : World} {U : TypeId} {c : Option Addr} {ys : List Value} (h : OwnAt lo hi w U c ys) (t : Turned g (g + 1) w w') (hg : ∀ cur V f, w.heap[g]? = some (.cells cur V f) → V ≠ U) : RowIn lo hi w' c ys := (h.other t hg).row
/-- a struct of three fields in a block of its own -/
def Box3 (w : World) (g : Nat) (T : TypeId) (x y z : Value) : Prop := w.heap[g]? = some (.cells #[x, y, z] T (0, 0))
theorem Box3.lt {w : World} {g : Nat} {T : TypeId} {x y z : Value} (h : Box3 w g T x y z) : g < w.heap.size := heap_lt h
theorem Box3.new {w : World} {g : Nat} (T : TypeId) (x y z : Value) (hg : g = w.heap.size) : Box3 (w.alloc (.cells #[x, y, z] T)) g T x y z := by subst hg; exact heap_alloc_new w _
theorem Box3.alloc {w : World} {g : Nat} {T : TypeId} {x y z : Value} (h : Box3 w g T x y z) (o : Obj) : Box3 (w.alloc o) g T x y z := (Below.heap_alloc w o g h.lt).trans h
theorem Box3.cells {w : World} {g : Nat} {T : TypeId} {x y z : Value} (h : Box3 w g T x y z) : w.cell? ⟨g, 0, none⟩ = some x ∧ w.cell? ⟨g, 1, none⟩ = some y ∧ w.cell? ⟨g, 2, none⟩ = some z :=
  ⟨cell_of_row w g 0 _ _ _ h, cell_of_row w g 1 _ _ _ h, cell_of_row w g 2 _ _ _ h⟩
theorem Box3.free {w : World} {g : Nat} {T : TypeId} {x y z : Value} (h : Box3 w g T x y z) : w.frozen? ⟨g, 0, none⟩ = false ∧ w.frozen? ⟨g, 1, none⟩ = false ∧ w.frozen? ⟨g, 2, none⟩ = false := by
  unfold Box3 at h
  exact ⟨by simp [World.frozen?, h], by simp [World.frozen?, h], by simp [World.frozen?, h]⟩
theorem Box3.turned {lo hi : Nat} {w w' : World} {g : Nat} {T : TypeId} {x y z : Value} (h : Box3 w g T x y z) (t : Turned lo hi w w') (hd : g < lo ∨ hi ≤ g) : Box3 w' g T x y z := (t.block g h.lt hd).trans h
theorem Box3.below {w w' : World} {g : Nat} {T : TypeId} {x y z : Value} (h : Box3 w g T x y z) (t : Below w.heap.size w w') : Box3 w' g T x y z := (t.block g h.lt).trans h
/-- the world of a call under a name of its own -/
theorem named {P : Program} {f : FuncId} {args : Array Value} {X : World} {Q : Ending → World → Prop} (h : ∀ W, W = X → Calls P f args W Q) : Calls P f args X Q := h X rfl
theorem wp_named {P : Program} {c : Code} {Q : Exit → Act → World → Prop} {a : Act} {X : World} (h : ∀ W, W = X → Code.wp P c Q a W) : Code.wp P c Q a X := h X rfl
theorem below_grown (w : World) (k : Nat) (os : Array Obj) : Below w.heap.size w (Sort.grow (w.drewN k) os) :=
  ⟨rfl, rfl, rfl, by simp [Sort.grow], fun i hi => by
    show (w.heap ++ os)[i]? = _
    rw [Array.getElem?_append_left hi]⟩
end C
end Go.Proofs.Ytdgfceiobpnchaa
