/-
  WORDS for memory, own to these proofs: a slice that reads as a list of cells in blocks of a known range; one that the call owns; what a step leaves unturned. No condition.
  MATHEMATICS of mazes, own to these proofs: doors and keys as lists of numbers, when a maze is valid, the order of doors. No condition.
  WHAT THE STATEMENTS over mazes share: closed facts of the program; how a maze, or a slice of numbers, that came in reads; the row's last step where only 'what lay below stands' is known of the world. No condition of its own.
  CONTRACTS of the laws' own helpers over slices of numbers: toIntS gives a copy of its own, eqIntS says yes of two slices that read alike, markIntS writes rising numbers, heldIntS finds them; sizes are counted. Condition: the slices read as lists of numbers, at most 1048576 of them.
  CONTRACTS of the laws' own helpers over mazes: toMaze gives a copy of its own, eqMaze says yes of two that read alike. Condition: at most 1048576 doors and keys.
  CONTRACTS of the laws' own helpers over mazes: toMaze gives a copy of its own, eqMaze says yes of two that read alike, markMaze writes rising numbers, heldMaze finds them. Condition: at most 1048576 doors and keys.
  MATHEMATICS of lists in order, own to these proofs: an element put to its place; a list that ascends is told by its members; doors and numbers in order. No condition.
-/
import Derived.Test.YtbcobheiofajeaaRows
import Derived.WalkKit
import Derived.WalkSpells
import Derived.WalkLawsBesides
import Derived.Lib.Hide
import Derived.Deep.AppendLies
import Derived.Sort.Grow
import Derived.ProofKit
import Derived.OpenShut
import Derived.ShutString
import Derived.Deep.Slices
import Derived.Lib.SmallJoins
import Derived.BigQuiet
import Derived.Deep.QuietTactic
import Derived.Laws.MakeOwn
import Derived.Deep.RegionWith
namespace Go.Proofs.Ytbcobheiofajeaa
open Go.RowKit
namespace C

/-- outside the blocks lo..hi-1 nothing that was there has turned -/
structure Turned (lo hi : Nat) (w w' : World) : Prop where
  os : w'.os = w.os
  tape : w'.tape = w.tape
  output : w'.output = w.output
  size : w.heap.size ≤ w'.heap.size
  block : ∀ k, k < w.heap.size → (k < lo ∨ hi ≤ k) → w'.heap[k]? = w.heap[k]?

section
variable {lo hi lo' hi' B : Nat} {w w' w'' : World}
theorem Turned.refl (lo hi : Nat) (w : World) : Turned lo hi w w := ⟨rfl, rfl, rfl, Nat.le_refl _, fun _ _ _ => rfl⟩
theorem Turned.of_below (h : Below w.heap.size w w') (lo hi : Nat) : Turned lo hi w w' := ⟨h.os, h.tape, h.output, h.size, fun k hk _ => h.block k hk⟩
theorem Turned.trans (h : Turned lo hi w w') (k : Turned lo hi w' w'') : Turned lo hi w w'' :=
  ⟨k.os.trans h.os, k.tape.trans h.tape, k.output.trans h.output, Nat.le_trans h.size k.size, fun i hi' ho => (k.block i (Nat.lt_of_lt_of_le hi' h.size) ho).trans (h.block i hi' ho)⟩
theorem Turned.mono (h : Turned lo hi w w') (h1 : lo' ≤ lo) (h2 : hi ≤ hi') : Turned lo' hi' w w' :=
  ⟨h.os, h.tape, h.output, h.size, fun i hi ho => h.block i hi (by omega)⟩
theorem Turned.below (h : Turned lo hi w w') (hB : B ≤ lo) (hz : B ≤ w.heap.size) : Below B w w' :=
  ⟨h.os, h.tape, h.output, h.size, fun k hk => h.block k (by omega) (.inl (by omega))⟩
theorem Turned.drewN (w : World) (n : Nat) (lo hi : Nat) : Turned lo hi w (w.drewN n) := ⟨rfl, rfl, rfl, Nat.le_refl _, fun _ _ _ => rfl⟩
theorem below_drawn (w : World) (k : Nat) : Below w.heap.size w (w.drewN k) := ⟨rfl, rfl, rfl, Nat.le_refl _, fun _ _ => rfl⟩
theorem below_alloc (w : World) (o : Obj) : Below w.heap.size w (w.alloc o) := (Below.refl _ _).alloc (Nat.le_refl _) o
theorem Below.more {a b c : World} (h : Below a.heap.size a b) (k : Below b.heap.size b c) : Below a.heap.size a c := h.trans (k.mono h.size)
theorem Turned.setCell (w : World) (g i : Nat) (u : Value) (h1 : lo ≤ g) (h2 : g < hi) : Turned lo hi w (w.setCell ⟨g, i, none⟩ u) :=
  ⟨rfl, rfl, rfl, by simp [World.setCell], fun k _ ho => Below.heap_setCell w ⟨g, i, none⟩ u k (by show k ≠ g; omega)⟩
theorem Below.drawnN {a : World} (h : Below B a w) (n : Nat) : Below B a (w.drewN n) := ⟨h.os, h.tape, h.output, h.size, h.block⟩
theorem Below.far {a : World} (h : Below a.heap.size a w) (k : Turned 0 0 w w') : Below a.heap.size a w' := ⟨k.os.trans h.os, k.tape.trans h.tape, k.output.trans h.output, Nat.le_trans h.size k.size, fun i hi => (k.block i (Nat.lt_of_lt_of_le hi h.size) (.inr (Nat.zero_le _))).trans (h.block i hi)⟩
theorem Below.thenTurned (h : Below B w w') (k : Turned lo hi w' w'') (hB : B ≤ lo) (hz : B ≤ w'.heap.size) : Below B w w'' := h.trans (k.below hB hz)
end

/-- the slice's address, where it reads as xs, cell by cell, in blocks lo..hi-1 -/
def RowIn (lo hi : Nat) (w : World) (a : Option Addr) (xs : List Value) : Prop :=
  xs = [] ∨ ∃ b off, a = some ⟨b, off, none⟩ ∧ lo ≤ b ∧ b < hi ∧ ∀ i u, xs[i]? = some u → w.cell? ⟨b, off + i, none⟩ = some u
/-- the same, and the cells may be written -/
def OwnAt (lo hi : Nat) (w : World) (T : TypeId) (a : Option Addr) (xs : List Value) : Prop :=
  xs = [] ∨ ∃ g off cur, a = some ⟨g, off, none⟩ ∧ lo ≤ g ∧ g < hi ∧ w.heap[g]? = some (.cells cur T (0, 0)) ∧ ∀ i u, xs[i]? = some u → cur[off + i]? = some u

section
variable {lo hi lo' hi' : Nat} {w w' : World} {a : Option Addr} {xs : List Value} {T : TypeId}
theorem RowIn.nil (lo hi : Nat) (w : World) (a : Option Addr) : RowIn lo hi w a [] := .inl rfl
theorem RowIn.turned (h : RowIn lo hi w a xs) (t : Turned lo' hi' w w') (hz : hi ≤ w.heap.size) (hd : hi ≤ lo' ∨ hi' ≤ lo) : RowIn lo hi w' a xs := by
  rcases h with h | ⟨b, off, ha, h1, h2, hc⟩
  · exact .inl h
  · exact .inr ⟨b, off, ha, h1, h2, fun i u hu => (World.cell?_of_block (w := w) (t.block b (by omega) (by omega))).trans (hc i u hu)⟩
theorem RowIn.below (h : RowIn lo hi w a xs) (t : Below w.heap.size w w') (hz : hi ≤ w.heap.size) : RowIn lo hi w' a xs := h.turned (Turned.of_below t hi hi) hz (.inl (Nat.le_refl _))
theorem RowIn.mono (h : RowIn lo hi w a xs) (h1 : lo' ≤ lo) (h2 : hi ≤ hi') : RowIn lo' hi' w a xs := by
  rcases h with h | ⟨b, off, ha, h3, h4, hc⟩
  · exact .inl h
  · exact .inr ⟨b, off, ha, by omega, by omega, hc⟩
theorem RowIn.at_ (h : RowIn lo hi w a xs) {k : Nat} (hk : k < xs.length) : ∃ b off, a = some ⟨b, off, none⟩ ∧ lo ≤ b ∧ b < hi ∧ ∀ i u, xs[i]? = some u → w.cell? ⟨b, off + i, none⟩ = some u := by
  rcases h with h | h
  · rw [h] at hk; simp at hk
  · exact h
theorem OwnAt.turned (h : OwnAt lo hi w T a xs) (t : Turned lo' hi' w w') (hz : hi ≤ w.heap.size) (hd : hi ≤ lo' ∨ hi' ≤ lo) : OwnAt lo hi w' T a xs := by
  rcases h with h | ⟨b, off, cur, ha, h1, h2, hh, hc⟩
  · exact .inl h
  · exact .inr ⟨b, off, cur, ha, h1, h2, (t.block b (by omega) (by omega)).trans hh, hc⟩
theorem OwnAt.below (h : OwnAt lo hi w T a xs) (t : Below w.heap.size w w') (hz : hi ≤ w.heap.size) : OwnAt lo hi w' T a xs := h.turned (Turned.of_below t hi hi) hz (.inl (Nat.le_refl _))
theorem OwnAt.mono (h : OwnAt lo hi w T a xs) (h1 : lo' ≤ lo) (h2 : hi ≤ hi') : OwnAt lo' hi' w T a xs := by
  rcases h with h | ⟨b, off, cur, ha, h3, h4, hh, hc⟩
  · exact .inl h
  · exact .inr ⟨b, off, cur, ha, by omega, by omega, hh, hc⟩
theorem OwnAt.row (h : OwnAt lo hi w T a xs) : RowIn lo hi w a xs := by
  rcases h with h | ⟨b, off, cur, ha, h1, h2, hh, hc⟩
  · exact .inl h
  · exact .inr ⟨b, off, ha, h1, h2, fun i u hu => (cell_of_row w b (off + i) cur T (0, 0) hh).trans (hc i u hu)⟩
theorem OwnAt.nil (lo hi : Nat) (w : World) (T : TypeId) (a : Option Addr) : OwnAt lo hi w T a [] := .inl rfl
theorem heap_lt {w : World} {g : Nat} {o : Obj} (h : w.heap[g]? = some o) : g < w.heap.size := by
  rcases Nat.lt_or_ge g w.heap.size with hlt | hge
  · exact hlt
  · rw [Array.getElem?_eq_none hge] at h; cases h
theorem OwnAt.of_own {base size n c : Nat} (h : w.ownsRow base T size (.slice a n c) n xs) : OwnAt base w.heap.size w T a xs := by
  rcases h with ⟨hl, ⟨hv, rfl⟩ | ⟨g, cap, cur, hv, hb, hh, hn, hm, hs, ht⟩⟩
  · exact .inl (List.eq_nil_of_length_eq_zero (by simpa using hl))
  · injection hv with ha _ _
    refine .inr ⟨g, 0, cur, ha, hb, heap_lt hh, hh, fun i u hu => ?_⟩
    rw [← ht, List.getElem?_take] at hu
    split at hu
    · simpa using hu
    · cases hu
/-- one cell is written -/
theorem OwnAt.set_ (h : OwnAt lo hi w T a xs) {b off : Nat} (ha : a = some ⟨b, off, none⟩) (k : Nat) (u : Value) : OwnAt lo hi (w.setCell ⟨b, off + k, none⟩ u) T a (xs.set k u) := by
  rcases h with h | ⟨g, o, cur, hg, h1, h2, hh, hc⟩
  · exact .inl (by rw [h]; rfl)
  · rw [ha] at hg
    injection hg with hg
    injection hg with e1 e2 _
    subst e1; subst e2
    refine .inr ⟨b, off, cur.setIfInBounds (off + k) u, ha, h1, h2, by simp [World.setCell, Array.getElem?_modify, hh], fun i v hv => ?_⟩
    rw [List.getElem?_set] at hv
    by_cases hik : k = i
    · subst hik
      rw [if_pos rfl] at hv
      split at hv
      · rename_i hlt
        have := hc k _ (List.getElem?_eq_getElem hlt)
        have hb : off + k < cur.size := (Array.getElem?_eq_some_iff.1 this).1
        rw [Array.getElem?_setIfInBounds_self_of_lt hb]
        exact hv
      · cases hv
    · rw [if_neg hik] at hv
      rw [Array.getElem?_setIfInBounds_ne (by omega)]
      exact hc i v hv
theorem OwnAt.free (h : OwnAt lo hi w T a xs) {b off : Nat} (ha : a = some ⟨b, off, none⟩) {k : Nat} (hk : k < xs.length) (j : Nat) : w.frozen? ⟨b, j, none⟩ = false := by
  rcases h with h | ⟨g, o, cur, hg, h1, h2, hh, hc⟩
  · rw [h] at hk; simp at hk
  · rw [ha] at hg
    injection hg with hg
    injection hg with e1 e2 _
    subst e1; subst e2
    simp [World.frozen?, hh]
theorem OwnAt.cell0 {g : Nat} (h : OwnAt lo hi w T (some ⟨g, 0, none⟩) xs) {k : Nat} (hk : k < xs.length) : ∃ u, xs[k]? = some u ∧ w.cell? ⟨g, k, none⟩ = some u ∧ w.frozen? ⟨g, k, none⟩ = false := by
  obtain ⟨b, off, e, _, _, hc⟩ := h.row.at_ hk
  injection e with e
  injection e with e1 e2 _
  subst e1; subst e2
  refine ⟨xs[k], List.getElem?_eq_getElem hk, ?_, h.free rfl hk k⟩
  have := hc k _ (List.getElem?_eq_getElem hk)
  rwa [Nat.zero_add] at this
theorem OwnAt.set0 {g : Nat} (h : OwnAt lo hi w T (some ⟨g, 0, none⟩) xs) (k : Nat) (u : Value) : OwnAt lo hi (w.setCell ⟨g, k, none⟩ u) T (some ⟨g, 0, none⟩) (xs.set k u) := by
  have := h.set_ rfl k u
  rwa [Nat.zero_add] at this
/-- rows of two types lie in two blocks: a write to the one leaves the other -/
theorem OwnAt.far {U : TypeId} {c : Option Addr} {ys : List Value} (h : OwnAt lo hi w T a xs) (h' : OwnAt lo' hi' w U c ys) (hne : T ≠ U) {b off : Nat} (hc : c = some ⟨b, off, none⟩) {k : Nat} (hk : k < ys.length) (j : Nat) (u : Value) :
    OwnAt lo hi (w.setCell ⟨b, j, none⟩ u) T a xs := by
  rcases h' with h' | ⟨g', o', cur', hg', h1', h2', hh', hc'⟩
  · rw [h'] at hk; simp at hk
  · rw [hc] at hg'
    injection hg' with hg'
    injection hg' with e1 e2 _
    subst e1; subst e2
    rcases h with h | ⟨g, o, cur, hg, h1, h2, hh, hcc⟩
    · exact .inl h
    · refine .inr ⟨g, o, cur, hg, h1, h2, ?_, hcc⟩
      have hgb : g ≠ b := by
        rintro rfl
        rw [hh] at hh'
        injection hh' with e
        injection e with _ e2
        exact hne e2
      exact (Below.heap_setCell w ⟨b, j, none⟩ u g hgb).trans hh
end
theorem Turned.above {lo hi lo' hi' : Nat} {w w' : World} (t : Turned lo' hi' w w') (h : w.heap.size ≤ lo') : Turned lo hi w w' := ⟨t.os, t.tape, t.output, t.size, fun k hk _ => t.block k hk (.inl (by omega))⟩
/-- a row's own block: where another type's row lies is another block -/
theorem OwnAt.narrow {lo hi : Nat} {w : World} {T : TypeId} {a : Option Addr} {xs : List Value} (h : OwnAt lo hi w T a xs) :
    ∃ g, OwnAt g (g + 1) w T a xs ∧ (∀ w', Turned g (g + 1) w w' → Turned lo hi w w') ∧ (∀ w' ys, ys.length = xs.length → OwnAt g (g + 1) w' T a ys → OwnAt lo hi w' T a ys) ∧ ∀ cur V f, w.heap[g]? = some (.cells cur V f) → V = T := by
  rcases h with h | ⟨g, off, cur, ha, h1, h2, hh, hc⟩
  · exact ⟨w.heap.size, .inl h, fun w' t => t.above (Nat.le_refl _), fun w' ys hy _ => .inl (List.eq_nil_of_length_eq_zero (by rw [hy, h]; rfl)), fun cur V f hf => by simp at hf⟩
  · refine ⟨g, .inr ⟨g, off, cur, ha, Nat.le_refl _, Nat.lt_succ_self _, hh, hc⟩, fun w' t => t.mono h1 h2, fun w' ys _ ho => ho.mono h1 h2, fun cur' V f hf => ?_⟩
    rw [hh] at hf
    injection hf with hf
    injection hf with _ e
    exact e.symm
theorem OwnAt.other {lo hi g : Nat} {w w' : World} {U : TypeId} {c : Option Addr} {ys : List Value} (h : OwnAt lo hi w U c ys) (t : Turned g (g + 1) w w') (hg : ∀ cur V f, w.heap[g]? = some (.cells cur V f) → V ≠ U) : OwnAt lo hi w' U c ys := by
  rcases h with h | ⟨b, off, cur, ha, h1, h2, hh, hc⟩
  · exact .inl h
  · refine .inr ⟨b, off, cur, ha, h1, h2, (t.block b (heap_lt hh) ?_).trans hh, hc⟩
    have hne : b ≠ g := by
      rintro rfl
      exact hg _ _ _ hh rfl
    omega
theorem RowIn.other {lo hi g : Nat} {w w' : World} {U : TypeId} {c : Option Addr} {ys : List Value} (h : OwnAt lo hi w U c ys) (t : Turned g (g + 1) w w') (hg : ∀ cur V f, w.heap[g]? = some (.cells cur V f) → V ≠ U) : RowIn lo hi w' c ys := (h.other t hg).row
/-- a struct of three fields in a block of its own -/
def Box3 (w : World) (g : Nat) (T : TypeId) (x y z : Value) : Prop := w.heap[g]? = some (.cells #[x, y, z] T (0, 0))
theorem Box3.lt {w : World} {g : Nat} {T : TypeId} {x y z : Value} (h : Box3 w g T x y z) : g < w.heap.size := heap_lt h
theorem Box3.new {w : World} {g : Nat} (T : TypeId) (x y z : Value) (hg : g = w.heap.size) : Box3 (w.alloc (.cells #[x, y, z] T)) g T x y z := by subst hg; exact heap_alloc_new w _
theorem Box3.alloc {w : World} {g : Nat} {T : TypeId} {x y z : Value} (h : Box3 w g T x y z) (o : Obj) : Box3 (w.alloc o) g T x y z := (Below.heap_alloc w o g h.lt).trans h
theorem Box3.cells {w : World} {g : Nat} {T : TypeId} {x y z : Value} (h : Box3 w g T x y z) : w.cell? ⟨g, 0, none⟩ = some x ∧ w.cell? ⟨g, 1, none⟩ = some y ∧ w.cell? ⟨g, 2, none⟩ = some z :=
  ⟨cell_of_row w g 0 _ _ _ h, cell_of_row w g 1 _ _ _ h, cell_of_row w g 2 _ _ _ h⟩
theorem Box3.free {w : World} {g : Nat} {T : TypeId} {x y z : Value} (h : Box3 w g T x y z) : w.frozen? ⟨g, 0, none⟩ = false ∧ w.frozen? ⟨g, 1, none⟩ = false ∧ w.frozen? ⟨g, 2, none⟩ = false := by
  unfold Box3 at h
  exact ⟨by simp [World.frozen?, h], by simp [World.frozen?, h], by simp [World.frozen?, h]⟩
theorem Box3.turned {lo hi : Nat} {w w' : World} {g : Nat} {T : TypeId} {x y z : Value} (h : Box3 w g T x y z) (t : Turned lo hi w w') (hd : g < lo ∨ hi ≤ g) : Box3 w' g T x y z := (t.block g h.lt hd).trans h
theorem Box3.below {w w' : World} {g : Nat} {T : TypeId} {x y z : Value} (h : Box3 w g T x y z) (t : Below w.heap.size w w') : Box3 w' g T x y z := (t.block g h.lt).trans h
/-- the world of a call under a name of its own -/
theorem named {P : Program} {f : FuncId} {args : Array Value} {X : World} {Q : Ending → World → Prop} (h : ∀ W, W = X → Calls P f args W Q) : Calls P f args X Q := h X rfl
theorem wp_named {P : Program} {c : Code} {Q : Exit → Act → World → Prop} {a : Act} {X : World} (h : ∀ W, W = X → Code.wp P c Q a W) : Code.wp P c Q a X := h X rfl
theorem below_grown (w : World) (k : Nat) (os : Array Obj) : Below w.heap.size w (Sort.grow (w.drewN k) os) :=
  ⟨rfl, rfl, rfl, by simp [Sort.grow], fun i hi => by
    show (w.heap ++ os)[i]? = _
    rw [Array.getElem?_append_left hi]⟩
end C
end Go.Proofs.Ytbcobheiofajeaa
namespace Go.Proofs.Ytbcobheiofajeaa
open Go.RowKit
namespace M

/-- a door: two nodes and a need -/
abbrev Dr := Int × Int × Int
def encD (d : Dr) : List Value := [.int .i64 d.1, .int .i64 d.2.1, .int .i64 d.2.2]
def encDs (l : List Dr) : List Value := l.flatMap encD
def encIs (l : List Int) : List Value := l.map (Value.int .i64)
structure Mz where
  size : Int
  doors : List Dr
  keys : List Int

theorem encIs_len (l : List Int) : (encIs l).length = l.length := by simp [encIs]
theorem encIs_at {l : List Int} {k : Nat} (h : k < l.length) : (encIs l)[k]? = some (.int .i64 l[k]) := by
  unfold encIs; rw [List.getElem?_map, List.getElem?_eq_getElem h]; rfl
theorem encDs_len (l : List Dr) : (encDs l).length = l.length * 3 := by
  unfold encDs; induction l with
  | nil => rfl
  | cons d l ih => simp [encD, ih]; omega
theorem encDs_cons (d : Dr) (l : List Dr) : encDs (d :: l) = encD d ++ encDs l := by simp [encDs]
theorem encDs_append (a b : List Dr) : encDs (a ++ b) = encDs a ++ encDs b := by simp [encDs]
theorem encIs_append (a b : List Int) : encIs (a ++ b) = encIs a ++ encIs b := by simp [encIs]
theorem encDs_take (l : List Dr) (k : Nat) : encDs (l.take k) = (encDs l).take (k * 3) := by
  induction l generalizing k with
  | nil => simp [encDs]
  | cons d l ih =>
    cases k with
    | zero => simp [encDs]
    | succ k =>
      rw [List.take_succ_cons, encDs_cons, encDs_cons, ih, show (k + 1) * 3 = k * 3 + 3 by omega, List.take_append]
      simp [encD]
theorem encDs_drop (l : List Dr) (k : Nat) : encDs (l.drop k) = (encDs l).drop (k * 3) := by
  induction l generalizing k with
  | nil => simp [encDs]
  | cons d l ih =>
    cases k with
    | zero => simp [encDs]
    | succ k =>
      rw [List.drop_succ_cons, encDs_cons, ih, show (k + 1) * 3 = 3 + k * 3 by omega, ← List.drop_drop]
      simp [encD]
theorem encDs_at {l : List Dr} {k : Nat} (h : k < l.length) (j : Nat) (hj : j < 3) : (encDs l)[k * 3 + j]? = (encD l[k])[j]? := by
  induction l generalizing k with
  | nil => simp at h
  | cons d l ih =>
    rw [encDs_cons]
    cases k with
    | zero =>
      rw [Nat.zero_mul, Nat.zero_add, List.getElem?_append_left (by simp [encD]; omega)]
      rfl
    | succ k =>
      rw [List.getElem?_append_right (by simp [encD]; omega)]
      have e : (k + 1) * 3 + j - (encD d).length = k * 3 + j := by simp [encD]; omega
      rw [e, ih (by simpa using h)]
      simp
theorem encDs_at0 {l : List Dr} {k : Nat} (h : k < l.length) : (encDs l)[k * 3]? = some (.int .i64 l[k].1) := encDs_at h 0 (by omega)
theorem encDs_at1 {l : List Dr} {k : Nat} (h : k < l.length) : (encDs l)[k * 3 + 1]? = some (.int .i64 l[k].2.1) := encDs_at h 1 (by omega)
theorem encDs_at2 {l : List Dr} {k : Nat} (h : k < l.length) : (encDs l)[k * 3 + 2]? = some (.int .i64 l[k].2.2) := encDs_at h 2 (by omega)
theorem encDs_inj : ∀ {a b : List Dr}, encDs a = encDs b → a = b
  | [], [], _ => rfl
  | [], _ :: _, h => by simp [encDs, encD] at h
  | _ :: _, [], h => by simp [encDs, encD] at h
  | x :: a, y :: b, h => by
    rw [encDs_cons, encDs_cons] at h
    simp only [encD, List.cons_append, List.nil_append, List.cons.injEq, Value.int.injEq, true_and] at h
    obtain ⟨h1, h2, h3, h4⟩ := h
    rw [encDs_inj h4]
    congr 1
    exact Prod.ext h1 (Prod.ext h2 h3)

-- which numbers are nodes, sets, doors
def inB (x a b : Int) : Bool := decide (a ≤ x ∧ x ≤ b)
def setB (s : Int) : Bool := decide (0 ≤ s ∧ s < 64)
def nodeB (n x : Int) : Bool := decide (0 ≤ x ∧ x < n)
def ltD (d e : Dr) : Bool := decide (d.1 < e.1 ∨ d.1 = e.1 ∧ (d.2.1 < e.2.1 ∨ d.2.1 = e.2.1 ∧ d.2.2 < e.2.2))
def doorB (n : Int) (d : Dr) : Bool := decide (0 ≤ d.1 ∧ d.1 < n ∧ 0 ≤ d.2.1 ∧ d.2.1 < n ∧ d.1 < d.2.1 ∧ 0 ≤ d.2.2 ∧ d.2.2 < 64)
def keysB (l : List Int) : Bool := l.all setB
/-- the doors from a place on: each is one, and they ascend -/
def stepB (n : Int) (l : List Dr) (k : Nat) : Bool := decide (∃ h : k < l.length, doorB n l[k] = true ∧ (0 < k → ltD (l.getD (k - 1) default) l[k] = true))
def doorsB (n : Int) (l : List Dr) : Bool := (List.range l.length).all (stepB n l)
def sizeB (m : Mz) : Bool := decide (1 ≤ m.size ∧ m.size ≤ 12)
def shapeB (m : Mz) : Bool := decide (1 ≤ m.size ∧ m.size ≤ 12 ∧ m.doors.length ≤ 30 ∧ (m.keys.length : Int) = m.size)
def mazeB (m : Mz) : Bool := shapeB m && doorsB m.size m.doors && keysB m.keys

theorem stepB_iff {n : Int} {l : List Dr} {k : Nat} (h : k < l.length) : stepB n l k = true ↔ doorB n l[k] = true ∧ (0 < k → ltD (l.getD (k - 1) default) l[k] = true) := by
  unfold stepB
  rw [decide_eq_true_iff]
  exact ⟨fun ⟨_, h⟩ => h, fun h' => ⟨h, h'⟩⟩
theorem all_range_take {n : Nat} {f : Nat → Bool} : (List.range n).all f = true ↔ ∀ k, k < n → f k = true := by
  rw [List.all_eq_true]
  simp
theorem all_range_no {n k : Nat} {f : Nat → Bool} (hk : k < n) (hf : f k = false) : (List.range n).all f = false := by
  rw [Bool.eq_false_iff]
  intro h
  have := all_range_take.1 h k hk
  rw [hf] at this
  cases this
theorem keysB_iff {l : List Int} : keysB l = true ↔ ∀ k (h : k < l.length), setB l[k] = true := by
  unfold keysB
  rw [List.all_eq_true]
  constructor
  · exact fun h k hk => h _ (List.getElem_mem hk)
  · intro h x hx
    obtain ⟨k, hk, rfl⟩ := List.mem_iff_getElem.1 hx
    exact h k hk
theorem keysB_no {l : List Int} {k : Nat} (h : k < l.length) (hf : setB l[k] = false) : keysB l = false := by
  rw [Bool.eq_false_iff]
  intro h'
  have := keysB_iff.1 h' k h
  rw [hf] at this
  cases this

/-- what a valid maze is -/
structure Valid (m : Mz) : Prop where
  size1 : 1 ≤ m.size
  size12 : m.size ≤ 12
  few : m.doors.length ≤ 30
  keysLen : (m.keys.length : Int) = m.size
  door : ∀ k (h : k < m.doors.length), 0 ≤ m.doors[k].1 ∧ m.doors[k].1 < m.size ∧ 0 ≤ m.doors[k].2.1 ∧ m.doors[k].2.1 < m.size ∧ m.doors[k].1 < m.doors[k].2.1 ∧ 0 ≤ m.doors[k].2.2 ∧ m.doors[k].2.2 < 64
  sorted : ∀ k (h : k + 1 < m.doors.length), ltD m.doors[k] m.doors[k + 1] = true
  key : ∀ k (h : k < m.keys.length), 0 ≤ m.keys[k] ∧ m.keys[k] < 64

theorem valid_of {m : Mz} (h : mazeB m = true) : Valid m := by
  unfold mazeB at h
  rw [Bool.and_eq_true, Bool.and_eq_true] at h
  obtain ⟨⟨h1, h2⟩, h3⟩ := h
  unfold shapeB at h1
  rw [decide_eq_true_iff] at h1
  have hd := all_range_take.1 h2
  refine ⟨h1.1, h1.2.1, h1.2.2.1, h1.2.2.2, fun k hk => ?_, fun k hk => ?_, fun k hk => ?_⟩
  · have := ((stepB_iff hk).1 (hd k hk)).1
    unfold doorB at this
    exact decide_eq_true_iff.1 this
  · have := ((stepB_iff hk).1 (hd (k + 1) hk)).2 (by omega)
    rw [Nat.add_sub_cancel, List.getD_eq_getElem?_getD, List.getElem?_eq_getElem (by omega)] at this
    exact this
  · have := keysB_iff.1 h3 k hk
    unfold setB at this
    exact decide_eq_true_iff.1 this
theorem of_valid {m : Mz} (h : Valid m) : mazeB m = true := by
  unfold mazeB
  rw [Bool.and_eq_true, Bool.and_eq_true]
  refine ⟨⟨?_, ?_⟩, ?_⟩
  · unfold shapeB
    exact decide_eq_true_iff.2 ⟨h.size1, h.size12, h.few, h.keysLen⟩
  · refine all_range_take.2 fun k hk => (stepB_iff hk).2 ⟨?_, fun h0 => ?_⟩
    · unfold doorB
      exact decide_eq_true_iff.2 (h.door k hk)
    · obtain ⟨j, rfl⟩ : ∃ j, k = j + 1 := ⟨k - 1, by omega⟩
      rw [Nat.add_sub_cancel, List.getD_eq_getElem?_getD, List.getElem?_eq_getElem (by omega)]
      exact h.sorted j hk
  · refine keysB_iff.2 fun k hk => ?_
    unfold setB
    exact decide_eq_true_iff.2 (h.key k hk)

theorem ltD_irrefl (d : Dr) : ltD d d = false := by unfold ltD; simp
theorem ltD_trans {a b c : Dr} (h1 : ltD a b = true) (h2 : ltD b c = true) : ltD a c = true := by
  unfold ltD at *; simp only [decide_eq_true_eq] at *; omega
theorem ltD_tri {a b : Dr} (h1 : ltD a b = false) (h2 : ltD b a = false) : a = b := by
  obtain ⟨a1, a2, a3⟩ := a
  obtain ⟨b1, b2, b3⟩ := b
  unfold ltD at *; simp only [decide_eq_false_iff_not] at *
  have e1 : a1 = b1 := by omega
  have e2 : a2 = b2 := by omega
  have e3 : a3 = b3 := by omega
  rw [e1, e2, e3]
end M
end Go.Proofs.Ytbcobheiofajeaa
namespace Go.Proofs.Ytbcobheiofajeaa
open Go.ChangeShapes Go.WideShapes Go.ChangeAt Go.RowKit
open Go.ChangeMaps (open_string shut_string)
namespace C
/-- a maze in memory: its doors and its keys -/
structure MzIn (lo hi : Nat) (w : World) (m : M.Mz) (a : Option Addr) (c : Nat) (b : Option Addr) (d : Nat) : Prop where
  doors : RowIn lo hi w a (M.encDs m.doors)
  keys : RowIn lo hi w b (M.encIs m.keys)
  c1 : m.doors.length ≤ c
  c2 : c ≤ 9223372036854775807
  d1 : m.keys.length ≤ d
  d2 : d ≤ 9223372036854775807
/-- the same, and it may be written -/
structure MzOwn (lo hi : Nat) (w : World) (m : M.Mz) (a : Option Addr) (c : Nat) (b : Option Addr) (d : Nat) : Prop where
  doors : OwnAt lo hi w 103 a (M.encDs m.doors)
  keys : OwnAt lo hi w 3 b (M.encIs m.keys)
  c1 : m.doors.length ≤ c
  c2 : c ≤ 9223372036854775807
  d1 : m.keys.length ≤ d
  d2 : d ≤ 9223372036854775807
section
variable {lo hi lo' hi' : Nat} {w w' : World} {m : M.Mz} {a b : Option Addr} {c d : Nat}
theorem MzOwn.mz (h : MzOwn lo hi w m a c b d) : MzIn lo hi w m a c b d := ⟨h.doors.row, h.keys.row, h.c1, h.c2, h.d1, h.d2⟩
theorem MzIn.turned (h : MzIn lo hi w m a c b d) (t : Turned lo' hi' w w') (hz : hi ≤ w.heap.size) (hd : hi ≤ lo' ∨ hi' ≤ lo) : MzIn lo hi w' m a c b d := ⟨h.doors.turned t hz hd, h.keys.turned t hz hd, h.c1, h.c2, h.d1, h.d2⟩
theorem MzOwn.turned (h : MzOwn lo hi w m a c b d) (t : Turned lo' hi' w w') (hz : hi ≤ w.heap.size) (hd : hi ≤ lo' ∨ hi' ≤ lo) : MzOwn lo hi w' m a c b d := ⟨h.doors.turned t hz hd, h.keys.turned t hz hd, h.c1, h.c2, h.d1, h.d2⟩
theorem MzIn.below (h : MzIn lo hi w m a c b d) (t : Below w.heap.size w w') (hz : hi ≤ w.heap.size) : MzIn lo hi w' m a c b d := h.turned (Turned.of_below t hi hi) hz (.inl (Nat.le_refl _))
theorem MzOwn.below (h : MzOwn lo hi w m a c b d) (t : Below w.heap.size w w') (hz : hi ≤ w.heap.size) : MzOwn lo hi w' m a c b d := h.turned (Turned.of_below t hi hi) hz (.inl (Nat.le_refl _))
theorem MzIn.mono (h : MzIn lo hi w m a c b d) (h1 : lo' ≤ lo) (h2 : hi ≤ hi') : MzIn lo' hi' w m a c b d := ⟨h.doors.mono h1 h2, h.keys.mono h1 h2, h.c1, h.c2, h.d1, h.d2⟩
theorem MzOwn.mono (h : MzOwn lo hi w m a c b d) (h1 : lo' ≤ lo) (h2 : hi ≤ hi') : MzOwn lo' hi' w m a c b d := ⟨h.doors.mono h1 h2, h.keys.mono h1 h2, h.c1, h.c2, h.d1, h.d2⟩
end
def mz0 : M.Mz := ⟨0, [], []⟩
theorem MzOwn.zero (lo hi : Nat) (w : World) : MzOwn lo hi w mz0 none 0 none 0 := ⟨OwnAt.nil _ _ _ _ _, OwnAt.nil _ _ _ _ _, by simp [mz0], by omega, by simp [mz0], by omega⟩
end C
namespace P
theorem own : ownKnob Try.prog.godebug = none := by kernel_rfl
theorem laidOut : laidOutB Try.prog = true := by kernel_rfl
section
variable {H : Type} {enc : TypeId × Value → H} {P : Program}
theorem post_of_below {f : Func} {s : ChangeSpec} {apart fresh handsOn again : Bool} {W W' : World} {args : Array Value} {v : Value} {ds gs : List (DataW H)} {before pa pv : List MemPlace}
    (hW : DataW.Whole enc P f.params.toList s.vars apart W args.toList ds gs before)
    (hres : ∀ (b : Nat) (sp : Nat → Bool) (hd : Bool), DataW.TrodAll enc P W' b sp hd f.resultTypes.toList (v.resultList f.resultTypes.size) (s.fn H (ds ++ gs)).results [])
    (hargs : ∀ sp : Nat → Bool, (∀ p ∈ before, sp p.block = true) → DataW.TrodAll enc P W' 0 sp true f.params.toList args.toList (s.fn H (ds ++ gs)).args pa)
    (hvars : ∀ sp : Nat → Bool, (∀ p ∈ before, sp p.block = true) → DataW.TrodVars enc P W' sp s.vars (s.fn H (ds ++ gs)).vars pv)
    (hps : before = pa ++ pv) (hb : Below W.heap.size W W')
    (hok : ∀ (j : Nat) (t : TypeId) (r : Value), f.resultTypes[j]? = some t → (v.resultList f.resultTypes.size)[j]? = some r → Value.okWide P W' .any 0 t r) :
    s.post enc P f apart fresh handsOn again W args v W' := by
  have hlt : ∀ p ∈ before, p.block < W.heap.size := fun p hp => hW.lt p hp
  have hold : ∀ p ∈ before, (fun b => decide (b < W.heap.size)) p.block = true := fun p hp => by simpa using hlt p hp
  refine ⟨ds, gs, before, [], pa, pv, hW, hres _ _ _, hargs _ hold, hvars _ hold, World.keptBut_mono (fun p hp => ⟨hp, ?_⟩) (hb.frame (· ∈ before)), fun _ => ?_⟩
  · rw [hps, List.mem_append] at hp
    exact Or.inr hp
  · obtain ⟨_, _, _, _, _, hz, hn⟩ := hW
    refine ⟨hok, _, _, ([] ++ pa) ++ pv, ⟨[] ++ pa, pv, trodAll_append (hargs _ (fun _ _ => rfl)) (hres _ _ _), hvars _ (fun _ _ => rfl), rfl, ?_, ?_⟩, ?_⟩
    · intro b off hp
      have hin : MemPlace.cell b off ∈ before := by rw [hps]; simpa using hp
      rw [hb.frozen (hlt _ hin)]
      exact hz b off hin
    · intro ha
      have := hn ha
      rw [hps] at this
      simpa using this
    · intro p hp _
      rw [hps]
      simpa using hp
end
end P
namespace C
theorem row_of {w : World} {x : Addr} {xs : List Value} (hcell : ∀ i u, xs[i]? = some u → w.cell? (x.add i) = some u) : RowIn 0 w.heap.size w (some x) xs := by
  rcases xs with _ | ⟨u0, xs⟩
  · exact .inl rfl
  · obtain ⟨b, off, spot⟩ := x
    have hc := hcell 0 u0 rfl
    have hspot : spot = none := by simpa [Addr.add] using World.cell?_spot hc
    subst hspot
    have hadd : ∀ i, (⟨b, off, none⟩ : Addr).add i = ⟨b, off + i, none⟩ := by
      intro i
      unfold Addr.add
      split
      · rename_i h; subst h; rfl
      · rfl
    have hlt : b < w.heap.size := by
      rcases Nat.lt_or_ge b w.heap.size with h | h
      · exact h
      · rw [hadd] at hc
        simp [World.cell?, Array.getElem?_eq_none h] at hc
    refine .inr ⟨b, off, rfl, Nat.zero_le _, hlt, fun i u hu => ?_⟩
    have := hcell i u hu
    rwa [hadd] at this
theorem add_add (a : Addr) (i j : Nat) : (a.add i).add j = a.add (i + j) := by
  unfold Addr.add
  by_cases hi : i = 0 <;> by_cases hj : j = 0 <;> simp [hi, hj, Nat.add_assoc]
section
variable {H : Type} {enc : TypeId × Value → H} {w : World} {B : Nat} {sp : Nat → Bool} {hd : Bool}
set_option maxRecDepth 4000 in
theorem open_ints_at {a : Option Addr} {len cap : Nat} {x : DataW H × List MemPlace} {fuel : Nat}
    (hf : DataW.trod enc Try.prog w B sp hd fuel 39 [.slice a len cap] = some x) : ∃ l : List Int, len = l.length ∧ RowIn 0 w.heap.size w a (M.encIs l) ∧ l.length ≤ cap ∧ cap ≤ maxLen ∧ ∀ z ∈ l, (Lit.int .i64 z).wf = true := by
  rcases open_ints Try.underlying39 Try.underlying3 (by kernel_rfl) hf with ⟨hcs, _⟩ | ⟨x, l, c, zs, hcs, _, hl, hm, hz, _, hcell, hwf⟩
  · simp at hcs
    obtain ⟨rfl, rfl, rfl⟩ := hcs
    exact ⟨[], rfl, .inl rfl, Nat.zero_le _, Nat.zero_le _, fun s hs => by cases hs⟩
  · simp at hcs
    obtain ⟨rfl, rfl, rfl⟩ := hcs
    have hlz : len ≤ zs.length := by rw [hz]; split <;> omega
    refine ⟨zs.take len, by rw [List.length_take]; omega, row_of fun i u hu => ?_, by rw [List.length_take]; omega, hm, fun z hz => hwf z (List.mem_of_mem_take hz)⟩
    unfold M.encIs at hu
    rw [List.getElem?_map, List.getElem?_take] at hu
    split at hu
    · rename_i hi
      rw [List.getElem?_eq_getElem (by omega)] at hu
      rw [hcell i (by omega), List.getD_eq_getElem?_getD, List.getElem?_eq_getElem (by omega)]
      exact hu
    · cases hu
set_option maxRecDepth 4000 in
theorem door_cells {fuel : Nat} {cs : List Value} {x : DataW H × List MemPlace} (hf : DataW.trod enc Try.prog w B sp hd fuel 103 cs = some x) : ∃ d : M.Dr, cs = M.encD d := by
  obtain ⟨xs, m, rfl, _, hl, hx, hi⟩ := Go.DataW.trod_array Try.underlying103 hf
  have hc : Try.prog.cellsOf 103 = 3 := by kernel_rfl
  have hc1 : Try.prog.cellsOf 3 = 1 := by kernel_rfl
  rw [hc] at hl
  match cs, hl with
  | [u0, u1, u2], _ =>
    have g : ∀ (i : Nat) (hi' : i < 3) (u : Value), ((([u0, u1, u2] : List Value).drop (i * 1)).take 1) = [u] → ∃ z : Int, u = .int .i64 z := by
      intro i hi' u hu
      have h0 := hi i hi'
      rw [hc1, hu] at h0
      have hxi : xs[i]? = some (xs[i]'(by omega)) := List.getElem?_eq_getElem (by omega)
      rw [hxi] at h0
      obtain ⟨z, hz, _⟩ := Go.DataW.trod_int Try.underlying3 h0
      simp at hz
      exact ⟨z, hz⟩
    obtain ⟨z0, rfl⟩ := g 0 (by omega) u0 rfl
    obtain ⟨z1, rfl⟩ := g 1 (by omega) u1 rfl
    obtain ⟨z2, rfl⟩ := g 2 (by omega) u2 rfl
    exact ⟨(z0, z1, z2), rfl⟩
set_option maxRecDepth 4000 in
theorem open_doors_at {a : Option Addr} {len cap : Nat} {x : DataW H × List MemPlace} {fuel : Nat}
    (hf : DataW.trod enc Try.prog w B sp hd fuel 49 [.slice a len cap] = some x) : ∃ l : List M.Dr, len = l.length ∧ RowIn 0 w.heap.size w a (M.encDs l) ∧ l.length ≤ cap ∧ cap ≤ maxLen := by
  have hc : Try.prog.cellsOf 103 = 3 := by kernel_rfl
  rcases Go.Deep.open_slice Try.underlying49 hf with ⟨hcs, _⟩ | ⟨x, l, c, m, n, D, Pl, hcs, _, hl, hm, hmm, _, hi⟩
  · simp at hcs
    obtain ⟨rfl, rfl, rfl⟩ := hcs
    exact ⟨[], rfl, .inl rfl, Nat.zero_le _, Nat.zero_le _⟩
  · simp at hcs
    obtain ⟨rfl, rfl, rfl⟩ := hcs
    have hlm : len ≤ m := by rw [hmm]; split <;> omega
    have hd : ∀ i, ∃ d : M.Dr, i < len → w.cells? B (x.add (i * 3)) 3 = some (M.encD d) := by
      intro i
      by_cases h : i < len
      · obtain ⟨cs', h1, h2⟩ := hi i (by omega)
        rw [hc] at h1
        obtain ⟨d, rfl⟩ := door_cells h2
        exact ⟨d, fun _ => h1⟩
      · exact ⟨default, fun h' => absurd h' h⟩
    let f : Nat → M.Dr := fun i => Classical.choose (hd i)
    have hf' : ∀ i, i < len → w.cells? B (x.add (i * 3)) 3 = some (M.encD (f i)) := fun i => Classical.choose_spec (hd i)
    refine ⟨(List.range len).map f, by simp, row_of fun i u hu => ?_, by simp; omega, hm⟩
    have hil : i < len * 3 := by
      have := (List.getElem?_eq_some_iff.1 hu).1
      rw [M.encDs_len] at this
      simpa using this
    have hk : i / 3 < len := by omega
    have hij : i / 3 * 3 + i % 3 = i := by omega
    have he := M.encDs_at (l := (List.range len).map f) (k := i / 3) (by simpa using hk) (i % 3) (by omega)
    rw [hij, hu] at he
    simp only [List.getElem_map, List.getElem_range] at he
    obtain ⟨_, hcl, hat⟩ := World.cells?_some (hf' _ hk)
    have h3 := hat (i % 3) (by omega)
    rw [add_add, hij] at h3
    rw [h3]
    exact he.symm
set_option maxRecDepth 4000 in
theorem open_maze {v : Value} {x : DataW H} {p : List MemPlace} {r : Reach} {b0 : Nat} (hv : Value.okWide Try.prog w r b0 51 v)
    (h : DataW.Trod enc Try.prog w B sp hd 51 v x p) : ∃ (m : M.Mz) (a : Option Addr) (c : Nat) (b : Option Addr) (d : Nat), v = .agg #[.int .i64 m.size, .slice a m.doors.length c, .slice b m.keys.length d] ∧ MzIn 0 w.heap.size w m a c b d := by
  obtain ⟨v0, v1, v2, y0, y1, y2, n, rfl, _, _, h0, h1, h2⟩ := Go.Joins.open_agg3 Try.underlying51 (by kernel_rfl) (by kernel_rfl) hv h
  obtain ⟨z, hz, _⟩ := Go.DataW.trod_int Try.underlying3 h0
  have hz' : v0 = .int .i64 z := by simpa using hz
  subst hz'
  have e1 : ∃ a l c, v1 = .slice a l c := by
    rcases Go.Deep.open_slice Try.underlying49 h1 with ⟨hcs, _⟩ | ⟨x, l, c, m, n, D, Pl, hcs, _⟩
    · exact ⟨_, _, _, by simpa using hcs⟩
    · exact ⟨_, _, _, by simpa using hcs⟩
  have e2 : ∃ a l c, v2 = .slice a l c := by
    rcases Go.Deep.open_slice Try.underlying39 h2 with ⟨hcs, _⟩ | ⟨x, l, c, m, n, D, Pl, hcs, _⟩
    · exact ⟨_, _, _, by simpa using hcs⟩
    · exact ⟨_, _, _, by simpa using hcs⟩
  obtain ⟨a, l, c, rfl⟩ := e1
  obtain ⟨b, k, d, rfl⟩ := e2
  obtain ⟨ds, rfl, r1, c1, c2⟩ := open_doors_at h1
  obtain ⟨ks, rfl, r2, d1, d2, _⟩ := open_ints_at h2
  unfold maxLen at c2 d2
  exact ⟨⟨z, ds, ks⟩, a, c, b, d, rfl, ⟨r1, r2, c1, by omega, d1, by omega⟩⟩
end
end C
end Go.Proofs.Ytbcobheiofajeaa
namespace Go.Proofs.Ytbcobheiofajeaa
open Go.RowKit
namespace M
/-- rising numbers from k on -/
def marks (k n : Nat) : List Value := (List.range n).map fun i => .int .i64 ((k + i : Nat) : Int)
theorem marks_succ (k n : Nat) : marks k (n + 1) = marks k n ++ [.int .i64 ((k + n : Nat) : Int)] := by
  unfold marks; rw [List.range_succ, List.map_append]; rfl
theorem marks_len (k n : Nat) : (marks k n).length = n := by simp [marks]
theorem marks_at {k n i : Nat} (h : i < n) : (marks k n)[i]? = some (.int .i64 ((k + i : Nat) : Int)) := by
  unfold marks
  rw [List.getElem?_map, List.getElem?_range h]
  rfl
theorem encIs_take (l : List Int) (k : Nat) : encIs (l.take k) = (encIs l).take k := by simp [encIs]
theorem takeI_snoc {l : List Int} {k : Nat} (h : k < l.length) : encIs (l.take (k + 1)) = encIs (l.take k) ++ [.int .i64 l[k]] := by
  rw [List.take_succ_eq_append_getElem h, encIs_append]; rfl
end M
namespace C
theorem infoI : (Try.prog.info? 3).map (fun i => (i.zero, i.size, i.bytes)) = some (some (.int .i64 0), 1, 8) := by kernel_rfl

section
set_option maxHeartbeats 800000
set_option maxRecDepth 20000
theorem szInts_any (w : World) (a : Option Addr) (n c : Nat) (left : Int) (h0 : 0 ≤ left) (h1 : left ≤ 1048576) (hn : n ≤ 9223372036854775807) :
    Calls Try.prog 83 #[.slice a n c, .int .i64 left] w fun e w' => (e = .returned (.int .i64 (if left < n then -1 else left - n))) ∧ w = w' := by
  by_cases hlt : left < (n : Int)
  · rw [if_pos hlt]
    go_enter Try.func83, Try.ntmps83
    go_wp2_with fail
    go_ret
    exact ⟨rfl, rfl⟩
  · rw [if_neg hlt]
    go_enter Try.func83, Try.ntmps83
    go_wp2_with fail
    go_ret
    exact ⟨rfl, rfl⟩
theorem szDoors_any (w : World) (a : Option Addr) (n c : Nat) (left : Int) (h0 : 0 ≤ left) (h1 : left ≤ 1048576) (hn : n ≤ 9223372036854775807) :
    Calls Try.prog 82 #[.slice a n c, .int .i64 left] w fun e w' => (e = .returned (.int .i64 (if left < n then -1 else left - n))) ∧ w = w' := by
  by_cases hlt : left < (n : Int)
  · rw [if_pos hlt]
    go_enter Try.func82, Try.ntmps82
    go_wp2_with fail
    go_ret
    exact ⟨rfl, rfl⟩
  · rw [if_neg hlt]
    go_enter Try.func82, Try.ntmps82
    go_wp2_with fail
    go_ret
    exact ⟨rfl, rfl⟩

theorem toInts_any (w : World) (lo hi : Nat) (a : Option Addr) (c : Nat) (l : List Int) (h : RowIn lo hi w a (M.encIs l)) (hz : hi ≤ w.heap.size) (hl : l.length ≤ 1048576) :
    Calls Try.prog 51 #[.slice a l.length c] w fun e w' => e = .returned (.slice (some ⟨w.heap.size, 0, none⟩) l.length l.length) ∧ OwnAt w.heap.size w'.heap.size w' 3 (some ⟨w.heap.size, 0, none⟩) (M.encIs l) ∧ Below w.heap.size w w' := by
  obtain ⟨i0, hi0, hz0, hz1, hz2⟩ := info_parts infoI
  have h' := Lib.hid h
  clear h
  go_enter Try.func51, Try.ntmps51
  go_wp2_with (at_make; refine wpList_make_full _ rfl _ _ 39 rfl w.heap.size 3 i0 (.int .i64 0) 1 Try.underlying39 hi0 hz0 hz1 .i64 .i64 _ _ l.length rfl rfl rfl rfl (by rw [hz2]; omega) (by unfold maxLen; omega) (Nat.le_refl _) ?_; intro w1 hown1 hgrow1)
  have hb1 : Below w.heap.size w w1 := (Below.refl _ _).grown hgrow1 (Nat.le_refl _) (fun k e => by cases e)
  have hx1 : ∃ xs : List Value, w1.ownsRow w.heap.size 3 1 (.slice (some ⟨w.heap.size, 0, none⟩) l.length l.length) l.length xs := ⟨_, hown1⟩
  have HB1 := Lib.hid hb1
  have HX1 := Lib.hid hx1
  clear hown1 hgrow1 hb1 hx1
  go_wp2_with fail
  go_loopw [4] (fun i wr => ∃ (k : Nat) (xs : List Value), k ≤ l.length ∧ i = .int .i64 k ∧ xs.take k = M.encIs (l.take k) ∧
      wr.ownsRow w.heap.size 3 1 (.slice (some ⟨w.heap.size, 0, none⟩) l.length l.length) l.length xs ∧ Below w.heap.size w wr) (fun i _ => l.length - (intOf i).toNat)
  case atStart =>
    obtain ⟨xs, hx⟩ := HX1.out
    exact ⟨0, xs, Nat.zero_le _, rfl, by simp [M.encIs], hx, HB1.out⟩
  case round =>
    obtain ⟨k, xs, hk, rfl, ht, hown, hnx⟩ := hrel
    have HT := Lib.hid ht
    have HO := Lib.hid hown
    have HN := Lib.hid hnx
    have hxl : xs.length = l.length := by have := hown.1; omega
    clear ht hown hnx
    by_cases hlt : k < l.length
    · obtain ⟨b, off, rfl, _, hb, hcell0⟩ := h'.out.at_ (k := k) (by rw [M.encIs_len]; exact hlt)
      have hcell : wr.cell? ⟨b, off + k, none⟩ = some (.int .i64 l[k]) := (HN.out.cell (p := ⟨b, off + k, none⟩) (Nat.lt_of_lt_of_le hb hz)).trans (hcell0 k _ (M.encIs_at hlt))
      obtain ⟨u, hu⟩ : ∃ u, xs[k]? = some u := ⟨_, List.getElem?_eq_getElem (by omega)⟩
      have hdst : wr.cell? ⟨w.heap.size, k, none⟩ = some u := by
        rw [HO.out.cellAt k (by omega), hu]
      have hfr : wr.frozen? ⟨w.heap.size, k, none⟩ = false := HO.out.frozenAt k
      have HS := Lib.hid (HO.out.stored k (.int .i64 l[k]))
      clear hcell0 hu
      have HX := Lib.hid hxl
      clear hxl
      go_wp2_with fail
      go_roundw
      case rel =>
        refine ⟨k + 1, xs.set k (.int .i64 l[k]), by omega, by go_num, ?_, HS.out.1, HN.out.setCell (p := ⟨w.heap.size, k, none⟩) (Nat.le_refl _) _⟩
        have h1 : k < xs.length := by have := HX.out; omega
        rw [List.take_succ_eq_append_getElem (by simpa using h1), List.take_set_of_le (Nat.le_refl _), HT.out, M.takeI_snoc hlt, List.getElem_set_self]
      case measure => simp [intOf]; omega
    · have HA : Hid (xs = M.encIs l) := Lib.hid (by
        have := HT.out
        rwa [List.take_of_length_le (by omega), List.take_of_length_le (by omega)] at this)
      go_wp2_with fail
      go_ret
      exact ⟨rfl, by have := HO.out; rw [HA.out] at this; exact OwnAt.of_own this, HN.out⟩

theorem eqInts_any (w : World) (lo hi lo' hi' : Nat) (a b : Option Addr) (c1 c2 : Nat) (l : List Int) (hl : l.length ≤ 9223372036854775806) (h1 : RowIn lo hi w a (M.encIs l)) (h2 : RowIn lo' hi' w b (M.encIs l)) :
    Calls Try.prog 28 #[.slice a l.length c1, .slice b l.length c2] w fun e w' => e = .returned (.bool true) ∧ ∃ m, w' = w.drewN m := by
  have h1' := Lib.hid h1
  have h2' := Lib.hid h2
  clear h1 h2
  go_enter Try.func28, Try.ntmps28
  go_wp2_with fail
  go_loopw [5] (fun i wr => ∃ (k m : Nat), k ≤ l.length ∧ i = .int .i64 k ∧ wr = w.drewN m) (fun i _ => l.length - (intOf i).toNat)
  case atStart => exact ⟨0, 0, Nat.zero_le _, rfl, rfl⟩
  case round =>
    obtain ⟨k, m, hk, rfl, rfl⟩ := hrel
    by_cases hlt : k < l.length
    · obtain ⟨ab, ao, rfl, _, _, hca0⟩ := h1'.out.at_ (k := k) (by rw [M.encIs_len]; exact hlt)
      obtain ⟨bb, bo, rfl, _, _, hcb0⟩ := h2'.out.at_ (k := k) (by rw [M.encIs_len]; exact hlt)
      have hca := hca0 k _ (M.encIs_at hlt)
      have hcb := hcb0 k _ (M.encIs_at hlt)
      clear hca0 hcb0
      go_wp2_with fail
      go_quiet (fail)
      go_wp2_with fail
      go_roundw
      case rel => exact ⟨k + 1, _, by omega, by go_num, rfl⟩
      case measure => simp [intOf]; omega
    · go_wp2_with fail
      go_ret
      exact ⟨rfl, _, rfl⟩

theorem markInts_any (w : World) (lo hi : Nat) (a : Option Addr) (c n k0 : Nat) (xs0 : List Value) (hn : xs0.length = n) (hl : n ≤ 1073741824) (hk0 : k0 ≤ 4294967296) (h : OwnAt lo hi w 3 a xs0) :
    Calls Try.prog 29 #[.slice a n c, .int .i64 k0] w fun e w' => e = .returned (.int .i64 ((k0 + n : Nat) : Int)) ∧ OwnAt lo hi w' 3 a (M.marks k0 n) ∧ Turned lo hi w w' := by
  have h' := Lib.hid h
  have HN0 := Lib.hid hn
  clear h hn
  go_enter Try.func29, Try.ntmps29
  go_wp2_with fail
  go_loopw [1, 5] (fun m i wr => ∃ (k : Nat) (xs : List Value), k ≤ n ∧ i = .int .i64 k ∧ m = .int .i64 ((k0 + k : Nat) : Int) ∧ xs.length = n ∧ xs.take k = M.marks k0 k ∧
      OwnAt lo hi wr 3 a xs ∧ Turned lo hi w wr) (fun _ i _ => n - (intOf i).toNat)
  case atStart => exact ⟨0, xs0, Nat.zero_le _, rfl, rfl, HN0.out, rfl, h'.out, Turned.refl _ _ _⟩
  case round =>
    obtain ⟨k, xs, hk, rfl, rfl, hxl, ht, hown, hnx⟩ := hrel
    have HT := Lib.hid ht
    have HX := Lib.hid hxl
    clear ht hxl
    by_cases hlt : k < n
    · have hkx : k < xs.length := by have := HX.out; omega
      obtain ⟨b, off, ha, h1, h2, hc⟩ := hown.row.at_ hkx
      subst ha
      obtain ⟨u, hu⟩ : ∃ u, xs[k]? = some u := ⟨_, List.getElem?_eq_getElem hkx⟩
      have hdst : wr.cell? ⟨b, off + k, none⟩ = some u := hc k u hu
      have hfr : wr.frozen? ⟨b, off + k, none⟩ = false := hown.free rfl hkx _
      have HS := Lib.hid (hown.set_ rfl k (.int .i64 ((k0 + k : Nat) : Int)))
      have HN := Lib.hid (hnx.trans (Turned.setCell wr b (off + k) (.int .i64 ((k0 + k : Nat) : Int)) h1 h2))
      clear hu hc hown hnx
      go_wp2_with fail
      go_roundw
      case rel =>
        refine ⟨k + 1, xs.set k (.int .i64 ((k0 + k : Nat) : Int)), by omega, by go_num, by go_num, by rw [List.length_set]; exact HX.out, ?_, HS.out, HN.out⟩
        rw [List.take_succ_eq_append_getElem (by simpa using hkx), List.take_set_of_le (Nat.le_refl _), HT.out, M.marks_succ, List.getElem_set_self]
      case measure => simp [intOf]; omega
    · obtain rfl : k = n := by omega
      have HO := Lib.hid hown
      have HN := Lib.hid hnx
      clear hown hnx
      go_wp2_with fail
      go_ret
      refine ⟨rfl, ?_, HN.out⟩
      have e : xs = M.marks k0 k := by
        have := HT.out
        rwa [List.take_of_length_le (by have := HX.out; omega)] at this
      rw [← e]
      exact HO.out
theorem heldInts_any (w : World) (lo hi : Nat) (a : Option Addr) (c n k0 : Nat) (hl : n ≤ 1073741824) (hk0 : k0 ≤ 4294967296) (h : RowIn lo hi w a (M.marks k0 n)) :
    Calls Try.prog 30 #[.slice a n c, .int .i64 k0] w fun e w' => e = .returned (.int .i64 ((k0 + n : Nat) : Int)) ∧ w = w' := by
  have h' := Lib.hid h
  clear h
  go_enter Try.func30, Try.ntmps30
  go_wp2_with fail
  go_loop [1, 5] (fun m i => ∃ (k : Nat), k ≤ n ∧ i = .int .i64 k ∧ m = .int .i64 ((k0 + k : Nat) : Int)) (fun _ i => n - (intOf i).toNat)
  case atStart => exact ⟨0, Nat.zero_le _, rfl, rfl⟩
  case round =>
    obtain ⟨k, hk, rfl, rfl⟩ := hrel
    by_cases hlt : k < n
    · obtain ⟨b, off, rfl, _, _, hc0⟩ := h'.out.at_ (k := k) (by rw [M.marks_len]; exact hlt)
      have hc := hc0 k _ (M.marks_at hlt)
      clear hc0
      go_wp2_with fail
      go_round
      case rel => exact ⟨k + 1, by omega, by go_num, by go_num⟩
      case measure => simp [intOf]; omega
    · obtain rfl : k = n := by omega
      go_wp2_with fail
      go_ret
      exact ⟨rfl, rfl⟩
end
end C
end Go.Proofs.Ytbcobheiofajeaa
namespace Go.Proofs.Ytbcobheiofajeaa
open Go.RowKit
namespace C
theorem infoD : (Try.prog.info? 103).map (fun i => (i.zero, i.size, i.bytes)) = some (some (.agg #[.int .i64 0, .int .i64 0, .int .i64 0]), 3, 24) := by kernel_rfl

set_option maxHeartbeats 800000
set_option maxRecDepth 20000
/-- an array of three is copied -/
theorem toDoor_any (w : World) (d : M.Dr) : Calls Try.prog 117 #[.agg #[.int .i64 d.1, .int .i64 d.2.1, .int .i64 d.2.2]] w fun e w' => e = .returned (.agg #[.int .i64 d.1, .int .i64 d.2.1, .int .i64 d.2.2]) ∧ Below w.heap.size w w' := by
  go_enter Try.func117, Try.ntmps117
  go_wp2_with fail
  refine wp_loop_rounds 4 ?_
  rw [rounds_succ]
  go_wp2_with fail
  rw [rounds_succ]
  go_wp2_with fail
  rw [rounds_succ]
  go_wp2_with fail
  rw [rounds_succ]
  go_wp2_with fail
  refine bodyPost_ret (v := .agg #[.int .i64 d.1, .int .i64 d.2.1, .int .i64 d.2.2]) (by simp [results, Try.results117, go_sem]) rfl ⟨rfl, (((Below.refl _ _).alloc (Nat.le_refl _) _).alloc (by simp) _).alloc (by simp; omega) _⟩
theorem eqDoor_any (w : World) (d : M.Dr) : Calls Try.prog 120 #[.agg #[.int .i64 d.1, .int .i64 d.2.1, .int .i64 d.2.2], .agg #[.int .i64 d.1, .int .i64 d.2.1, .int .i64 d.2.2]] w fun e w' => e = .returned (.bool true) ∧ Below w.heap.size w w' := by
  go_enter Try.func120, Try.ntmps120
  go_wp2_with fail
  refine wp_loop_rounds 4 ?_
  rw [rounds_succ]
  go_wp2_with fail
  go_quiet (fail)
  go_wp2_with fail
  rw [rounds_succ]
  go_wp2_with fail
  go_quiet (fail)
  go_wp2_with fail
  rw [rounds_succ]
  go_wp2_with fail
  go_quiet (fail)
  go_wp2_with fail
  rw [rounds_succ]
  go_wp2_with fail
  go_ret
  exact ⟨rfl, Below.drawnN (((Below.refl _ _).alloc (Nat.le_refl _) _).alloc (by simp) _) _⟩
theorem szMaze_any (w : World) (m : M.Mz) (a b : Option Addr) (c d : Nat) (left : Int) (h0 : 0 ≤ left) (h1 : left ≤ 1048576) (hn : m.doors.length ≤ 9223372036854775807) (hk : m.keys.length ≤ 9223372036854775807) :
    Calls Try.prog 43 #[.agg #[.int .i64 m.size, .slice a m.doors.length c, .slice b m.keys.length d], .int .i64 left] w
      fun e w' => e = .returned (.int .i64 (if left < m.doors.length + m.keys.length then -1 else left - m.doors.length - m.keys.length)) ∧ Below w.heap.size w w' := by
  by_cases hlt : left < m.doors.length
  · rw [if_pos (by omega)]
    go_enter Try.func43, Try.ntmps43
    go_wp2_with fail
    refine (szDoors_any _ a _ _ left h0 h1 hn).mono ?_
    rintro e w1 ⟨rfl, rfl⟩
    rw [if_pos (by omega)]
    go_wp2_with fail
    go_ret
    exact ⟨rfl, below_alloc _ _⟩
  · by_cases hlt2 : left - m.doors.length < m.keys.length
    · rw [if_pos (by omega)]
      go_enter Try.func43, Try.ntmps43
      go_wp2_with fail
      refine (szDoors_any _ a _ _ left h0 h1 hn).mono ?_
      rintro e w1 ⟨rfl, rfl⟩
      rw [if_neg (by omega)]
      go_wp2_with fail
      refine (szInts_any _ b _ _ (left - m.doors.length) (by omega) (by omega) hk).mono ?_
      rintro e w1 ⟨rfl, rfl⟩
      rw [if_pos (by omega)]
      go_wp2_with fail
      go_ret
      exact ⟨rfl, below_alloc _ _⟩
    · rw [if_neg (by omega)]
      go_enter Try.func43, Try.ntmps43
      go_wp2_with fail
      refine (szDoors_any _ a _ _ left h0 h1 hn).mono ?_
      rintro e w1 ⟨rfl, rfl⟩
      rw [if_neg (by omega)]
      go_wp2_with fail
      refine (szInts_any _ b _ _ (left - m.doors.length) (by omega) (by omega) hk).mono ?_
      rintro e w1 ⟨rfl, rfl⟩
      rw [if_neg (by omega)]
      go_wp2_with fail
      go_ret
      exact ⟨rfl, below_alloc _ _⟩
/-- a maze handed back in memory of the call's own -/
def MzPost (w : World) (m : M.Mz) (e : Ending) (w' : World) : Prop :=
  ∃ a c b d, e = .returned (.agg #[.int .i64 m.size, .slice a m.doors.length c, .slice b m.keys.length d]) ∧ MzOwn w.heap.size w'.heap.size w' m a c b d ∧ Below w.heap.size w w'
/-- the same, and whether it could be done -/
def MzOkPost (w : World) (m : M.Mz) (ok : Bool) (e : Ending) (w' : World) : Prop :=
  ∃ a c b d, e = .returned (.tuple #[.agg #[.int .i64 m.size, .slice a m.doors.length c, .slice b m.keys.length d], .bool ok]) ∧ MzOwn w.heap.size w'.heap.size w' m a c b d ∧ Below w.heap.size w w'

theorem takeD_snoc {l : List M.Dr} {k : Nat} (h : k < l.length) : M.encDs (l.take (k + 1)) = M.encDs (l.take k) ++ M.encD l[k] := by
  rw [List.take_succ_eq_append_getElem h, M.encDs_append]; simp [M.encDs]
theorem set3 {α : Type} (xs : List α) (k : Nat) (u v z : α) (h : k * 3 + 3 ≤ xs.length) : (((xs.set (k * 3) u).set (k * 3 + 1) v).set (k * 3 + 2) z).take ((k + 1) * 3) = xs.take (k * 3) ++ [u, v, z] := by
  have e : xs = xs.take (k * 3) ++ xs.drop (k * 3) := (List.take_append_drop _ _).symm
  have hA : (xs.take (k * 3)).length = k * 3 := by rw [List.length_take]; omega
  have hB : 3 ≤ (xs.drop (k * 3)).length := by rw [List.length_drop]; omega
  generalize xs.take (k * 3) = A at e hA ⊢
  generalize xs.drop (k * 3) = B at e hB
  subst e
  match B, hB with
  | p :: q :: r :: B, _ =>
    rw [List.set_append, if_neg (by omega), List.set_append, if_neg (by omega), List.set_append, if_neg (by omega), hA, Nat.sub_self]
    have e1 : k * 3 + 1 - k * 3 = 1 := by omega
    have e2 : k * 3 + 2 - k * 3 = 2 := by omega
    rw [e1, e2, show (k + 1) * 3 = A.length + 3 by omega, List.take_append]
    simp [List.take_of_length_le]
theorem toDoors_any (w : World) (lo hi : Nat) (a : Option Addr) (c : Nat) (l : List M.Dr) (h : RowIn lo hi w a (M.encDs l)) (hz : hi ≤ w.heap.size) (hl : l.length ≤ 1048576) :
    Calls Try.prog 86 #[.slice a l.length c] w fun e w' => e = .returned (.slice (some ⟨w.heap.size, 0, none⟩) l.length l.length) ∧ OwnAt w.heap.size w'.heap.size w' 103 (some ⟨w.heap.size, 0, none⟩) (M.encDs l) ∧ Below w.heap.size w w' := by
  obtain ⟨i0, hi0, hz0, hz1, hz2⟩ := info_parts infoD
  have h' := Lib.hid h
  clear h
  go_enter Try.func86, Try.ntmps86
  go_wp2_with (at_make; refine wpList_make_full _ rfl _ _ 49 rfl w.heap.size 103 i0 (.agg #[.int .i64 0, .int .i64 0, .int .i64 0]) 3 Try.underlying49 hi0 hz0 hz1 .i64 .i64 _ _ l.length rfl rfl rfl rfl (by rw [hz2]; omega) (by unfold maxLen; omega) (Nat.le_refl _) ?_; intro w1 hown1 hgrow1)
  have hb1 : Below w.heap.size w w1 := (Below.refl _ _).grown hgrow1 (Nat.le_refl _) (fun k e => by cases e)
  have hx1 : ∃ xs : List Value, xs.length = l.length * 3 ∧ OwnAt w.heap.size w1.heap.size w1 103 (some ⟨w.heap.size, 0, none⟩) xs := ⟨_, hown1.1, OwnAt.of_own hown1⟩
  have HB1 := Lib.hid hb1
  have HX1 := Lib.hid hx1
  clear hown1 hgrow1 hb1 hx1
  go_wp2_with fail
  go_loopw [4] (fun i wr => ∃ (k : Nat) (xs : List Value), k ≤ l.length ∧ i = .int .i64 k ∧ xs.length = l.length * 3 ∧ xs.take (k * 3) = M.encDs (l.take k) ∧
      OwnAt w.heap.size wr.heap.size wr 103 (some ⟨w.heap.size, 0, none⟩) xs ∧ Below w.heap.size w wr) (fun i _ => l.length - (intOf i).toNat)
  case atStart =>
    obtain ⟨xs, hx, ho⟩ := HX1.out
    exact ⟨0, xs, Nat.zero_le _, rfl, hx, by simp [M.encDs], ho, HB1.out⟩
  case round =>
    obtain ⟨k, xs, hk, rfl, hxl, ht, hown, hnx⟩ := hrel
    have HT := Lib.hid ht
    have HN := Lib.hid hnx
    have HX := Lib.hid hxl
    clear ht hnx hxl
    by_cases hlt : k < l.length
    · obtain ⟨b, off, rfl, _, hb, hcell0⟩ := h'.out.at_ (k := k * 3) (by rw [M.encDs_len]; omega)
      have c0 : wr.cell? ⟨b, off + k * 3, none⟩ = some (.int .i64 l[k].1) := (HN.out.cell (p := ⟨b, off + k * 3, none⟩) (Nat.lt_of_lt_of_le hb hz)).trans (hcell0 _ _ (M.encDs_at0 hlt))
      have c1 : wr.cell? ⟨b, off + k * 3 + 1, none⟩ = some (.int .i64 l[k].2.1) := (HN.out.cell (p := ⟨b, off + k * 3 + 1, none⟩) (Nat.lt_of_lt_of_le hb hz)).trans (hcell0 _ _ (M.encDs_at1 hlt))
      have c2 : wr.cell? ⟨b, off + k * 3 + 2, none⟩ = some (.int .i64 l[k].2.2) := (HN.out.cell (p := ⟨b, off + k * 3 + 2, none⟩) (Nat.lt_of_lt_of_le hb hz)).trans (hcell0 _ _ (M.encDs_at2 hlt))
      have HO := Lib.hid hown
      clear hcell0 hown
      go_wp2_with fail
      refine (toDoor_any _ _).mono ?_
      rintro e w2 ⟨rfl, hb2⟩
      have own2 := HO.out.below hb2 (Nat.le_refl _)
      have hz2 := hb2.size
      obtain ⟨u0, _, d0, f0⟩ := own2.cell0 (k := k * 3) (by have := HX.out; omega)
      obtain ⟨u1, _, d1, f1⟩ := own2.cell0 (k := k * 3 + 1) (by have := HX.out; omega)
      obtain ⟨u2, _, d2, f2⟩ := own2.cell0 (k := k * 3 + 2) (by have := HX.out; omega)
      have HS := Lib.hid (((own2.set0 (k * 3) (.int .i64 l[k].1)).set0 (k * 3 + 1) (.int .i64 l[k].2.1)).set0 (k * 3 + 2) (.int .i64 l[k].2.2))
      have HN2 := Lib.hid ((((HN.out.trans (hb2.mono HN.out.size)).setCell (p := ⟨w.heap.size, k * 3, none⟩) (Nat.le_refl _) (.int .i64 l[k].1)).setCell (p := ⟨w.heap.size, k * 3 + 1, none⟩) (Nat.le_refl _) (.int .i64 l[k].2.1)).setCell (p := ⟨w.heap.size, k * 3 + 2, none⟩) (Nat.le_refl _) (.int .i64 l[k].2.2))
      have H3 := Lib.hid (set3 xs k (.int .i64 l[k].1) (.int .i64 l[k].2.1) (.int .i64 l[k].2.2) (by have := HX.out; omega))
      clear own2 hb2
      go_wp2_with fail
      go_roundw
      case rel =>
        refine ⟨k + 1, _, by omega, by go_num, ?_, ?_, HS.out.mono (Nat.le_refl _) (by simpa [World.setCell] using hz2), HN2.out⟩
        · simp only [List.length_set]; exact HX.out
        · rw [H3.out, HT.out, takeD_snoc hlt]; rfl
      case measure => simp [intOf]; omega
    · have HA : Hid (xs = M.encDs l) := Lib.hid (by
        have := HT.out
        rwa [List.take_of_length_le (by have := HX.out; omega), List.take_of_length_le (by omega)] at this)
      have HO := Lib.hid hown
      clear hown
      go_wp2_with fail
      go_ret
      exact ⟨rfl, by have := HO.out; rwa [HA.out] at this, HN.out⟩
theorem eqDoors_any (w : World) (lo hi lo' hi' : Nat) (a b : Option Addr) (c1 c2 : Nat) (l : List M.Dr) (hl : l.length ≤ 9223372036854775806) (h1 : RowIn lo hi w a (M.encDs l)) (h2 : RowIn lo' hi' w b (M.encDs l)) (hz1 : hi ≤ w.heap.size) (hz2 : hi' ≤ w.heap.size) :
    Calls Try.prog 88 #[.slice a l.length c1, .slice b l.length c2] w fun e w' => e = .returned (.bool true) ∧ Below w.heap.size w w' := by
  have h1' := Lib.hid h1
  have h2' := Lib.hid h2
  clear h1 h2
  go_enter Try.func88, Try.ntmps88
  go_wp2_with fail
  go_loopw [5] (fun i wr => ∃ (k : Nat), k ≤ l.length ∧ i = .int .i64 k ∧ Below w.heap.size w wr) (fun i _ => l.length - (intOf i).toNat)
  case atStart => exact ⟨0, Nat.zero_le _, rfl, Below.refl _ _⟩
  case round =>
    obtain ⟨k, hk, rfl, hnx⟩ := hrel
    have HN := Lib.hid hnx
    have hzr := hnx.size
    clear hnx
    by_cases hlt : k < l.length
    · obtain ⟨ab, ao, rfl, _, hab, hca0⟩ := (h1'.out.below HN.out hz1).at_ (k := k * 3) (by rw [M.encDs_len]; omega)
      obtain ⟨bb, bo, rfl, _, hbb, hcb0⟩ := (h2'.out.below HN.out hz2).at_ (k := k * 3) (by rw [M.encDs_len]; omega)
      have a0 := hca0 _ _ (M.encDs_at0 hlt)
      have a1 : wr.cell? ⟨ab, ao + k * 3 + 1, none⟩ = some (.int .i64 l[k].2.1) := hca0 _ _ (M.encDs_at1 hlt)
      have a2 : wr.cell? ⟨ab, ao + k * 3 + 2, none⟩ = some (.int .i64 l[k].2.2) := hca0 _ _ (M.encDs_at2 hlt)
      have b0 := hcb0 _ _ (M.encDs_at0 hlt)
      have b1 : wr.cell? ⟨bb, bo + k * 3 + 1, none⟩ = some (.int .i64 l[k].2.1) := hcb0 _ _ (M.encDs_at1 hlt)
      have b2 : wr.cell? ⟨bb, bo + k * 3 + 2, none⟩ = some (.int .i64 l[k].2.2) := hcb0 _ _ (M.encDs_at2 hlt)
      clear hca0 hcb0
      go_wp2_with fail
      go_region_with (go_at_call 120; refine (eqDoor_any _ _).mono ?_; rintro e w2 ⟨rfl, hb2⟩)
      all_goals
        have HN2 := Lib.hid (HN.out.drew.trans (hb2.mono hzr))
        clear hb2
        go_wp2_with fail
        go_roundw
        case rel => exact ⟨k + 1, by omega, by go_num, HN2.out⟩
        case measure => simp [intOf]; omega
    · go_wp2_with fail
      go_ret
      exact ⟨rfl, HN.out⟩
end C
end Go.Proofs.Ytbcobheiofajeaa
namespace Go.Proofs.Ytbcobheiofajeaa
open Go.RowKit
namespace C
set_option maxHeartbeats 800000
set_option maxRecDepth 20000
theorem toMaze_any (w : World) (lo hi : Nat) (m : M.Mz) (a b : Option Addr) (c d : Nat) (h : MzIn lo hi w m a c b d) (hz : hi ≤ w.heap.size) (h1 : m.doors.length ≤ 1048576) (h2 : m.keys.length ≤ 1048576) :
    Calls Try.prog 45 #[.agg #[.int .i64 m.size, .slice a m.doors.length c, .slice b m.keys.length d]] w (MzPost w m) := by
  have H := Lib.hid h
  clear h
  go_enter Try.func45, Try.ntmps45
  go_wp2_with fail
  refine named ?_
  intro W hW
  have hb : Below w.heap.size w W := by rw [hW]; exact (((Below.refl _ _).alloc (Nat.le_refl _) _).alloc (by simp) _).alloc (by simp; omega) _
  have x1 : Box3 W w.heap.size 51 (.int .i64 m.size) (.slice a m.doors.length c) (.slice b m.keys.length d) := by rw [hW]; exact ((Box3.new _ _ _ _ rfl).alloc _).alloc _
  have x2 : Box3 W (w.heap.size + 1) 55 (.int .i64 0) (.slice none 0 0) (.slice none 0 0) := by rw [hW]; exact (Box3.new _ _ _ _ (by simp)).alloc _
  have x3 : Box3 W (w.heap.size + 1 + 1) 55 (.int .i64 m.size) (.slice none 0 0) (.slice none 0 0) := by rw [hW]; exact Box3.new _ _ _ _ (by simp)
  clear hW
  have hz1 := x3.lt
  have H1 := Lib.hid (H.out.below hb hz)
  have hzw := hb.size
  refine (toDoors_any W lo hi a c m.doors H1.out.doors (by omega) h1).mono ?_
  rintro e w1 ⟨rfl, o1, hb1⟩
  have y1 := x1.below hb1
  have y2 := Lib.hid (x2.below hb1)
  have y3 := x3.below hb1
  obtain ⟨c10, c11, c12⟩ := y1.cells
  obtain ⟨c30, c31, c32⟩ := y3.cells
  obtain ⟨f30, f31, f32⟩ := y3.free
  have Y1 := Lib.hid y1
  have Y3 := Lib.hid y3
  have O1 := Lib.hid o1
  have B1 := Lib.hid (hb.trans (hb1.mono hzw))
  have H2 := Lib.hid (H1.out.below hb1 (by omega))
  have hz2 := hb1.size
  clear y1 y3 o1 hb1 x1 x2 x3 hb
  go_wp2_with fail
  refine named ?_
  intro W2 hW2
  clear c10 c11 c12 c30 c31 c32 f30 f31 f32
  have hT : Turned (w.heap.size + 1 + 1) (w.heap.size + 1 + 1 + 1) w1 W2 := by rw [hW2]; exact Turned.setCell w1 _ 1 _ (by omega) (by omega)
  have x3 : Box3 W2 (w.heap.size + 1 + 1) 55 (.int .i64 m.size) (.slice (some ⟨W.heap.size, 0, none⟩) m.doors.length m.doors.length) (.slice none 0 0) := by
    rw [hW2]
    have := Y3.out
    unfold Box3 at this ⊢
    simp [World.setCell, Array.getElem?_modify, this]
  have hzz : w1.heap.size ≤ W2.heap.size := hT.size
  have hsz : W2.heap.size = w1.heap.size := by rw [hW2]; simp [World.setCell]
  clear hW2
  have x2 := y2.out.turned hT (by omega)
  have o1 := O1.out.turned hT (Nat.le_refl _) (by omega)
  have H3 := H2.out.turned hT (by omega) (by omega)
  refine (toInts_any W2 lo hi b d m.keys H3.keys (by omega) h2).mono ?_
  rintro e w2 ⟨rfl, o2, hb2⟩
  have hz3 := hb2.size
  have z2 := x2.below hb2
  have z3 := x3.below hb2
  have p1 := o1.below hb2 (by omega)
  obtain ⟨c20, c21, c22⟩ := z2.cells
  obtain ⟨f20, f21, f22⟩ := z2.free
  obtain ⟨c30, c31, c32⟩ := z3.cells
  obtain ⟨f30, f31, f32⟩ := z3.free
  have P1 := Lib.hid p1
  have O2 := Lib.hid o2
  have Z2 := Lib.hid z2
  have Z3 := Lib.hid z3
  have HS := Lib.hid hsz
  have B2 := Lib.hid ((Below.thenTurned B1.out hT (by omega) (by omega)).trans (hb2.mono (by omega)))
  clear hT hsz x2 x3 z2 z3 p1 o2 o1 hb2 H3
  go_wp2_with fail
  refine bodyPost_ret (v := .agg #[.int .i64 m.size, .slice (some ⟨W.heap.size, 0, none⟩) m.doors.length m.doors.length, .slice (some ⟨W2.heap.size, 0, none⟩) m.keys.length m.keys.length]) (by simp [results, Try.results45, go_sem, c20, c21, c22]) rfl ?_
  have hT : ∀ u0 u1 u2 u3, Turned (w.heap.size + 1) (w.heap.size + 1 + 1 + 1) w2 ((((w2.setCell ⟨w.heap.size + 1 + 1, 2, none⟩ u0).setCell ⟨w.heap.size + 1, 0, none⟩ u1).setCell ⟨w.heap.size + 1, 1, none⟩ u2).setCell ⟨w.heap.size + 1, 2, none⟩ u3) := fun u0 u1 u2 u3 =>
    (((Turned.setCell _ _ _ _ (by omega) (by omega)).trans (Turned.setCell _ _ _ _ (by omega) (by omega))).trans (Turned.setCell _ _ _ _ (by omega) (by omega))).trans (Turned.setCell _ _ _ _ (by omega) (by omega))
  have hsz := HS.out
  refine ⟨_, _, _, _, rfl, ⟨(P1.out.turned (hT _ _ _ _) (by omega) (by omega)).mono (by omega) ?_, (O2.out.turned (hT _ _ _ _) (Nat.le_refl _) (by omega)).mono (by omega) ?_, Nat.le_refl _, by omega, Nat.le_refl _, by omega⟩, Below.thenTurned B2.out (hT _ _ _ _) (by omega) (by omega)⟩
  · have := (hT (.slice (some ⟨W2.heap.size, 0, none⟩) m.keys.length m.keys.length) (.int .i64 m.size) (.slice (some ⟨W.heap.size, 0, none⟩) m.doors.length m.doors.length) (.slice (some ⟨W2.heap.size, 0, none⟩) m.keys.length m.keys.length)).size
    omega
  · exact (hT _ _ _ _).size
theorem eqMaze_any (w : World) (lo hi lo' hi' : Nat) (m : M.Mz) (a b a' b' : Option Addr) (c d c' d' : Nat) (h : MzIn lo hi w m a c b d) (h' : MzIn lo' hi' w m a' c' b' d') (hz : hi ≤ w.heap.size) (hz' : hi' ≤ w.heap.size) (h1 : m.doors.length ≤ 1048576) (h2 : m.keys.length ≤ 1048576) :
    Calls Try.prog 47 #[.agg #[.int .i64 m.size, .slice a m.doors.length c, .slice b m.keys.length d], .agg #[.int .i64 m.size, .slice a' m.doors.length c', .slice b' m.keys.length d']] w fun e w' => e = .returned (.bool true) ∧ Below w.heap.size w w' := by
  have H := Lib.hid h
  have H' := Lib.hid h'
  clear h h'
  go_enter Try.func47, Try.ntmps47
  go_wp2_with fail
  refine named ?_
  intro W hW
  have hb : Below w.heap.size w W := by rw [hW]; exact ((Below.refl _ _).alloc (Nat.le_refl _) _).alloc (by simp) _
  have x1 : Box3 W w.heap.size 55 (.int .i64 m.size) (.slice a m.doors.length c) (.slice b m.keys.length d) := by rw [hW]; exact (Box3.new _ _ _ _ rfl).alloc _
  have x2 : Box3 W (w.heap.size + 1) 55 (.int .i64 m.size) (.slice a' m.doors.length c') (.slice b' m.keys.length d') := by rw [hW]; exact Box3.new _ _ _ _ (by simp)
  clear hW
  have hzw := hb.size
  have H1 := Lib.hid (H.out.below hb hz)
  have H1' := Lib.hid (H'.out.below hb hz')
  refine (eqDoors_any W lo hi lo' hi' a a' c c' m.doors (by omega) H1.out.doors H1'.out.doors (by omega) (by omega)).mono ?_
  rintro e w1 ⟨rfl, hb1⟩
  have y1 := x1.below hb1
  have y2 := x2.below hb1
  obtain ⟨c10, c11, c12⟩ := y1.cells
  obtain ⟨c20, c21, c22⟩ := y2.cells
  have hz1 := hb1.size
  have H2 := Lib.hid (H1.out.below hb1 (by omega))
  have H2' := Lib.hid (H1'.out.below hb1 (by omega))
  have B := Lib.hid (hb.trans (hb1.mono hzw))
  clear x1 x2 y1 y2 hb hb1
  go_wp2_with fail
  refine (eqInts_any w1 lo hi lo' hi' b b' d d' m.keys (by omega) H2.out.keys H2'.out.keys).mono ?_
  rintro e w2 ⟨rfl, n, rfl⟩
  go_wp2_with fail
  go_ret
  exact ⟨rfl, Below.drawnN B.out _⟩
theorem markDoors_any (w : World) (lo hi : Nat) (a : Option Addr) (c n k0 : Nat) (xs0 : List Value) (hn : xs0.length = n * 3) (hl : n ≤ 1073741824) (hk0 : k0 ≤ 4294967296) (h : OwnAt lo hi w 103 a xs0) :
    Calls Try.prog 89 #[.slice a n c, .int .i64 k0] w fun e w' => e = .returned (.int .i64 ((k0 + n * 3 : Nat) : Int)) ∧ OwnAt lo hi w' 103 a (M.marks k0 (n * 3)) ∧ Turned lo hi w w' := by
  have h' := Lib.hid h
  have HN0 := Lib.hid hn
  clear h hn
  go_enter Try.func89, Try.ntmps89
  go_wp2_with fail
  go_loopw [1, 5, 6] (fun m i _ wr => ∃ (k : Nat) (xs : List Value), k ≤ n ∧ i = .int .i64 k ∧ m = .int .i64 ((k0 + k * 3 : Nat) : Int) ∧ xs.length = n * 3 ∧ xs.take (k * 3) = M.marks k0 (k * 3) ∧
      OwnAt lo hi wr 103 a xs ∧ Turned lo hi w wr) (fun _ i _ _ => n - (intOf i).toNat)
  case atStart => exact ⟨0, xs0, Nat.zero_le _, rfl, by simp, HN0.out, by simp [M.marks], h'.out, Turned.refl _ _ _⟩
  case round =>
    obtain ⟨k, xs, hk, rfl, rfl, hxl, ht, hown, hnx⟩ := hrel
    have HT := Lib.hid ht
    have HX := Lib.hid hxl
    clear ht hxl
    by_cases hlt : k < n
    · have hkx : k * 3 + 2 < xs.length := by have := HX.out; omega
      obtain ⟨b, off, ha, h1, h2, hc⟩ := hown.row.at_ hkx
      subst ha
      obtain ⟨u0, hu0⟩ : ∃ u, xs[k * 3]? = some u := ⟨_, List.getElem?_eq_getElem (by omega)⟩
      obtain ⟨u1, hu1⟩ : ∃ u, xs[k * 3 + 1]? = some u := ⟨_, List.getElem?_eq_getElem (by omega)⟩
      obtain ⟨u2, hu2⟩ : ∃ u, xs[k * 3 + 2]? = some u := ⟨_, List.getElem?_eq_getElem (by omega)⟩
      have d0 : wr.cell? ⟨b, off + k * 3, none⟩ = some u0 := hc _ _ hu0
      have d1 : wr.cell? ⟨b, off + k * 3 + 1, none⟩ = some u1 := hc _ _ hu1
      have d2 : wr.cell? ⟨b, off + k * 3 + 2, none⟩ = some u2 := hc _ _ hu2
      have f0 : wr.frozen? ⟨b, off + k * 3, none⟩ = false := hown.free rfl hkx _
      have f1 : wr.frozen? ⟨b, off + k * 3 + 1, none⟩ = false := hown.free rfl hkx _
      have f2 : wr.frozen? ⟨b, off + k * 3 + 2, none⟩ = false := hown.free rfl hkx _
      have HS := Lib.hid (((hown.set_ rfl (k * 3) (.int .i64 ((k0 + k * 3 : Nat) : Int))).set_ rfl (k * 3 + 1) (.int .i64 ((k0 + (k * 3 + 1) : Nat) : Int))).set_ rfl (k * 3 + 2) (.int .i64 ((k0 + (k * 3 + 2) : Nat) : Int)))
      have HNX := Lib.hid hnx
      have HU := Lib.hid (fun u0 u1 u2 => ((Turned.setCell wr b (off + k * 3) u0 h1 h2).trans (Turned.setCell _ b (off + k * 3 + 1) u1 h1 h2)).trans (Turned.setCell _ b (off + k * 3 + 2) u2 h1 h2))
      have H3 := Lib.hid (set3 xs k (.int .i64 ((k0 + k * 3 : Nat) : Int)) (.int .i64 ((k0 + (k * 3 + 1) : Nat) : Int)) (.int .i64 ((k0 + (k * 3 + 2) : Nat) : Int)) (by omega))
      clear hu0 hu1 hu2 hc hown hnx
      go_wp2_with fail
      refine wp_loop_rounds 4 ?_
      rw [rounds_succ]
      go_wp2_with fail
      rw [rounds_succ]
      go_wp2_with fail
      rw [rounds_succ]
      go_wp2_with fail
      rw [rounds_succ]
      go_wp2_with fail
      go_roundw
      case rel =>
        refine ⟨k + 1, _, by omega, by go_num, by go_num, ?_, ?_, HS.out, HNX.out.trans (HU.out _ _ _)⟩
        · simp only [List.length_set]; exact HX.out
        · rw [H3.out, HT.out, show (k + 1) * 3 = k * 3 + 1 + 1 + 1 by omega, M.marks_succ, M.marks_succ, M.marks_succ]
          simp
      case measure => simp [intOf]; omega
    · obtain rfl : k = n := by omega
      have HO := Lib.hid hown
      have HN := Lib.hid hnx
      clear hown hnx
      go_wp2_with fail
      go_ret
      refine ⟨rfl, ?_, HN.out⟩
      have e : xs = M.marks k0 (k * 3) := by
        have := HT.out
        rwa [List.take_of_length_le (by have := HX.out; omega)] at this
      rw [← e]
      exact HO.out
theorem heldDoors_any (w : World) (lo hi : Nat) (a : Option Addr) (c n k0 : Nat) (hl : n ≤ 1073741824) (hk0 : k0 ≤ 4294967296) (h : RowIn lo hi w a (M.marks k0 (n * 3))) :
    Calls Try.prog 121 #[.slice a n c, .int .i64 k0] w fun e w' => e = .returned (.int .i64 ((k0 + n * 3 : Nat) : Int)) ∧ w = w' := by
  have h' := Lib.hid h
  clear h
  go_enter Try.func121, Try.ntmps121
  go_wp2_with fail
  go_loop [1, 5, 6] (fun m i _ => ∃ (k : Nat), k ≤ n ∧ i = .int .i64 k ∧ m = .int .i64 ((k0 + k * 3 : Nat) : Int)) (fun _ i _ => n - (intOf i).toNat)
  case atStart => exact ⟨0, Nat.zero_le _, rfl, by simp⟩
  case round =>
    obtain ⟨k, hk, rfl, rfl⟩ := hrel
    by_cases hlt : k < n
    · obtain ⟨b, off, rfl, _, _, hc⟩ := h'.out.at_ (k := k * 3) (by rw [M.marks_len]; omega)
      have d0 : w.cell? ⟨b, off + k * 3, none⟩ = some (.int .i64 ((k0 + k * 3 : Nat) : Int)) := hc (k * 3) _ (M.marks_at (by omega))
      have d1 : w.cell? ⟨b, off + k * 3 + 1, none⟩ = some (.int .i64 ((k0 + (k * 3 + 1) : Nat) : Int)) := hc (k * 3 + 1) _ (M.marks_at (by omega))
      have d2 : w.cell? ⟨b, off + k * 3 + 2, none⟩ = some (.int .i64 ((k0 + (k * 3 + 2) : Nat) : Int)) := hc (k * 3 + 2) _ (M.marks_at (by omega))
      have e1 : ((k0 + (k * 3 + 1) : Nat) : Int) = ((k0 + k * 3 : Nat) : Int) + 1 := by omega
      have e2 : ((k0 + (k * 3 + 2) : Nat) : Int) = ((k0 + k * 3 : Nat) : Int) + 1 + 1 := by omega
      rw [e1] at d1
      rw [e2] at d2
      clear hc e1 e2
      go_wp2_with fail
      refine wp_loop_rounds 4 ?_
      rw [rounds_succ]
      go_wp2_with fail
      rw [rounds_succ]
      go_wp2_with fail
      rw [rounds_succ]
      go_wp2_with fail
      rw [rounds_succ]
      go_wp2_with fail
      go_round
      case rel => exact ⟨k + 1, by omega, by go_num, by go_num⟩
      case measure => simp [intOf]; omega
    · obtain rfl : k = n := by omega
      go_wp2_with fail
      go_ret
      exact ⟨rfl, rfl⟩
/-- a maze whose numbers are rising ones from k on -/
def MzMarked (lo hi : Nat) (w : World) (k n1 n2 : Nat) (a b : Option Addr) : Prop := RowIn lo hi w a (M.marks k (n1 * 3)) ∧ RowIn lo hi w b (M.marks (k + n1 * 3) n2)
theorem MzMarked.turned {lo hi lo' hi' k n1 n2 : Nat} {w w' : World} {a b : Option Addr} (h : MzMarked lo hi w k n1 n2 a b) (t : Turned lo' hi' w w') (hz : hi ≤ w.heap.size) (hd : hi ≤ lo' ∨ hi' ≤ lo) : MzMarked lo hi w' k n1 n2 a b := ⟨h.1.turned t hz hd, h.2.turned t hz hd⟩
theorem tne : 103 ≠ 3 := by decide
theorem markMaze_any (w : World) (lo hi : Nat) (m : M.Mz) (a b : Option Addr) (c d k0 : Nat) (h : MzOwn lo hi w m a c b d) (hz : hi ≤ w.heap.size) (h1 : m.doors.length ≤ 1048576) (h2 : m.keys.length ≤ 1048576) (hk0 : k0 ≤ 1073741824) :
    Calls Try.prog 48 #[.agg #[.int .i64 m.size, .slice a m.doors.length c, .slice b m.keys.length d], .int .i64 k0] w fun e w' => e = .returned (.int .i64 ((k0 + m.doors.length * 3 + m.keys.length : Nat) : Int)) ∧ MzMarked lo hi w' k0 m.doors.length m.keys.length a b ∧ Turned lo hi w w' := by
  have H := Lib.hid h
  clear h
  go_enter Try.func48, Try.ntmps48
  go_wp2_with fail
  refine named ?_
  intro W hW
  have hb : Below w.heap.size w W := by rw [hW]; exact (Below.refl _ _).alloc (Nat.le_refl _) _
  have x1 : Box3 W w.heap.size 55 (.int .i64 m.size) (.slice a m.doors.length c) (.slice b m.keys.length d) := by rw [hW]; exact Box3.new _ _ _ _ rfl
  clear hW
  have hzw := hb.size
  have hlt := x1.lt
  have H1 := H.out.below hb hz
  obtain ⟨g1, n1, t1, q1, v1⟩ := H1.doors.narrow
  have T0 := Lib.hid (Turned.of_below hb lo hi)
  have O1 := Lib.hid H1.keys
  clear H1 hb
  refine (markDoors_any W g1 (g1 + 1) a c m.doors.length k0 _ (M.encDs_len _) (by omega) (by omega) n1).mono ?_
  rintro e w1 ⟨rfl, r1, tt1⟩
  have T1 := Lib.hid (t1 _ tt1)
  have o2 := O1.out.other tt1 fun cur V f hf => by rw [v1 _ _ _ hf]; exact tne
  have y1 := x1.turned T1.out (.inr (by omega))
  obtain ⟨c10, c11, c12⟩ := y1.cells
  obtain ⟨g2, n2, t2, q2, v2⟩ := o2.narrow
  have hz1 := T1.out.size
  have R1 := Lib.hid (q1 _ _ (by rw [M.marks_len, M.encDs_len]) r1)
  have Q2 := Lib.hid q2
  have T2' := Lib.hid t2
  have V2 := Lib.hid v2
  have hN := Lib.hid n2
  clear t1 x1 y1 n1 tt1 r1 q1 v1 q2 t2 v2 n2 o2
  go_wp2_with fail
  refine (markInts_any w1 g2 (g2 + 1) b d m.keys.length (k0 + m.doors.length * 3) _ (M.encIs_len _) (by omega) (by omega) hN.out).mono ?_
  rintro e w2 ⟨rfl, r2, tt2⟩
  have R1' := Lib.hid (R1.out.other tt2 fun cur V f hf => by rw [V2.out _ _ _ hf]; exact Ne.symm tne).row
  have R2 := Lib.hid (Q2.out _ _ (by rw [M.marks_len, M.encIs_len]) r2).row
  have F := Lib.hid (T0.out.trans (T1.out.trans (T2'.out _ tt2)))
  clear r2 tt2
  go_wp2_with fail
  go_ret
  exact ⟨rfl, ⟨R1'.out, R2.out⟩, F.out⟩
end C
end Go.Proofs.Ytbcobheiofajeaa
namespace Go.Proofs.Ytbcobheiofajeaa
open Go.RowKit
namespace M

/-- an order in which any two differ or are one -/
structure Ord {α : Type} (lt : α → α → Bool) : Prop where
  irrefl : ∀ a, lt a a = false
  trans : ∀ {a b c}, lt a b = true → lt b c = true → lt a c = true
  tri : ∀ {a b}, lt a b = false → lt b a = false → a = b

section
variable {α : Type} {lt : α → α → Bool}
/-- a list that ascends strictly -/
def Asc (lt : α → α → Bool) (l : List α) : Prop := l.Pairwise fun a b => lt a b = true

theorem Asc.nil : Asc lt [] := List.Pairwise.nil
theorem Asc.tail {d : α} {l : List α} (h : Asc lt (d :: l)) : Asc lt l := (List.pairwise_cons.1 h).2
theorem Asc.head {d : α} {l : List α} (h : Asc lt (d :: l)) : ∀ x ∈ l, lt d x = true := (List.pairwise_cons.1 h).1
theorem asc_of_sorted (o : Ord lt) {l : List α} (h : ∀ k (h : k + 1 < l.length), lt l[k] l[k + 1] = true) : Asc lt l := by
  unfold Asc
  induction l with
  | nil => exact List.Pairwise.nil
  | cons d l ih =>
    have ih' := ih fun k hk => by
      have := h (k + 1) (by simp; omega)
      simpa using this
    refine List.pairwise_cons.2 ⟨fun x hx => ?_, ih'⟩
    cases l with
    | nil => cases hx
    | cons e l =>
      have h0 : lt d e = true := by simpa using h 0 (by simp)
      rcases List.mem_cons.1 hx with rfl | hx
      · exact h0
      · exact o.trans h0 ((List.pairwise_cons.1 ih').1 x hx)
theorem Asc.sorted {l : List α} (h : Asc lt l) : ∀ k (h : k + 1 < l.length), lt l[k] l[k + 1] = true := fun k hk =>
  List.pairwise_iff_getElem.1 h k (k + 1) (by omega) hk (by omega)
theorem Asc.not_mem (o : Ord lt) {d : α} {l : List α} (h : Asc lt (d :: l)) : d ∉ l := fun hm => by
  have := h.head d hm
  rw [o.irrefl] at this
  cases this
/-- two such lists with the same members are one -/
theorem Asc.ext (o : Ord lt) : ∀ {a b : List α}, Asc lt a → Asc lt b → (∀ x, x ∈ a ↔ x ∈ b) → a = b
  | [], [], _, _, _ => rfl
  | [], y :: b, _, _, h => absurd ((h y).2 (List.mem_cons_self ..)) (by simp)
  | x :: a, [], _, _, h => absurd ((h x).1 (List.mem_cons_self ..)) (by simp)
  | x :: a, y :: b, ha, hb, h => by
    have hxy : x = y := by
      have h1 : x ∈ y :: b := (h x).1 (List.mem_cons_self ..)
      have h2 : y ∈ x :: a := (h y).2 (List.mem_cons_self ..)
      rcases List.mem_cons.1 h1 with e | h1
      · exact e
      · rcases List.mem_cons.1 h2 with e | h2
        · exact e.symm
        · have k1 := hb.head x h1
          have k2 := ha.head y h2
          have := o.trans k1 k2
          rw [o.irrefl] at this
          cases this
    subst hxy
    have := Asc.ext o ha.tail hb.tail fun z => by
      constructor
      · intro hz
        have : z ∈ x :: b := (h z).1 (List.mem_cons_of_mem _ hz)
        rcases List.mem_cons.1 this with e | e
        · subst e; exact absurd hz (ha.not_mem o)
        · exact e
      · intro hz
        have : z ∈ x :: a := (h z).2 (List.mem_cons_of_mem _ hz)
        rcases List.mem_cons.1 this with e | e
        · subst e; exact absurd hz (hb.not_mem o)
        · exact e
    rw [this]

/-- the place of an element in a list: how many of the first ones come before it -/
def place (lt : α → α → Bool) (l : List α) (d : α) : Nat := (l.takeWhile fun x => lt x d).length
/-- an element put to its place, once -/
noncomputable def put (lt : α → α → Bool) (l : List α) (d : α) : List α := open Classical in if l[place lt l d]? = some d then l else l.take (place lt l d) ++ d :: l.drop (place lt l d)

theorem place_le (l : List α) (d : α) : place lt l d ≤ l.length := by
  unfold place
  exact (List.takeWhile_sublist _).length_le
theorem place_lt {l : List α} {d : α} {k : Nat} (hk : k < place lt l d) : ∃ h : k < l.length, lt l[k] d = true := by
  have hl := place_le (lt := lt) l d
  have hkl : k < l.length := by omega
  refine ⟨hkl, ?_⟩
  unfold place at hk
  have hm := List.getElem_mem hk
  have := List.all_eq_true.1 (List.all_takeWhile (l := l) (p := fun x => lt x d)) _ hm
  have e : (l.takeWhile fun x => lt x d)[k] = l[k]'hkl := by
    have hp := List.takeWhile_prefix (l := l) (p := fun x => lt x d)
    exact hp.getElem hk
  rw [e] at this
  exact this
theorem place_at {l : List α} {d : α} (h : place lt l d < l.length) : lt l[place lt l d] d = false := by
  have hx : ∀ (l : List α) (h : (l.takeWhile fun x => lt x d).length < l.length), lt l[(l.takeWhile fun x => lt x d).length] d = false := by
    intro l
    induction l with
    | nil => intro h; simp at h
    | cons x l ih =>
      intro h
      by_cases hx : lt x d = true
      · simp only [List.takeWhile_cons, hx, if_true, List.length_cons, List.getElem_cons_succ] at h ⊢
        exact ih (by omega)
      · simp only [List.takeWhile_cons, hx] at h ⊢
        simpa using hx
  exact hx l h
/-- told by its two marks -/
theorem place_eq {l : List α} {d : α} {k : Nat} (hk : k ≤ l.length) (h1 : ∀ i (h : i < l.length), i < k → lt l[i] d = true) (h2 : ∀ h : k < l.length, lt l[k] d = false) : place lt l d = k := by
  rcases Nat.lt_trichotomy (place lt l d) k with h | h | h
  · have := place_at (lt := lt) (l := l) (d := d) (by omega)
    rw [h1 _ (by omega) h] at this
    cases this
  · exact h
  · obtain ⟨h', he⟩ := place_lt h
    rw [h2 h'] at he
    cases he
theorem put_at {l : List α} {d : α} {k : Nat} (hp : place lt l d = k) (h : l[k]? = some d) : put lt l d = l := by
  unfold put; rw [hp]; exact if_pos h
theorem put_new {l : List α} {d : α} {k : Nat} (hp : place lt l d = k) (h : l[k]? ≠ some d) : put lt l d = l.take k ++ d :: l.drop k := by
  unfold put; rw [hp]; exact if_neg h
theorem mem_put {l : List α} {d x : α} : x ∈ put lt l d ↔ x ∈ l ∨ x = d := by
  unfold put
  split
  · rename_i h
    have hm : d ∈ l := List.mem_of_getElem? h
    constructor
    · exact .inl
    · rintro (h | rfl)
      · exact h
      · exact hm
  · rw [List.mem_append, List.mem_cons]
    constructor
    · rintro (h | rfl | h)
      · exact .inl (List.mem_of_mem_take h)
      · exact .inr rfl
      · exact .inl (List.mem_of_mem_drop h)
    · rintro (h | rfl)
      · rw [← List.take_append_drop (place lt l d) l, List.mem_append] at h
        rcases h with h | h
        · exact .inl h
        · exact .inr (.inr h)
      · exact .inr (.inl rfl)
theorem Asc.put (o : Ord lt) {l : List α} (h : Asc lt l) (d : α) : Asc lt (M.put lt l d) := by
  unfold M.put
  split
  · exact h
  · rename_i hne
    unfold Asc at h ⊢
    have h1 : ∀ x ∈ l.take (place lt l d), lt x d = true := by
      intro x hx
      obtain ⟨k, hk, rfl⟩ := List.mem_iff_getElem.1 hx
      rw [List.length_take] at hk
      obtain ⟨hk', he⟩ := place_lt (lt := lt) (l := l) (d := d) (k := k) (by omega)
      rw [List.getElem_take]
      exact he
    have h2 : ∀ x ∈ l.drop (place lt l d), lt d x = true := by
      have h0 : ∀ h : place lt l d < l.length, lt d l[place lt l d] = true := by
        intro hlt
        have ha := place_at hlt
        cases hb : lt d l[place lt l d] with
        | true => rfl
        | false =>
          exact absurd (by rw [List.getElem?_eq_getElem hlt, o.tri ha hb]) hne
      intro x hx
      obtain ⟨k, hk, rfl⟩ := List.mem_iff_getElem.1 hx
      rw [List.length_drop] at hk
      rw [List.getElem_drop]
      have hlt : place lt l d < l.length := by omega
      cases k with
      | zero => simpa using h0 hlt
      | succ k => exact o.trans (h0 hlt) (List.pairwise_iff_getElem.1 h _ _ (by omega) (by omega) (by omega))
    rw [List.pairwise_append]
    refine ⟨h.sublist (List.take_sublist _ _), List.pairwise_cons.2 ⟨h2, h.sublist (List.drop_sublist _ _)⟩, fun a ha b hb => ?_⟩
    rcases List.mem_cons.1 hb with rfl | hb
    · exact h1 a ha
    · exact o.trans (h1 a ha) (h2 b hb)
/-- many put, one behind the other -/
noncomputable def putAll (lt : α → α → Bool) (l : List α) (ds : List α) : List α := ds.foldl (put lt) l
theorem putAll_nil (l : List α) : putAll lt l [] = l := rfl
theorem putAll_snoc (l ds : List α) (d : α) : putAll lt l (ds ++ [d]) = put lt (putAll lt l ds) d := by unfold putAll; rw [List.foldl_append]; rfl
theorem mem_putAll {l ds : List α} {x : α} : x ∈ putAll lt l ds ↔ x ∈ l ∨ x ∈ ds := by
  induction ds generalizing l with
  | nil => simp [putAll]
  | cons d ds ih =>
    show x ∈ putAll lt (put lt l d) ds ↔ _
    rw [ih, mem_put, List.mem_cons]
    exact or_assoc
theorem Asc.putAll (o : Ord lt) {l : List α} (h : Asc lt l) (ds : List α) : Asc lt (M.putAll lt l ds) := by
  induction ds generalizing l with
  | nil => exact h
  | cons d ds ih => exact ih (h.put o d)
theorem len_put_le (l : List α) (d : α) : (put lt l d).length ≤ l.length + 1 := by
  unfold put
  split
  · omega
  · simp; omega
theorem len_putAll_le (l ds : List α) : (putAll lt l ds).length ≤ l.length + ds.length := by
  induction ds generalizing l with
  | nil => simp [putAll]
  | cons d ds ih =>
    have h1 := ih (put lt l d)
    have h2 := len_put_le (lt := lt) l d
    show (putAll lt (put lt l d) ds).length ≤ _
    simp
    omega
/-- those put are those of any list that ascends and has the same ones -/
theorem putAll_eq (o : Ord lt) {l ds s : List α} (hl : Asc lt l) (hs : Asc lt s) (hm : ∀ x, x ∈ s ↔ x ∈ l ∨ x ∈ ds) : putAll lt l ds = s :=
  (hl.putAll o ds).ext o hs fun x => by rw [mem_putAll, hm]
end
theorem ordD : Ord ltD := ⟨ltD_irrefl, ltD_trans, ltD_tri⟩
def ltI (a b : Int) : Bool := decide (a < b)
theorem ordI : Ord ltI := ⟨fun a => by simp [ltI], fun h1 h2 => by unfold ltI at *; simp only [decide_eq_true_eq] at *; omega, fun h1 h2 => by unfold ltI at *; simp only [decide_eq_false_iff_not] at *; omega⟩
theorem Valid.asc {m : Mz} (h : Valid m) : Asc ltD m.doors := asc_of_sorted ordD h.sorted
end M
end Go.Proofs.Ytbcobheiofajeaa
