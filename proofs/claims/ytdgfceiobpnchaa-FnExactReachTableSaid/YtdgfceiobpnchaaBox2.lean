/-
  WORDS for a struct of two fields in a block of its own, own to these proofs. No condition.
-/
import Derived.Test.YtdgfceiobpnchaaMem
namespace Go.Proofs.Ytdgfceiobpnchaa
open Go.RowKit
namespace C
def Box2 (w : World) (g : Nat) (T : TypeId) (x y : Value) : Prop := w.heap[g]? = some (.cells #[x, y] T (0, 0))
section
variable {w w' : World} {g : Nat} {T : TypeId} {x y : Value}
theorem Box2.lt (h : Box2 w g T x y) : g < w.heap.size := heap_lt h
theorem Box2.new (T : TypeId) (x y : Value) (hg : g = w.heap.size) : Box2 (w.alloc (.cells #[x, y] T)) g T x y := by subst hg; exact heap_alloc_new w _
theorem Box2.alloc (h : Box2 w g T x y) (o : Obj) : Box2 (w.alloc o) g T x y := (Below.heap_alloc w o g h.lt).trans h
theorem Box2.cells (h : Box2 w g T x y) : w.cell? ⟨g, 0, none⟩ = some x ∧ w.cell? ⟨g, 1, none⟩ = some y := ⟨cell_of_row w g 0 _ _ _ h, cell_of_row w g 1 _ _ _ h⟩
theorem Box2.free (h : Box2 w g T x y) : w.frozen? ⟨g, 0, none⟩ = false ∧ w.frozen? ⟨g, 1, none⟩ = false := by
  unfold Box2 at h
  exact ⟨by simp [World.frozen?, h], by simp [World.frozen?, h]⟩
theorem Box2.turned {lo hi : Nat} (h : Box2 w g T x y) (t : Turned lo hi w w') (hd : g < lo ∨ hi ≤ g) : Box2 w' g T x y := (t.block g h.lt hd).trans h
theorem Box2.below (h : Box2 w g T x y) (t : Below w.heap.size w w') : Box2 w' g T x y := (t.block g h.lt).trans h
theorem Box2.grown {row : Option Nat} (h : Box2 w g T x y) (hg : w.grownBy w' row) (hne : row ≠ some g) : Box2 w' g T x y := (hg.block g h.lt (fun e => hne e.symm)).trans h
theorem Box2.set0 (h : Box2 w g T x y) (u : Value) : Box2 (w.setCell ⟨g, 0, none⟩ u) g T u y := by
  unfold Box2 at h ⊢
  simp [World.setCell, Array.getElem?_modify, h]
theorem Box2.set1 (h : Box2 w g T x y) (u : Value) : Box2 (w.setCell ⟨g, 1, none⟩ u) g T x u := by
  unfold Box2 at h ⊢
  simp [World.setCell, Array.getElem?_modify, h]
theorem Box2.other {b : Nat} (h : Box2 w g T x y) (hne : g ≠ b) (i : Nat) (u : Value) : Box2 (w.setCell ⟨b, i, none⟩ u) g T x y := (Below.heap_setCell w ⟨b, i, none⟩ u g hne).trans h
end
theorem Turned.set2 {w : World} (r : Nat) (u0 u1 : Value) : Turned r (r + 1) w ((w.setCell ⟨r, 0, none⟩ u0).setCell ⟨r, 1, none⟩ u1) :=
  (Turned.setCell _ _ _ _ (Nat.le_refl _) (Nat.lt_succ_self _)).trans (Turned.setCell _ _ _ _ (Nat.le_refl _) (Nat.lt_succ_self _))
theorem Box2.setAll {w : World} {g : Nat} {T : TypeId} {x y : Value} (h : Box2 w g T x y) (u0 u1 : Value) : Box2 ((w.setCell ⟨g, 0, none⟩ u0).setCell ⟨g, 1, none⟩ u1) g T u0 u1 := (h.set0 u0).set1 u1
end C
end Go.Proofs.Ytdgfceiobpnchaa
