/-
  WORDS for a block of four cells, own to these proofs; numbers compared. No condition.
-/
import Derived.Test.YtdgfceiobpnchaaSets
import Derived.Test.YtdgfceiobpnchaaWkO
import Derived.Deep.RegionWith
import Derived.BigQuiet
import Derived.Deep.QuietTactic
import Derived.Sort.Row
import Derived.Sort.Grow
import Derived.IntWalk
import Derived.Shelf.SlSortCmp.QuietGrown
import Derived.Shelf.Abstract
namespace Go.Proofs.Ytdgfceiobpnchaa
open Go.RowKit
namespace M
def cmpG (d e : Gt) : Int := if ltG d e then -1 else if ltG e d then 1 else 0
theorem cmpG_lt {d e : Gt} : cmpG d e < 0 ↔ ltG d e = true := by
  unfold cmpG
  split
  · rename_i h; simp [h]
  · rename_i h; split <;> simp_all
end M
namespace C
def Box4 (w : World) (g : Nat) (T : TypeId) (x y z v : Value) : Prop := w.heap[g]? = some (.cells #[x, y, z, v] T (0, 0))
section
variable {w w' : World} {g : Nat} {T : TypeId} {x y z v : Value}
theorem Box4.lt (h : Box4 w g T x y z v) : g < w.heap.size := heap_lt h
theorem Box4.new (T : TypeId) (x y z v : Value) (hg : g = w.heap.size) : Box4 (w.alloc (.cells #[x, y, z, v] T)) g T x y z v := by subst hg; exact heap_alloc_new w _
theorem Box4.alloc (h : Box4 w g T x y z v) (o : Obj) : Box4 (w.alloc o) g T x y z v := (Below.heap_alloc w o g h.lt).trans h
theorem Box4.cells (h : Box4 w g T x y z v) : w.cell? ⟨g, 0, none⟩ = some x ∧ w.cell? ⟨g, 1, none⟩ = some y ∧ w.cell? ⟨g, 2, none⟩ = some z ∧ w.cell? ⟨g, 3, none⟩ = some v :=
  ⟨cell_of_row w g 0 _ _ _ h, cell_of_row w g 1 _ _ _ h, cell_of_row w g 2 _ _ _ h, cell_of_row w g 3 _ _ _ h⟩
theorem Box4.turned {lo hi : Nat} (h : Box4 w g T x y z v) (t : Turned lo hi w w') (hd : g < lo ∨ hi ≤ g) : Box4 w' g T x y z v := (t.block g h.lt hd).trans h
theorem Box4.below (h : Box4 w g T x y z v) (t : Below w.heap.size w w') : Box4 w' g T x y z v := (t.block g h.lt).trans h
theorem Box4.grown {row : Option Nat} (h : Box4 w g T x y z v) (hg : w.grownBy w' row) (hne : row ≠ some g) : Box4 w' g T x y z v := (hg.block g h.lt (fun e => hne e.symm)).trans h
theorem Box4.free (h : Box4 w g T x y z v) (i : Nat) : w.frozen? ⟨g, i, none⟩ = false := by
  unfold Box4 at h
  simp [World.frozen?, h]
end
theorem same_grown {P : Program} {f : FuncId} {args : Array Value} {W : World} {v : Value} (h : Calls P f args W fun e w' => e = .returned v ∧ W = w') : Calls P f args W fun e w' => e = .returned v ∧ ∃ q os, w' = Sort.grow (W.drewN q) os :=
  h.mono fun _ _ ⟨he, hw⟩ => ⟨he, 0, #[], by rw [← hw, Sort.grow_empty]; rfl⟩
def BoolPost (w : World) (r : Bool) (e : Ending) (w' : World) : Prop := e = .returned (.bool r) ∧ Below w.heap.size w w'
end C
end Go.Proofs.Ytdgfceiobpnchaa
