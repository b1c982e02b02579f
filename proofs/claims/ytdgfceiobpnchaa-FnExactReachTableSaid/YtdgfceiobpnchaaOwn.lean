/-
  WORDS for a row that the call grows beside its boxed parameters, own to these proofs. No condition.
-/
import Derived.Test.YtdgfceiobpnchaaSets
namespace Go.Proofs.Ytdgfceiobpnchaa
open Go.RowKit
namespace C
theorem grown_of_below {w w' : World} (h : Below w.heap.size w w') (row : Option Nat) : w.grownBy w' row := ⟨h.os, h.tape, h.output, h.size, fun k hk _ => h.block k hk⟩
theorem own_below {w w' : World} {B : Nat} {e : TypeId} {size : Nat} {v : Value} {n : Nat} {xs : List Value} (h : w.ownsRow B e size v n xs) (hb : Below w.heap.size w w') : w'.ownsRow B e size v n xs := by
  rcases hv : v.ownBlock with _ | g
  · exact h.kept (grown_of_below hb none) (.inl hv)
  · exact h.kept (grown_of_below hb none) (.inr (by rw [hv]; simp))
/-- a row whose elements are of another type lies in another block than a box -/
theorem own_ne_box {w : World} {B g : Nat} {e T : TypeId} {size : Nat} {v x y z : Value} {n : Nat} {xs : List Value} (h : w.ownsRow B e size v n xs) (hb : Box3 w g T x y z) (hne : e ≠ T) : v.ownBlock ≠ some g := by
  rcases h.2 with ⟨rfl, _⟩ | ⟨g', cap, cur, rfl, _, hh, _⟩
  · simp [Value.ownBlock]
  · intro he
    have : g' = g := by simpa [Value.ownBlock] using he
    subst this
    unfold Box3 at hb
    rw [hh] at hb
    injection hb with hb
    injection hb with _ ht
    exact hne ht
theorem Box3.grown {w w' : World} {g : Nat} {T : TypeId} {x y z : Value} {row : Option Nat} (h : Box3 w g T x y z) (hg : w.grownBy w' row) (hne : row ≠ some g) : Box3 w' g T x y z := (hg.block g h.lt (fun e => hne e.symm)).trans h
end C
end Go.Proofs.Ytdgfceiobpnchaa
