/-
  WORDS for rows of the call's own beside boxes, own to these proofs. No condition.
-/
import Derived.Test.YtdgfceiobpnchaaStep
import Derived.Test.YtdgfceiobpnchaaBox2
namespace Go.Proofs.Ytdgfceiobpnchaa
open Go.RowKit
namespace C
theorem own_ne_box2 {w : World} {B g : Nat} {e T : TypeId} {size : Nat} {v x y : Value} {n : Nat} {xs : List Value} (h : w.ownsRow B e size v n xs) (hb : Box2 w g T x y) (hne : e ≠ T) : v.ownBlock ≠ some g := by
  rcases h.2 with ⟨rfl, _⟩ | ⟨g', cap, cur, rfl, _, hh, _⟩
  · simp [Value.ownBlock]
  · intro he
    have : g' = g := by simpa [Value.ownBlock] using he
    subst this
    unfold Box2 at hb
    rw [hh] at hb
    injection hb with hb
    injection hb with _ ht
    exact hne ht
theorem own_weaken {w : World} {B B' : Nat} {e : TypeId} {size : Nat} {v : Value} {n : Nat} {xs : List Value} (h : w.ownsRow B e size v n xs) (hB : B' ≤ B) : w.ownsRow B' e size v n xs := by
  rcases h with ⟨hl, h | ⟨g, cap, cur, hv, hb, hr⟩⟩
  · exact ⟨hl, .inl h⟩
  · exact ⟨hl, .inr ⟨g, cap, cur, hv, Nat.le_trans hB hb, hr⟩⟩
theorem own_turned {w w' : World} {lo hi B : Nat} {e : TypeId} {size : Nat} {v : Value} {n : Nat} {xs : List Value} (h : w.ownsRow B e size v n xs) (t : Turned lo hi w w') (hd : hi ≤ B) : w'.ownsRow B e size v n xs := by
  rcases h with ⟨hl, h | ⟨g, cap, cur, hv, hb, hh, hr⟩⟩
  · exact ⟨hl, .inl h⟩
  · exact ⟨hl, .inr ⟨g, cap, cur, hv, hb, (t.block g (heap_lt hh) (.inr (by omega))).trans hh, hr⟩⟩
def IntsOwnPost (w : World) (l : List Int) (e : Ending) (w' : World) : Prop :=
  ∃ a c, e = .returned (.slice a l.length c) ∧ w'.ownsRow w.heap.size 3 1 (.slice a l.length c) l.length (M.encIs l) ∧ Below w.heap.size w w'
end C
end Go.Proofs.Ytdgfceiobpnchaa
