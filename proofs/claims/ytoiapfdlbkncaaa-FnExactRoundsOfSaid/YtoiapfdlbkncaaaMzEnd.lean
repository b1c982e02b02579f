/-
  WORDS for a maze handed back from the result's own box: the maze, or the empty one and false. No condition.
-/
import Derived.Test.YtoiapfdlbkncaaaMaz
namespace Go.Proofs.Ytoiapfdlbkncaaa
open Go.RowKit
namespace C
theorem encIs_set (l : List Int) (k : Nat) (v : Int) : M.encIs (l.set k v) = (M.encIs l).set k (.int .i64 v) := by unfold M.encIs; rw [List.map_set]
theorem mzNo_end {w w3 : World} {u0 u1 u2 : Value} (hB : Below w.heap.size w w3) :
    MzOkPost w mz0 false (.returned (.tuple #[.agg #[.int .i64 0, .slice none 0 0, .slice none 0 0], .bool false])) (((w3.setCell ⟨w.heap.size + 1, 0, none⟩ u0).setCell ⟨w.heap.size + 1, 1, none⟩ u1).setCell ⟨w.heap.size + 1, 2, none⟩ u2) :=
  ⟨_, _, _, _, rfl, MzOwn.zero _ _ _, ((hB.setCell (p := ⟨w.heap.size + 1, 0, none⟩) (Nat.le_succ _) _).setCell (p := ⟨w.heap.size + 1, 1, none⟩) (Nat.le_succ _) _).setCell (p := ⟨w.heap.size + 1, 2, none⟩) (Nat.le_succ _) _⟩
theorem mzYes_end {w w3 : World} {lo hi nd nk : Nat} {m : M.Mz} {a b : Option Addr} {c d : Nat} {u0 u1 u2 : Value} (hB : Below w.heap.size w w3) (ho : MzOwn lo hi w3 m a c b d) (h1 : w.heap.size + 1 < lo) (h2 : hi ≤ w3.heap.size) (hnd : m.doors.length = nd) (hnk : m.keys.length = nk) :
    MzOkPost w m true (.returned (.tuple #[.agg #[.int .i64 m.size, .slice a nd c, .slice b nk d], .bool true])) (((w3.setCell ⟨w.heap.size + 1, 0, none⟩ u0).setCell ⟨w.heap.size + 1, 1, none⟩ u1).setCell ⟨w.heap.size + 1, 2, none⟩ u2) := by
  have hT : Turned (w.heap.size + 1) (w.heap.size + 1 + 1) w3 (((w3.setCell ⟨w.heap.size + 1, 0, none⟩ u0).setCell ⟨w.heap.size + 1, 1, none⟩ u1).setCell ⟨w.heap.size + 1, 2, none⟩ u2) :=
    ((Turned.setCell _ _ _ _ (by omega) (by omega)).trans (Turned.setCell _ _ _ _ (by omega) (by omega))).trans (Turned.setCell _ _ _ _ (by omega) (by omega))
  have hs := hT.size
  have hz := hB.size
  subst hnd; subst hnk
  exact ⟨_, _, _, _, rfl, (ho.turned hT h2 (.inr (by omega))).mono (by omega) (by omega), Below.thenTurned hB hT (by omega) (by omega)⟩
theorem Box3.setAll {X : World} {n : Nat} {T : TypeId} {x y z : Value} (h : Box3 X n T x y z) (u0 u1 u2 : Value) : Box3 (((X.setCell ⟨n, 0, none⟩ u0).setCell ⟨n, 1, none⟩ u1).setCell ⟨n, 2, none⟩ u2) n T u0 u1 u2 := by
  unfold Box3 at h ⊢
  simp [World.setCell, Array.getElem?_modify, h]
theorem MzOkPost.more {w w' w'' : World} {m : M.Mz} {ok : Bool} {e : Ending} (h : MzOkPost w m ok e w') (hb : Below w'.heap.size w' w'') : MzOkPost w m ok e w'' := by
  obtain ⟨a, c, b, d, he, ho, hB⟩ := h
  exact ⟨a, c, b, d, he, (ho.below hb (Nat.le_refl _)).mono (Nat.le_refl _) hb.size, hB.trans (hb.mono hB.size)⟩
/-- one set of keys written -/
theorem MzOwn.setKey {lo hi : Nat} {w : World} {m : M.Mz} {a b : Option Addr} {c d g off : Nat} (h : MzOwn lo hi w m a c b d) (hb : b = some ⟨g, off, none⟩) (k : Nat) (hk : k < m.keys.length) (v : Int) :
    MzOwn lo hi (w.setCell ⟨g, off + k, none⟩ (.int .i64 v)) ⟨m.size, m.doors, m.keys.set k v⟩ a c b d :=
  ⟨h.doors.far h.keys (by decide) hb (k := k) (by rw [M.encIs_len]; exact hk) _ _, by show OwnAt _ _ _ _ _ (M.encIs (m.keys.set k v)); rw [encIs_set]; exact h.keys.set_ hb k _, h.c1, h.c2, by show (m.keys.set k v).length ≤ d; rw [List.length_set]; exact h.d1, h.d2⟩
end C
end Go.Proofs.Ytoiapfdlbkncaaa
