/-
  WORDS for a maze that is handed back out of a box at any place of the call's own, own to these proofs. No condition.
-/
import Derived.Test.YtoiapfdlbkncaaaMzEnd
import Derived.Test.YtoiapfdlbkncaaaOwnMaz3
namespace Go.Proofs.Ytoiapfdlbkncaaa
open Go.RowKit
namespace C
theorem Turned.set3 {w : World} (r : Nat) (u0 u1 u2 : Value) : Turned r (r + 1) w (((w.setCell ⟨r, 0, none⟩ u0).setCell ⟨r, 1, none⟩ u1).setCell ⟨r, 2, none⟩ u2) :=
  ((Turned.setCell _ _ _ _ (Nat.le_refl _) (Nat.lt_succ_self _)).trans (Turned.setCell _ _ _ _ (Nat.le_refl _) (Nat.lt_succ_self _))).trans (Turned.setCell _ _ _ _ (Nat.le_refl _) (Nat.lt_succ_self _))
theorem mz_endAt {w w3 : World} {r lo hi nd nk : Nat} {m : M.Mz} {a b : Option Addr} {c d : Nat} {u0 u1 u2 : Value} (hB : Below w.heap.size w w3) (ho : MzOwn lo hi w3 m a c b d) (hr : r < lo ∨ hi ≤ r) (h0 : w.heap.size ≤ r) (h1 : w.heap.size ≤ lo) (h2 : hi ≤ w3.heap.size) (hnd : m.doors.length = nd) (hnk : m.keys.length = nk) :
    MzPost w m (.returned (.agg #[.int .i64 m.size, .slice a nd c, .slice b nk d])) (((w3.setCell ⟨r, 0, none⟩ u0).setCell ⟨r, 1, none⟩ u1).setCell ⟨r, 2, none⟩ u2) := by
  have hT := Turned.set3 (w := w3) r u0 u1 u2
  have hs := hT.size
  have hz := hB.size
  subst hnd; subst hnk
  exact ⟨_, _, _, _, rfl, (ho.turned hT h2 (by omega)).mono h1 (by omega), Below.thenTurned hB hT h0 hz⟩
theorem mzNo_endAt {w w3 : World} {r : Nat} {u0 u1 u2 : Value} (hB : Below w.heap.size w w3) (h0 : w.heap.size ≤ r) :
    MzOkPost w mz0 false (.returned (.tuple #[.agg #[.int .i64 0, .slice none 0 0, .slice none 0 0], .bool false])) (((w3.setCell ⟨r, 0, none⟩ u0).setCell ⟨r, 1, none⟩ u1).setCell ⟨r, 2, none⟩ u2) :=
  ⟨_, _, _, _, rfl, MzOwn.zero _ _ _, Below.thenTurned hB (Turned.set3 (w := w3) r u0 u1 u2) h0 hB.size⟩
theorem mzYes_endAt {w w3 : World} {r lo hi nd nk : Nat} {ok : Bool} {m : M.Mz} {a b : Option Addr} {c d : Nat} {u0 u1 u2 : Value} (hB : Below w.heap.size w w3) (ho : MzOwn lo hi w3 m a c b d) (hr : r < lo ∨ hi ≤ r) (h0 : w.heap.size ≤ r) (h1 : w.heap.size ≤ lo) (h2 : hi ≤ w3.heap.size) (hnd : m.doors.length = nd) (hnk : m.keys.length = nk) :
    MzOkPost w m ok (.returned (.tuple #[.agg #[.int .i64 m.size, .slice a nd c, .slice b nk d], .bool ok])) (((w3.setCell ⟨r, 0, none⟩ u0).setCell ⟨r, 1, none⟩ u1).setCell ⟨r, 2, none⟩ u2) := by
  obtain ⟨a', c', b', d', he, hq, hb⟩ := mz_endAt (u0 := u0) (u1 := u1) (u2 := u2) hB ho hr h0 h1 h2 hnd hnk
  injection he with he
  refine ⟨a', c', b', d', by rw [he], hq, hb⟩
end C
end Go.Proofs.Ytoiapfdlbkncaaa
