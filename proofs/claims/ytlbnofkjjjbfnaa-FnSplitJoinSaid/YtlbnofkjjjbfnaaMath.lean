/-
  PLAIN MATHEMATICS for the strings' chapter: the checksum of a list of bytes as a fold, its bounds, and its step. No condition; nothing of the program stands here.
-/
import Derived.Below
namespace Go.Proofs.Ytlbnofkjjjbfnaa
namespace M

def cstep (h : Int) (c : UInt8) : Int := (41 * h + (c.toNat : Int) + 1) % 999979
def csum (l : List UInt8) : Int := l.foldl cstep 7

theorem csum_nil : csum [] = 7 := rfl
theorem csum_snoc (l : List UInt8) (c : UInt8) : csum (l ++ [c]) = cstep (csum l) c := by
  simp [csum, List.foldl_append]
theorem cstep_bd (h : Int) (c : UInt8) : 0 ≤ cstep h c ∧ cstep h c < 999979 := by
  unfold cstep
  exact ⟨Int.emod_nonneg _ (by decide), Int.emod_lt_of_pos _ (by decide)⟩
theorem foldl_bd (l : List UInt8) : ∀ h : Int, 0 ≤ h → h < 999979 → 0 ≤ l.foldl cstep h ∧ l.foldl cstep h < 999979 := by
  induction l with
  | nil => intro h a b; exact ⟨a, b⟩
  | cons c l ih => intro h _ _; exact ih _ (cstep_bd h c).1 (cstep_bd h c).2
theorem csum_bd (l : List UInt8) : 0 ≤ csum l ∧ csum l < 999979 := foldl_bd l 7 (by decide) (by decide)

theorem take_snoc (s : ByteArray) (k : Nat) (h : k < s.size) : s.data.toList.take (k + 1) = s.data.toList.take k ++ [s[k]] := by
  rw [List.take_succ_eq_append_getElem (by simpa using h)]; rfl

end M
end Go.Proofs.Ytlbnofkjjjbfnaa
