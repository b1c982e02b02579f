/-
  PLAIN MATHEMATICS of splitting a list of bytes at each byte c: a fold that keeps the closed parts and the open one. No condition; nothing of the program stands here.
-/
import Derived.Below
namespace Go.Proofs.Ytlbnofkjjjbfnaa
namespace M
def spStep (c : UInt8) (p : List (List UInt8) × List UInt8) (b : UInt8) : List (List UInt8) × List UInt8 := if b = c then (p.1 ++ [p.2], []) else (p.1, p.2 ++ [b])
def sp (c : UInt8) (l : List UInt8) : List (List UInt8) × List UInt8 := l.foldl (spStep c) ([], [])
def splitL (c : UInt8) (l : List UInt8) : List (List UInt8) := (sp c l).1 ++ [(sp c l).2]
def strV (l : List UInt8) : Value := .string ⟨l.toArray⟩

theorem sp_snoc (c : UInt8) (l : List UInt8) (b : UInt8) : sp c (l ++ [b]) = spStep c (sp c l) b := by simp [sp, List.foldl_append]
theorem sp_snoc_eq (c : UInt8) (l : List UInt8) : sp c (l ++ [c]) = ((sp c l).1 ++ [(sp c l).2], []) := by rw [sp_snoc]; simp [spStep]
theorem sp_snoc_ne (c : UInt8) (l : List UInt8) {b : UInt8} (h : b ≠ c) : sp c (l ++ [b]) = ((sp c l).1, (sp c l).2 ++ [b]) := by rw [sp_snoc]; simp [spStep, h]
theorem fold_len (c : UInt8) (l : List UInt8) : ∀ p : List (List UInt8) × List UInt8, (l.foldl (spStep c) p).1.length ≤ p.1.length + l.length := by
  induction l with
  | nil => intro p; simp
  | cons b l ih =>
    intro p
    have h := ih (spStep c p b)
    have h2 : (spStep c p b).1.length ≤ p.1.length + 1 := by unfold spStep; split <;> simp
    simp only [List.foldl_cons, List.length_cons]
    omega
theorem sp_len (c : UInt8) (l : List UInt8) : (sp c l).1.length ≤ l.length := by
  have := fold_len c l ([], [])
  simpa [sp] using this
theorem extract_mk (s : ByteArray) (f k : Nat) : s.extract f k = ⟨((s.data.toList.take k).drop f).toArray⟩ := by
  apply ByteArray.ext
  apply Array.ext'
  simp [List.drop_take]
theorem drop_take_snoc (l : List UInt8) (b : UInt8) (f : Nat) (h : f ≤ l.length) : (l ++ [b]).drop f = l.drop f ++ [b] := by
  rw [List.drop_append_of_le_length h]
end M
end Go.Proofs.Ytlbnofkjjjbfnaa
