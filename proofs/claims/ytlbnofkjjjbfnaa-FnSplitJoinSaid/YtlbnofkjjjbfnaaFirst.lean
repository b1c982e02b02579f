/-
  PLAIN MATHEMATICS: the part of a list of bytes ahead of the first byte c is the head of what splitting gives, and what cutting at the first such byte gives. No condition; nothing of the program stands here.
-/
import Derived.Test.YtlbnofkjjjbfnaaSplitMath
import Derived.Lib.IndexLaws
namespace Go.Proofs.Ytlbnofkjjjbfnaa
namespace M
def fstL (c : UInt8) (l : List UInt8) : List UInt8 := l.takeWhile (· != c)
def fstB (c : UInt8) (s : ByteArray) : ByteArray := ⟨(fstL c s.data.toList).toArray⟩

theorem fold_head_some (c : UInt8) (l : List UInt8) : ∀ (d : List UInt8) (ds : List (List UInt8)) (cur : List UInt8), ((l.foldl (spStep c) (d :: ds, cur)).1 ++ [(l.foldl (spStep c) (d :: ds, cur)).2])[0]? = some d := by
  induction l with
  | nil => intro d ds cur; simp
  | cons b l ih =>
    intro d ds cur
    by_cases h : b = c
    · simp only [List.foldl_cons, spStep, h, if_true]
      exact ih d (ds ++ [cur]) []
    · simp only [List.foldl_cons, spStep, h, if_false]
      exact ih d ds (cur ++ [b])
theorem fold_head (c : UInt8) (l : List UInt8) : ∀ cur : List UInt8, ((l.foldl (spStep c) ([], cur)).1 ++ [(l.foldl (spStep c) ([], cur)).2])[0]? = some (cur ++ fstL c l) := by
  induction l with
  | nil => intro cur; simp [fstL]
  | cons b l ih =>
    intro cur
    by_cases h : b = c
    · simp only [List.foldl_cons, spStep, h, if_true]
      have := fold_head_some c l cur [] []
      simp only [List.nil_append]
      rw [this]
      simp [fstL]
    · simp only [List.foldl_cons, spStep, h, if_false]
      rw [ih (cur ++ [b])]
      simp [fstL, h]
theorem split_head (c : UInt8) (l : List UInt8) : (splitL c l)[0]? = some (fstL c l) := by
  have := fold_head c l []
  simpa [splitL, sp] using this
theorem split_len (c : UInt8) (l : List UInt8) : 0 < (splitL c l).length := by simp [splitL]

theorem fst_take {c : UInt8} : ∀ {l : List UInt8} {o : Nat}, l[o]? = some c → (∀ k, k < o → l[k]? ≠ some c) → fstL c l = l.take o
  | [], o, h, _ => by simp at h
  | b :: l, 0, h, _ => by
    simp at h
    subst h
    simp [fstL]
  | b :: l, o + 1, h, hk => by
    have hb : b ≠ c := fun e => hk 0 (by omega) (by simp [e])
    have ih := fst_take (l := l) (o := o) (by simpa using h) (fun k hko => by simpa using hk (k + 1) (by omega))
    simp only [fstL] at ih ⊢
    simp [hb, ih]
theorem fst_none {c : UInt8} {l : List UInt8} (h : c ∉ l) : fstL c l = l := by
  induction l with
  | nil => rfl
  | cons b l ih =>
    simp at h
    have hb : b ≠ c := fun e => h.1 e.symm
    have := ih h.2
    simp only [fstL] at this ⊢
    simp [hb, this]
theorem fst_free (c : UInt8) (l : List UInt8) : c ∉ fstL c l := by
  induction l with
  | nil => simp [fstL]
  | cons b l ih =>
    by_cases hb : b = c
    · simp [fstL, hb]
    · simp only [fstL] at ih ⊢
      simp [hb]
      exact ⟨fun e => hb e.symm, by simpa using ih⟩
theorem fst_pre (c : UInt8) (l : List UInt8) : ∃ r, l = fstL c l ++ r := ⟨l.dropWhile (· != c), (List.takeWhile_append_dropWhile).symm⟩
theorem fst_len (c : UInt8) (l : List UInt8) : (fstL c l).length ≤ l.length := by
  obtain ⟨r, h⟩ := fst_pre c l
  have := congrArg List.length h
  simp at this
  omega
theorem fstB_size (c : UInt8) (s : ByteArray) : (fstB c s).size ≤ s.size := by
  have := fst_len c s.data.toList
  have h2 : (fstB c s).size = (fstL c s.data.toList).length := by simp [fstB, ByteArray.size]
  rw [h2]
  simpa using this
theorem fst_append_cons {c : UInt8} {l r : List UInt8} (h : c ∉ l) : fstL c (l ++ c :: r) = l := by
  unfold fstL
  rw [List.takeWhile_append_of_pos (by intro x hx; simp; rintro rfl; exact h hx)]
  simp
theorem fold_shift (c : UInt8) (l : List UInt8) : ∀ (d : List (List UInt8)) (cur : List UInt8), l.foldl (spStep c) (d, cur) = (d ++ (l.foldl (spStep c) ([], cur)).1, (l.foldl (spStep c) ([], cur)).2) := by
  induction l with
  | nil => intro d cur; simp
  | cons b l ih =>
    intro d cur
    by_cases h : b = c
    · simp only [List.foldl_cons, spStep, h, if_true]
      rw [ih (d ++ [cur]) [], ih ([] ++ [cur]) []]
      simp
    · simp only [List.foldl_cons, spStep, h, if_false]
      exact ih d (cur ++ [b])
theorem fold_free (c : UInt8) (l : List UInt8) (h : c ∉ l) : ∀ (d : List (List UInt8)) (cur : List UInt8), l.foldl (spStep c) (d, cur) = (d, cur ++ l) := by
  induction l with
  | nil => intro d cur; simp
  | cons b l ih =>
    intro d cur
    simp at h
    have hb : b ≠ c := fun e => h.1 e.symm
    simp only [List.foldl_cons, spStep, hb, if_false]
    rw [ih h.2]
    simp
theorem split_free (c : UInt8) (l : List UInt8) (h : c ∉ l) : splitL c l = [l] := by
  unfold splitL sp
  rw [fold_free c l h]
  simp
theorem split_cons (c : UInt8) (a b : List UInt8) (h : c ∉ a) : splitL c (a ++ c :: b) = a :: splitL c b := by
  unfold splitL sp
  rw [List.foldl_append, fold_free c a h, List.foldl_cons]
  have e : spStep c ([], [] ++ a) c = ([a], []) := by simp [spStep]
  rw [e, fold_shift]
  simp
end M
end Go.Proofs.Ytlbnofkjjjbfnaa
