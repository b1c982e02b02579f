/-
  PLAIN MATHEMATICS: the parts of a string between the bytes c, joined again with c, give the string; none of them contains c. Condition: the string has at most 4000 bytes where its size is spoken of.
-/
import Derived.Test.YtlbnofkjjjbfnaaSplitB
import Derived.Test.YtlbnofkjjjbfnaaFirst
namespace Go.Proofs.Ytlbnofkjjjbfnaa
namespace M
theorem join_split (c : UInt8) : ∀ (n : Nat) (l : List UInt8), l.length ≤ n → Lib.join (splitL c l) [c] = l ∧ ∀ x ∈ splitL c l, c ∉ x := by
  intro n
  induction n with
  | zero =>
    intro l hl
    have : l = [] := List.length_eq_zero_iff.1 (by omega)
    subst this
    rw [split_free c [] (by simp)]
    exact ⟨Lib.join_one _ _, by simp⟩
  | succ n ih =>
    intro l hl
    by_cases hc : c ∈ l
    · obtain ⟨a, b, rfl, ha⟩ := List.eq_append_cons_of_mem hc
      rw [split_cons c a b ha]
      have hb := ih b (by rw [List.length_append, List.length_cons] at hl; omega)
      have hlen := split_len c b
      match hs : splitL c b, hlen, hb with
      | y :: ys, _, hb =>
        rw [Lib.join_cons] at hb ⊢
        refine ⟨?_, ?_⟩
        · have e : Lib.joinTail [c] (y :: ys) = c :: (y ++ Lib.joinTail [c] ys) := by simp [Lib.joinTail]
          rw [e, hb.1]
        · intro x hx
          rcases List.mem_cons.1 hx with rfl | hx
          · exact ha
          · exact hb.2 x hx
    · rw [split_free c l hc]
      exact ⟨Lib.join_one _ _, by intro x hx; rw [List.mem_singleton] at hx; rw [hx]; exact hc⟩
theorem map_back (l : List (List UInt8)) : (l.map C.toB).map (·.data.toList) = l := by
  rw [List.map_map]
  have : ((fun x : ByteArray => x.data.toList) ∘ C.toB) = id := by funext x; simp [C.toB]
  rw [this, List.map_id]
theorem back (s : ByteArray) (c : UInt8) : jB ((splitL c s.data.toList).map C.toB) ⟨#[c]⟩ = s := by
  unfold jB jL
  rw [map_back]
  have h := (join_split c _ s.data.toList (Nat.le_refl _)).1
  have e : (⟨#[c]⟩ : ByteArray).data.toList = [c] := rfl
  rw [e, h, mk_data]
end M
namespace C
theorem jok_split (s : ByteArray) (c : UInt8) (hs : s.size ≤ 4000) : JOk ((M.splitL c s.data.toList).map toB) c := by
  refine ⟨?_, ?_, by rw [M.back]; exact hs⟩
  · have := M.split_len c s.data.toList
    intro e
    have h := congrArg List.length e
    rw [List.length_map, List.length_nil] at h
    omega
  · intro x hx
    obtain ⟨y, hy, rfl⟩ := List.mem_map.1 hx
    have h := (M.join_split c _ s.data.toList (Nat.le_refl _)).2 y hy
    have e : (toB y).data.toList = y := by simp [toB]
    rw [e]
    simp [M.has, h]
theorem tot_split (s : ByteArray) (c : UInt8) (hs : s.size ≤ 4000) : M.tot ((M.splitL c s.data.toList).map toB) ≤ 4001 := by
  have h := jsize _ c (jok_split s c hs).1
  rw [M.back] at h
  omega
end C
end Go.Proofs.Ytlbnofkjjjbfnaa
