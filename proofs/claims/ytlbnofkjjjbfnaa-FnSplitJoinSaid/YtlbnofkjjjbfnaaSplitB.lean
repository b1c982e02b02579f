/-
  CONTRACTS in pairs: SplitString of the program and of the model give one and the same list of strings, each in a row of its own, and one and the same Bool; what lay in memory stays. Condition: both strings have at most 1048576 bytes.
-/
import Derived.Test.YtlbnofkjjjbfnaaSplitI
import Derived.Test.YtlbnofkjjjbfnaaJoin3
namespace Go.Proofs.Ytlbnofkjjjbfnaa
open Go.RowKit
namespace C
def SpPost (ss : List ByteArray) (b : Bool) (W : World) (e : Ending) (w' : World) : Prop :=
  ∃ g cap, e = .returned (.tuple #[.slice (some ⟨g, 0, none⟩) ss.length cap, .bool b]) ∧ ss.length ≤ cap ∧
    w'.ownsRow W.heap.size 9 1 (.slice (some ⟨g, 0, none⟩) ss.length cap) ss.length (ss.map Value.string) ∧ Below W.heap.size W w'
def toB (l : List UInt8) : ByteArray := ⟨l.toArray⟩
theorem own_cap {w : World} {B g n cap : Nat} {e : TypeId} {xs : List Value} (h : w.ownsRow B e 1 (.slice (some ⟨g, 0, none⟩) n cap) n xs) : n ≤ cap := by
  rcases h.2 with ⟨h1, _⟩ | ⟨g', cap', cur, hv, _, _, hnc, _⟩
  · cases h1
  · injection hv with _ _ h3
    omega
theorem spPost_one {s : ByteArray} {c : UInt8} {W w' : World} {e : Ending}
    (h : ∃ v, e = .returned (.tuple #[v, .bool true]) ∧ w'.ownsRow W.heap.size 9 1 v (M.splitL c s.data.toList).length ((M.splitL c s.data.toList).map M.strV) ∧ Below W.heap.size W w') :
    SpPost ((M.splitL c s.data.toList).map toB) true W e w' := by
  obtain ⟨v, rfl, hown, hb⟩ := h
  have hlen := M.split_len c s.data.toList
  obtain ⟨k, hk⟩ : ∃ k, (M.splitL c s.data.toList).length = k + 1 := ⟨_, (Nat.succ_pred_eq_of_pos hlen).symm⟩
  rw [hk] at hown
  obtain ⟨g, cap, rfl⟩ := ownsRow_succ hown
  have e2 : ((M.splitL c s.data.toList).map toB).length = k + 1 := by rw [List.length_map, hk]
  have e3 : ((M.splitL c s.data.toList).map toB).map Value.string = (M.splitL c s.data.toList).map M.strV := by rw [List.map_map]; rfl
  refine ⟨g, cap, ?_, ?_, ?_, hb⟩
  · rw [e2]
  · rw [e2]; exact own_cap hown
  · rw [e2, e3]; exact hown
theorem spPost_bad {W w' : World} {e : Ending} (h : e = .returned (.tuple #[.slice (some ⟨W.heap.size, 0, none⟩) 0 0, .bool false]) ∧ w' = W.alloc (.cells #[] 9)) : SpPost [] false W e w' := by
  obtain ⟨rfl, rfl⟩ := h
  exact ⟨_, _, rfl, Nat.le_refl _, ownsRow_empty _ _ _ _ (Nat.le_refl _), (Below.refl _ _).alloc (Nat.le_refl _) _⟩
theorem split_both (s sep : ByteArray) (h1 : s.size ≤ 1048576) (h2 : sep.size ≤ 1048576) : ∃ (ss : List ByteArray) (b : Bool), ss.length ≤ 4001 ∧
    (∀ W, Calls Try.prog 10 #[.string s, .string sep] W (SpPost ss b W)) ∧
    (∀ W, Calls Try.prog 17 #[.string s, .string sep] W (SpPost ss b W)) ∧
    (∀ c, sep = ⟨#[c]⟩ → s.size ≤ 4000 → ss = (M.splitL c s.data.toList).map toB ∧ b = true) ∧ (sep.size ≠ 1 → ss = [] ∧ b = false) := by
  by_cases hb : 4000 < s.size ∨ sep.size ≠ 1
  · refine ⟨[], false, by simp, fun W => (implSplit_bad s sep hb h1 W).mono fun e w' h => spPost_bad h, fun W => (specSplit_bad s sep hb h1 W).mono fun e w' h => spPost_bad h, ?_, fun _ => ⟨rfl, rfl⟩⟩
    rintro c rfl hs
    rcases hb with hb | hb
    · omega
    · exact absurd rfl hb
  · have hs : s.size ≤ 4000 := by omega
    have hp : sep.size = 1 := by omega
    obtain ⟨c, rfl⟩ := one_byte hp
    have hN := M.split_le c s.data.toList
    have hN2 : s.data.toList.length = s.size := by rw [Array.length_toList]; rfl
    refine ⟨(M.splitL c s.data.toList).map toB, true, by rw [List.length_map]; omega, fun W => (implSplit_one s c hs W).mono fun e w' h => spPost_one h, fun W => (specSplit_one s c hs W).mono fun e w' h => spPost_one h, ?_, fun h => absurd rfl h⟩
    intro c' e _
    have : c = c' := by injection e with e; simpa using e
    subst this
    exact ⟨rfl, rfl⟩
end C
end Go.Proofs.Ytlbnofkjjjbfnaa
