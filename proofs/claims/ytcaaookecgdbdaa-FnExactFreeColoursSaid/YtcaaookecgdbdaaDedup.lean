/-
  MATHEMATICS of doors that stand once, own to these proofs: a sorted list without its doubles is what putting one by one makes. No condition.
-/
import Derived.Test.YtcaaookecgdbdaaFreeS
import Derived.Test.YtcaaookecgdbdaaWithSets
namespace Go.Proofs.Ytcaaookecgdbdaa
open Go.RowKit
namespace M
def newAt (l : List Dr) (k : Nat) : Bool := decide (k = 0 ∨ l.getD k default ≠ l.getD (k - 1) default)
def ddTo (l : List Dr) : Nat → List Dr
  | 0 => []
  | k + 1 => if newAt l k then ddTo l k ++ [l.getD k default] else ddTo l k
theorem ddTo_yes {l : List Dr} {k : Nat} (hk : k < l.length) (h : newAt l k = true) : ddTo l (k + 1) = ddTo l k ++ [l[k]] := by
  show (if newAt l k then _ else _) = _
  rw [if_pos h, List.getD_eq_getElem?_getD, List.getElem?_eq_getElem hk]; rfl
theorem ddTo_no {l : List Dr} {k : Nat} (h : newAt l k = false) : ddTo l (k + 1) = ddTo l k := by
  show (if newAt l k then _ else _) = _
  rw [h]; rfl
theorem ddTo_len (l : List Dr) : ∀ k, (ddTo l k).length ≤ k
  | 0 => Nat.le_refl _
  | k + 1 => by
    have := ddTo_len l k
    show (if newAt l k then ddTo l k ++ [l.getD k default] else ddTo l k).length ≤ _
    split
    · simp; omega
    · omega
theorem leD_lt {a b : Dr} (h : leD a b = true) (hne : a ≠ b) : ltD a b = true := by
  unfold leD at h
  cases hab : ltD a b with
  | true => rfl
  | false => exact absurd (ltD_tri hab (by simpa using h)) hne
theorem leD_lt_trans {a b c : Dr} (h1 : leD a b = true) (h2 : ltD b c = true) : ltD a c = true := by
  by_cases he : a = b
  · rw [he]; exact h2
  · exact ltD_trans (leD_lt h1 he) h2
theorem dd_inv {l : List Dr} (h : l.Pairwise fun a b => leD a b = true) : ∀ k, k ≤ l.length → Asc ltD (ddTo l k) ∧ ∀ x, x ∈ ddTo l k ↔ x ∈ l.take k := by
  intro k
  induction k with
  | zero => intro _; exact ⟨Asc.nil, fun x => by simp [ddTo]⟩
  | succ k ih =>
    intro hk
    obtain ⟨h1, h2⟩ := ih (by omega)
    have hkl : k < l.length := by omega
    have hge : l.getD k default = l[k] := by rw [List.getD_eq_getElem?_getD, List.getElem?_eq_getElem hkl]; rfl
    cases hn : newAt l k with
    | true =>
      rw [ddTo_yes hkl hn]
      constructor
      · unfold Asc at h1 ⊢
        rw [List.pairwise_append]
        refine ⟨h1, by simp, fun a ha b hb => ?_⟩
        rw [List.mem_singleton] at hb
        subst hb
        obtain ⟨j, hj, rfl⟩ := List.mem_iff_getElem.1 ((h2 a).1 ha)
        rw [List.length_take] at hj
        rw [List.getElem_take]
        obtain ⟨i, rfl⟩ : ∃ i, k = i + 1 := ⟨k - 1, by omega⟩
        have hne : l[i] ≠ l[i + 1] := by
          unfold newAt at hn
          rw [decide_eq_true_iff] at hn
          rcases hn with hn | hn
          · omega
          · rw [hge, Nat.add_sub_cancel, List.getD_eq_getElem?_getD, List.getElem?_eq_getElem (by omega)] at hn
            exact Ne.symm hn
        have hi : ltD l[i] l[i + 1] = true := leD_lt (List.pairwise_iff_getElem.1 h i (i + 1) (by omega) hkl (by omega)) hne
        rcases Nat.lt_or_ge j i with hji | hji
        · exact leD_lt_trans (List.pairwise_iff_getElem.1 h j i (by omega) (by omega) hji) hi
        · obtain rfl : j = i := by omega
          exact hi
      · intro x
        rw [List.take_succ_eq_append_getElem hkl, List.mem_append, List.mem_append, h2]
    | false =>
      rw [ddTo_no hn]
      refine ⟨h1, fun x => ?_⟩
      rw [List.take_succ_eq_append_getElem hkl, List.mem_append, h2, List.mem_singleton]
      constructor
      · exact .inl
      · rintro (hx | rfl)
        · exact hx
        · unfold newAt at hn
          rw [decide_eq_false_iff_not] at hn
          have hk0 : k ≠ 0 := fun e => hn (.inl e)
          have he : l.getD k default = l.getD (k - 1) default := Decidable.byContradiction fun e => hn (.inr e)
          rw [hge, List.getD_eq_getElem?_getD, List.getElem?_eq_getElem (by omega)] at he
          have he' : l[k] = l[k - 1] := he
          rw [he']
          exact List.mem_iff_getElem.2 ⟨k - 1, by rw [List.length_take]; omega, by rw [List.getElem_take]⟩
/-- the two ways make the same doors -/
theorem free_dd (m : Mz) (set : Int) : freeTo m set m.doors.length = ddTo (srt (replaced (freeN set) m).doors) (replaced (freeN set) m).doors.length := by
  have hl : (srt (replaced (freeN set) m).doors).length = (replaced (freeN set) m).doors.length := srt_len _
  obtain ⟨h1, h2⟩ := dd_inv (srt_sorted (replaced (freeN set) m).doors) _ (Nat.le_of_eq hl.symm)
  unfold freeTo
  refine putAll_eq ordD Asc.nil h1 fun x => ?_
  rw [h2, List.take_of_length_le (Nat.le_of_eq hl), mem_srt, List.take_of_length_le (Nat.le_refl _)]
  constructor
  · exact .inr
  · rintro (h | h)
    · cases h
    · exact h
theorem free_keys (m : Mz) (set : Int) : freeKs m set m.keys.length = (replaced (freeN set) m).keys := by unfold freeKs; rw [List.take_of_length_le (Nat.le_refl _)]; rfl
end M
end Go.Proofs.Ytcaaookecgdbdaa
