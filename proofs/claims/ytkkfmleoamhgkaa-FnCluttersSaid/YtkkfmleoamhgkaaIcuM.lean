/-
  MATHEMATICS of lists that are clutters, own to these proofs. No condition.
-/
import Derived.Test.YtkkfmleoamhgkaaCluI
namespace Go.Proofs.Ytkkfmleoamhgkaa
open Go.RowKit
namespace M
theorem setB_iff {z : Int} : setB z = true ↔ 0 ≤ z ∧ z < 64 := by unfold setB; exact decide_eq_true_iff
/-- a list of sets that ascends as a clutter does, and of which none has all colours of another one -/
def CluOk (l : List St6) : Prop := Asc ltS l ∧ ∀ x ∈ l, ∀ y ∈ l, subF x y = true → x = y
def isCluB (l : List Int) : Bool := decide (l.length ≤ 20) && (keysB l && decide (cluV l = l))
theorem isClu_iff {l : List Int} : isCluB l = true ↔ l.length ≤ 20 ∧ ∃ sl, l = intsF sl ∧ CluOk sl := by
  unfold isCluB
  rw [Bool.and_eq_true, Bool.and_eq_true, decide_eq_true_iff, decide_eq_true_iff]
  constructor
  · rintro ⟨h1, h2, h3⟩
    obtain ⟨sl, rfl, hc⟩ := cluV_yes h2
    rw [hc] at h3
    exact ⟨h1, sl, rfl, cluF_self.1 (intsF_inj h3)⟩
  · rintro ⟨h1, sl, rfl, hc⟩
    exact ⟨h1, keysB_intsF sl, by rw [cluV_intsF, cluF_self.2 hc]⟩
/-- what is known of the first i of a list -/
def GoodTo (l : List Int) (i : Nat) (sl : List St6) : Prop := l.take i = intsF sl ∧ CluOk sl
theorem good_zero (l : List Int) : GoodTo l 0 [] := ⟨rfl, Asc.nil, fun x hx => (by cases hx)⟩
theorem good_len {l : List Int} {i : Nat} {sl : List St6} (h : GoodTo l i sl) (hi : i ≤ l.length) : sl.length = i := by
  have := congrArg List.length h.1
  rw [List.length_take, intsF_len] at this
  omega
theorem good_get {l : List Int} {i j : Nat} {sl : List St6} (h : GoodTo l i sl) (hi : i ≤ l.length) (hj : j < i) : ∃ hs : j < sl.length, l[j]'(by omega) = ((sl[j]).val : Int) := by
  have hs : j < sl.length := by rw [good_len h hi]; exact hj
  refine ⟨hs, ?_⟩
  have := congrArg (fun z : List Int => z[j]?) h.1
  change (l.take i)[j]? = (intsF sl)[j]? at this
  rw [List.getElem?_take_of_lt hj, List.getElem?_eq_getElem (by omega), List.getElem?_eq_getElem (by rw [intsF_len]; exact hs), intsF_at hs] at this
  exact Option.some.inj this
/-- of what is a clutter the first i are one, too -/
theorem good_of {l : List Int} (h : isCluB l = true) (i : Nat) : ∃ sl, GoodTo l i sl := by
  obtain ⟨_, sl, rfl, h1, h2⟩ := isClu_iff.1 h
  refine ⟨sl.take i, ?_, ?_, ?_⟩
  · unfold intsF; rw [List.map_take]
  · exact List.Pairwise.sublist (List.take_sublist i sl) h1
  · exact fun x hx y hy => h2 x (List.mem_of_mem_take hx) y (List.mem_of_mem_take hy)
theorem good_uniq {l : List Int} {i : Nat} {sl sl' : List St6} (h : GoodTo l i sl) (h' : GoodTo l i sl') : sl = sl' := intsF_inj (h.1.symm.trans h'.1)
/-- one more element -/
theorem good_next {l : List Int} {i : Nat} {sl : List St6} (h : GoodTo l i sl) (hi : i < l.length) {a : St6} (ha : l[i] = (a.val : Int)) (hlt : ∀ x ∈ sl, ltS x a = true) (hno : ∀ x ∈ sl, subF x a = false) : GoodTo l (i + 1) (sl ++ [a]) := by
  refine ⟨?_, ?_, ?_⟩
  · rw [List.take_succ_eq_append_getElem hi, h.1, ha, intsF_snoc]
  · unfold Asc
    rw [List.pairwise_append]
    exact ⟨h.2.1, List.pairwise_singleton _ _, fun x hx y hy => by rw [List.mem_singleton] at hy; subst hy; exact hlt x hx⟩
  · intro x hx y hy hxy
    rcases List.mem_append.1 hx with h1 | h1 <;> rcases List.mem_append.1 hy with h2 | h2
    · exact h.2.2 x h1 y h2 hxy
    · rw [List.mem_singleton] at h2; subst h2
      rw [hno x h1] at hxy; cases hxy
    · rw [List.mem_singleton] at h1; subst h1
      rcases sub_lt_fin _ _ hxy with e | e
      · exact e
      · have := ordS.trans e (hlt y h2)
        rw [ordS.irrefl] at this; cases this
    · rw [List.mem_singleton] at h1 h2; rw [h1, h2]
theorem good_end {l : List Int} {sl : List St6} (h : GoodTo l l.length sl) (hl : l.length ≤ 20) : isCluB l = true := by
  rw [isClu_iff]
  exact ⟨hl, sl, by have := h.1; rwa [List.take_of_length_le (Nat.le_refl _)] at this, h.2⟩
/-- what fails -/
theorem clu_noSet {l : List Int} {i : Nat} (hi : i < l.length) (h : setB l[i] = false) : isCluB l = false := by
  rw [Bool.eq_false_iff]
  intro hc
  obtain ⟨_, sl, rfl, _⟩ := isClu_iff.1 hc
  have := mem_intsF (List.getElem_mem hi)
  rw [← setB_iff, h] at this
  cases this
theorem clu_noLt {l : List Int} {i : Nat} {a b : St6} (hi : i + 1 < l.length) (ha : l[i] = (a.val : Int)) (hb : l[i + 1] = (b.val : Int)) (h : ltS a b = false) : isCluB l = false := by
  rw [Bool.eq_false_iff]
  intro hc
  obtain ⟨_, sl, rfl, h1, _⟩ := isClu_iff.1 hc
  rw [intsF_len] at hi
  rw [intsF_at (by omega)] at ha hb
  have e1 : sl[i] = a := Fin.ext (by omega)
  have e2 : sl[i + 1] = b := Fin.ext (by omega)
  have := Asc.sorted h1 i hi
  rw [e1, e2, h] at this
  cases this
theorem clu_noSub {l : List Int} {i j : Nat} {a b : St6} (hj : j < i) (hi : i < l.length) (ha : l[j] = (a.val : Int)) (hb : l[i] = (b.val : Int)) (h : subF a b = true) : isCluB l = false := by
  rw [Bool.eq_false_iff]
  intro hc
  obtain ⟨_, sl, rfl, h1, h2⟩ := isClu_iff.1 hc
  rw [intsF_len] at hi
  rw [intsF_at (by omega)] at ha hb
  have e1 : sl[j] = a := Fin.ext (by omega)
  have e2 : sl[i] = b := Fin.ext (by omega)
  have := h2 a (by rw [← e1]; exact List.getElem_mem _) b (by rw [← e2]; exact List.getElem_mem _) h
  subst this
  have hlt := List.pairwise_iff_getElem.1 h1 j i (by omega) hi hj
  rw [e1, e2, ordS.irrefl] at hlt
  cases hlt
theorem clu_long {l : List Int} (h : 20 < l.length) : isCluB l = false := by
  unfold isCluB
  rw [decide_eq_false (by omega), Bool.false_and]
/-- whether a set meets all of a list -/
def meetB (l : List Int) (s : Int) : Bool := l.all fun x => !(bits .and .i64 x s == 0)
theorem meet_any (l : List Int) (s : Int) : (!(l.any fun x => bits .and .i64 x s == 0)) = meetB l s := by
  unfold meetB
  induction l with
  | nil => rfl
  | cons x l ih => rw [List.any_cons, List.all_cons, Bool.not_or, ih]
def meetF (l : List Int) (a : St6) : Bool := meetB l (a.val : Int)
theorem meet_fin : ∀ x a b : Fin 64, subF a b = true → bits .and .i64 (x.val : Int) (b.val : Int) = 0 → bits .and .i64 (x.val : Int) (a.val : Int) = 0 := by
  intro x a b h h0
  unfold subF at h
  rw [beq_iff_eq] at h
  rw [and_nat x.isLt b.isLt] at h0
  rw [and_nat x.isLt a.isLt]
  have h1 : x.val &&& b.val = 0 := by omega
  have : x.val &&& a.val = 0 := by
    rw [← h, ← Nat.and_assoc, h1, Nat.zero_and]
  rw [this]; rfl
theorem meetF_more {l : List Int} (hl : keysB l = true) (a b : St6) (h : subF a b = true) (hm : meetF l a = true) : meetF l b = true := by
  unfold meetF meetB at *
  rw [List.all_eq_true] at *
  intro x hx
  have h1 := hm x hx
  have hs := keysB_sets hl x hx
  rw [Bool.not_eq_true', beq_eq_false_iff_ne] at *
  intro h0
  apply h1
  have := meet_fin ⟨x.toNat, by omega⟩ a b h
  simp only [Int.toNat_of_nonneg hs.1] at this
  exact this h0
theorem clu_keys {l : List Int} (h : isCluB l = true) : keysB l = true := by
  unfold isCluB at h
  rw [Bool.and_eq_true, Bool.and_eq_true] at h
  exact h.2.1
theorem clu_len {l : List Int} (h : isCluB l = true) : l.length ≤ 20 := (isClu_iff.1 h).1
end M
end Go.Proofs.Ytkkfmleoamhgkaa
