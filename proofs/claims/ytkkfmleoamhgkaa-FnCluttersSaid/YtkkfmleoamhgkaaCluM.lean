/-
  MATHEMATICS of clutters, own to these proofs: the least ones of some sets of colours, as the program keeps them of a sorted list and as the model picks them. No condition.
-/
import Derived.Test.YtkkfmleoamhgkaaPutMath
namespace Go.Proofs.Ytkkfmleoamhgkaa
open Go.RowKit
namespace M
-- sets of colours
abbrev St6 := Fin 64
def cnt (a : St6) : Nat := (List.range 6).countP fun c => a.val.testBit c
def subF (a b : St6) : Bool := b.val &&& a.val == a.val
def ltS (a b : St6) : Bool := decide (cnt a < cnt b ∨ cnt a = cnt b ∧ a.val < b.val)
theorem subF_refl (a : St6) : subF a a = true := by unfold subF; rw [Nat.and_self, beq_self_eq_true]
theorem subF_trans {a b c : St6} (h1 : subF a b = true) (h2 : subF b c = true) : subF a c = true := by
  unfold subF at *
  rw [beq_iff_eq] at *
  rw [← h1, ← Nat.and_assoc, h2]
theorem subF_antisymm {a b : St6} (h1 : subF a b = true) (h2 : subF b a = true) : a = b := by
  unfold subF at *
  rw [beq_iff_eq] at *
  exact Fin.ext (by rw [← h1, Nat.and_comm, h2])
theorem sub_lt_fin : ∀ a b : St6, subF a b = true → a = b ∨ ltS a b = true := by decide +kernel
theorem ordS : Ord ltS := ⟨fun a => by simp [ltS], fun h1 h2 => by unfold ltS at *; simp only [decide_eq_true_eq] at *; omega, fun h1 h2 => by
  unfold ltS at *; simp only [decide_eq_false_iff_not] at *; exact Fin.ext (by omega)⟩
/-- the least ones of some sets -/
def Least (P : St6 → Prop) (s : St6) : Prop := P s ∧ ∀ t, P t → subF t s = true → t = s
theorem snoc_ind {α : Type} {p : List α → Prop} (h0 : p []) (h1 : ∀ l x, p l → p (l ++ [x])) (l : List α) : p l := by
  have : ∀ r : List α, p r.reverse := fun r => by
    induction r with
    | nil => exact h0
    | cons x r ih => rw [List.reverse_cons]; exact h1 _ _ ih
  have h := this l.reverse
  rwa [List.reverse_reverse] at h
/-- what the program keeps of a sorted list -/
def keep1 (cl : List St6) (s : St6) : List St6 := if cl.any (fun t => subF t s) then cl else cl ++ [s]
def keepAll (l : List St6) : List St6 := l.foldl keep1 []
theorem keepAll_snoc (l : List St6) (s : St6) : keepAll (l ++ [s]) = keep1 (keepAll l) s := by unfold keepAll; rw [List.foldl_append]; rfl
theorem keepAll_take {l : List St6} {k : Nat} (h : k < l.length) : keepAll (l.take (k + 1)) = keep1 (keepAll (l.take k)) l[k] := by rw [List.take_succ_eq_append_getElem h, keepAll_snoc]
structure KeepOk (l cl : List St6) : Prop where
  asc : Asc ltS cl
  mem : ∀ x ∈ cl, x ∈ l
  all : ∀ x ∈ l, ∃ y ∈ cl, subF y x = true
  anti : ∀ x ∈ cl, ∀ y ∈ cl, subF x y = true → x = y
def leS (a b : St6) : Bool := !ltS b a
theorem keep_ok : ∀ (l : List St6), (l.Pairwise fun a b => leS a b = true) → KeepOk l (keepAll l) := by
  intro l
  induction l using snoc_ind with
  | h0 => exact fun _ => ⟨Asc.nil, fun x hx => (by cases hx), fun x hx => (by cases hx), fun x hx => (by cases hx)⟩
  | h1 l s ih =>
    intro hs
    rw [List.pairwise_append] at hs
    have K := ih hs.1
    have hle : ∀ x ∈ l, leS x s = true := fun x hx => hs.2.2 x hx s (List.mem_singleton.2 rfl)
    rw [keepAll_snoc]
    unfold keep1
    split
    · rename_i ha
      obtain ⟨y, hy, hys⟩ := List.any_eq_true.1 ha
      refine ⟨K.asc, fun x hx => List.mem_append_left _ (K.mem x hx), fun x hx => ?_, K.anti⟩
      rcases List.mem_append.1 hx with h | h
      · exact K.all x h
      · rw [List.mem_singleton] at h; subst h; exact ⟨y, hy, hys⟩
    · rename_i ha
      have hno : ∀ y ∈ keepAll l, subF y s = false := fun y hy => by
        rw [Bool.eq_false_iff]; exact fun h => ha (List.any_eq_true.2 ⟨y, hy, h⟩)
      have hlt : ∀ y ∈ keepAll l, ltS y s = true := fun y hy => by
        have h1 := hle y (K.mem y hy)
        unfold leS at h1
        rw [Bool.not_eq_true'] at h1
        cases h : ltS y s with
        | true => rfl
        | false =>
          have := ordS.tri h h1
          subst this
          have := hno y hy
          rw [subF_refl] at this
          cases this
      refine ⟨?_, fun x hx => ?_, fun x hx => ?_, fun x hx y hy hxy => ?_⟩
      · unfold Asc
        rw [List.pairwise_append]
        exact ⟨K.asc, List.pairwise_singleton _ _, fun x hx y hy => by rw [List.mem_singleton] at hy; subst hy; exact hlt x hx⟩
      · rcases List.mem_append.1 hx with h | h
        · exact List.mem_append_left _ (K.mem x h)
        · exact List.mem_append_right _ h
      · rcases List.mem_append.1 hx with h | h
        · obtain ⟨y, h1, h2⟩ := K.all x h
          exact ⟨y, List.mem_append_left _ h1, h2⟩
        · rw [List.mem_singleton] at h; subst h
          exact ⟨x, List.mem_append_right _ (List.mem_singleton.2 rfl), subF_refl x⟩
      · rcases List.mem_append.1 hx with h | h <;> rcases List.mem_append.1 hy with h' | h'
        · exact K.anti x h y h' hxy
        · rw [List.mem_singleton] at h'; subst h'
          rw [hno x h] at hxy; cases hxy
        · rw [List.mem_singleton] at h; subst h
          rcases sub_lt_fin _ _ hxy with e | e
          · exact e
          · have := ordS.trans e (hlt y h')
            rw [ordS.irrefl] at this; cases this
        · rw [List.mem_singleton] at h h'; rw [h, h']
theorem keep_mem {l : List St6} {cl : List St6} (K : KeepOk l cl) (x : St6) : x ∈ cl ↔ Least (· ∈ l) x := by
  constructor
  · intro hx
    refine ⟨K.mem x hx, fun t ht hs => ?_⟩
    obtain ⟨y, hy, hyt⟩ := K.all t ht
    have := K.anti y hy x hx (subF_trans hyt hs)
    subst this
    exact subF_antisymm hs hyt
  · rintro ⟨hx, hm⟩
    obtain ⟨y, hy, hyx⟩ := K.all x hx
    have := hm y (K.mem y hy) hyx
    subst this
    exact hy
def srtS (l : List St6) : List St6 := l.mergeSort leS
theorem leS_trans (a b c : St6) (h1 : leS a b = true) (h2 : leS b c = true) : leS a c = true := by
  unfold leS ltS at *; simp only [Bool.not_eq_true', decide_eq_false_iff_not] at *; omega
theorem leS_total (a b : St6) : (leS a b || leS b a) = true := by
  unfold leS ltS; rw [Bool.or_eq_true]; simp only [Bool.not_eq_true', decide_eq_false_iff_not]; omega
theorem srtS_perm (l : List St6) : (srtS l).Perm l := List.mergeSort_perm l leS
theorem srtS_sorted (l : List St6) : (srtS l).Pairwise fun a b => leS a b = true := List.pairwise_mergeSort leS_trans leS_total l
/-- the clutter of a list of sets -/
def cluF (l : List St6) : List St6 := keepAll (srtS l)
theorem cluF_ok (l : List St6) : KeepOk (srtS l) (cluF l) := keep_ok _ (srtS_sorted l)
theorem mem_cluF {l : List St6} {x : St6} : x ∈ cluF l ↔ Least (· ∈ l) x := by
  rw [keep_mem (cluF_ok l)]
  unfold Least
  simp only [(srtS_perm l).mem_iff]
theorem cluF_asc (l : List St6) : Asc ltS (cluF l) := (cluF_ok l).asc
/-- all sets in the order of a clutter -/
def allS : List St6 := (List.range 7).flatMap fun n => (List.finRange 64).filter fun a => cnt a == n
theorem allS_asc : Asc ltS allS := by
  have h : allS.Pairwise (fun a b => ltS a b = true) := by decide +kernel
  exact h
theorem mem_allS : ∀ a : St6, a ∈ allS := by decide +kernel
/-- what the model keeps -/
def bit6 (c : Nat) (a : St6) : St6 := ⟨a.val ^^^ (if c < 6 then 1 <<< c else 0), by
  have ha : a.val < 2 ^ 6 := a.isLt
  show _ < 2 ^ 6
  refine Nat.xor_lt_two_pow ha ?_
  split
  · rename_i h
    rw [Nat.one_shiftLeft]
    exact Nat.pow_lt_pow_right (by decide) h
  · decide⟩
def leastB (P : St6 → Bool) (a : St6) : Bool := P a && (List.range 6).all fun c => !(a.val.testBit c && P (bit6 c a))
def leastF (P : St6 → Bool) : List St6 := allS.filter (leastB P)
theorem less_bit : ∀ a t : St6, subF t a = true → t = a ∨ ∃ c : Fin 6, a.val.testBit c.val = true ∧ subF t (bit6 c.val a) = true := by decide +kernel
theorem bit_less : ∀ a : St6, ∀ c : Fin 6, a.val.testBit c.val = true → subF (bit6 c.val a) a = true ∧ bit6 c.val a ≠ a := by decide +kernel
theorem leastB_iff {P : St6 → Bool} (hP : ∀ a b, subF a b = true → P a = true → P b = true) (a : St6) : leastB P a = true ↔ Least (fun t => P t = true) a := by
  unfold leastB Least
  rw [Bool.and_eq_true, List.all_eq_true]
  constructor
  · rintro ⟨h1, h2⟩
    refine ⟨h1, fun t ht hs => ?_⟩
    rcases less_bit a t hs with e | ⟨c, hc, hsc⟩
    · exact e
    · have h3 := h2 c.val (List.mem_range.2 c.isLt)
      rw [hc, hP _ _ hsc ht] at h3
      simp at h3
  · rintro ⟨h1, h2⟩
    refine ⟨h1, fun c hc => ?_⟩
    rw [List.mem_range] at hc
    cases hb : a.val.testBit c with
    | false => rfl
    | true =>
      cases hp : P (bit6 c a) with
      | false => rfl
      | true =>
        obtain ⟨h3, h4⟩ := bit_less a ⟨c, hc⟩ hb
        exact absurd (h2 _ hp h3) h4
/-- both keep the same -/
theorem least_same {P : St6 → Bool} (hP : ∀ a b, subF a b = true → P a = true → P b = true) {l : List St6} (hl : ∀ a, Least (fun t => P t = true) a ↔ Least (· ∈ l) a) : leastF P = cluF l := by
  refine Asc.ext ordS (List.Pairwise.sublist List.filter_sublist allS_asc) (cluF_asc l) fun x => ?_
  rw [mem_cluF, ← hl, ← leastB_iff hP]
  unfold leastF
  rw [List.mem_filter]
  exact ⟨fun h => h.2, fun h => ⟨mem_allS x, h⟩⟩
/-- of a list that has just the sets of a kind -/
theorem least_all {P : St6 → Bool} (hP : ∀ a b, subF a b = true → P a = true → P b = true) {l : List St6} (hl : ∀ a, a ∈ l ↔ P a = true) : leastF P = cluF l :=
  least_same hP fun a => by unfold Least; simp only [hl]
/-- of any list -/
def hasOneB (l : List St6) (a : St6) : Bool := l.any fun t => subF t a
theorem hasOne_up (l : List St6) (a b : St6) (h : subF a b = true) (ha : hasOneB l a = true) : hasOneB l b = true := by
  obtain ⟨t, ht, hs⟩ := List.any_eq_true.1 ha
  exact List.any_eq_true.2 ⟨t, ht, subF_trans hs h⟩
theorem least_list (l : List St6) : leastF (hasOneB l) = cluF l :=
  least_same (hasOne_up l) fun a => by
    unfold Least
    constructor
    · rintro ⟨h1, h2⟩
      obtain ⟨t, ht, hs⟩ := List.any_eq_true.1 h1
      have : t = a := h2 t (List.any_eq_true.2 ⟨t, ht, subF_refl t⟩) hs
      subst this
      exact ⟨ht, fun u hu hs => h2 u (List.any_eq_true.2 ⟨u, hu, subF_refl u⟩) hs⟩
    · rintro ⟨h1, h2⟩
      refine ⟨List.any_eq_true.2 ⟨a, h1, subF_refl a⟩, fun t ht hs => ?_⟩
      obtain ⟨u, hu, hus⟩ := List.any_eq_true.1 ht
      have := h2 u hu (subF_trans hus hs)
      subst this
      exact subF_antisymm hs hus
/-- when a list is its own clutter -/
theorem cluF_self {l : List St6} : cluF l = l ↔ Asc ltS l ∧ ∀ x ∈ l, ∀ y ∈ l, subF x y = true → x = y := by
  constructor
  · intro h
    rw [← h]
    refine ⟨cluF_asc l, (cluF_ok l).anti⟩
  · rintro ⟨h1, h2⟩
    refine Asc.ext ordS (cluF_asc l) h1 fun x => ?_
    rw [mem_cluF]
    exact ⟨fun h => h.1, fun h => ⟨h, fun t ht hs => h2 t ht x h hs⟩⟩
end M
end Go.Proofs.Ytkkfmleoamhgkaa
