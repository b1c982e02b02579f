/-
  MATHEMATICS of orders, own to these proofs: entry orders; nodes entered one by one as long as some of the allowed ones can be; the largest entry set. No condition.
-/
import Derived.Test.YtdjmmgfjcchloaaOrdMath
import Derived.Test.YtdjmmgfjcchloaaGathM
import Derived.Test.YtdjmmgfjcchloaaHas
namespace Go.Proofs.Ytdjmmgfjcchloaa
open Go.RowKit
namespace M
-- entry orders
/-- an order that is read on from n -/
def ordF (m : Mz) : Nat → List Int → Option Nat
  | n, [] => some n
  | n, x :: l => if nodeB m.size x = true ∧ digB (nextN m n) x.toNat = true then ordF m (n ||| 2 ^ x.toNat) l else none
theorem ordF_append (m : Mz) : ∀ (l l' : List Int) (n : Nat), ordF m n (l ++ l') = (ordF m n l).bind fun k => ordF m k l'
  | [], _, _ => rfl
  | x :: l, l', n => by
    show (if _ then ordF m (n ||| 2 ^ x.toNat) (l ++ l') else none) = Option.bind (if _ then ordF m (n ||| 2 ^ x.toNat) l else none) _
    split
    · exact ordF_append m l l' _
    · rfl
theorem ordF_snoc {m : Mz} {l : List Int} {n k : Nat} (h : ordF m n l = some k) (x : Int) : ordF m n (l ++ [x]) = if nodeB m.size x = true ∧ digB (nextN m k) x.toNat = true then some (k ||| 2 ^ x.toNat) else none := by
  rw [ordF_append, h]; rfl
theorem ordF_none {m : Mz} {l : List Int} {n : Nat} (h : ordF m n l = none) (l' : List Int) : ordF m n (l ++ l') = none := by
  rw [ordF_append, h]; rfl
def orderN (m : Mz) (l : List Int) : Nat := (ordF m 0 l).getD 0
theorem pow_pos (p : Nat) : 0 < 2 ^ p := Nat.two_pow_pos p
theorem or_pos {a b : Nat} (h : 0 < b) : a ||| b ≠ 0 := fun h0 => by
  have : b ≤ a ||| b := Nat.right_le_or
  omega
theorem ordF_pos {m : Mz} : ∀ {l : List Int} {n k : Nat}, ordF m n l = some k → n ≠ 0 ∨ l ≠ [] → k ≠ 0
  | [], n, k, h, h0 => by
    injection h with h
    rcases h0 with h0 | h0
    · omega
    · exact absurd rfl h0
  | x :: l, n, k, h, _ => by
    unfold ordF at h
    split at h
    · exact ordF_pos h (.inl (or_pos (pow_pos _)))
    · cases h
theorem ordF_lt {m : Mz} (V : Valid m) : ∀ {l : List Int} {n k : Nat}, ordF m n l = some k → n < 4096 → k < 4096
  | [], n, k, h, hn => by injection h with h; omega
  | x :: l, n, k, h, hn => by
    unfold ordF at h
    split at h
    · rename_i hc
      have h1 := hc.1
      unfold nodeB at h1
      rw [decide_eq_true_iff] at h1
      have := V.size12
      exact ordF_lt V h (or_lt hn (pow12 (by omega)))
    · cases h
theorem order_some {m : Mz} {l : List Int} {k : Nat} (h : ordF m 0 l = some k) : orderN m l = k := by unfold orderN; rw [h]; rfl
theorem order_none {m : Mz} {l : List Int} (h : ordF m 0 l = none) : orderN m l = 0 := by unfold orderN; rw [h]; rfl
/-- what is told of an order's next node by the number and by the list -/
theorem next_both {m : Mz} (V : Valid m) {n : Nat} (h0 : n ≠ 0) (x : Int) : memB (nextL m n) x = decide (nodeB m.size x = true ∧ digB (nextN m n) x.toNat = true) := by
  rw [Bool.eq_iff_iff, decide_eq_true_iff]
  unfold memB
  rw [List.contains_iff_mem, mem_nextL]
  constructor
  · rintro ⟨p, rfl, hp, hb⟩
    refine ⟨?_, by rw [Int.toNat_natCast, digB_nextN V h0]; exact hb⟩
    unfold nodeB
    rw [decide_eq_true_iff]
    exact ⟨by omega, nextB_lt V hb⟩
  · rintro ⟨h1, h2⟩
    unfold nodeB at h1
    rw [decide_eq_true_iff] at h1
    have := V.size12
    exact ⟨x.toNat, by omega, by omega, by rw [← digB_nextN V h0]; exact h2⟩
theorem first_both {m : Mz} (V : Valid m) (x : Int) : (nodeB m.size x = true ∧ digB (nextN m 0) x.toNat = true) ↔ x = 0 := by
  have e : nextN m 0 = 2 ^ 0 := rfl
  rw [e, digB_pow, decide_eq_true_iff]
  unfold nodeB
  rw [decide_eq_true_iff]
  have := V.size1
  omega
-- nodes entered one by one
def nxtA (m : Mz) (a n : Nat) : Nat := a &&& nextN m n
def pickA (m : Mz) (a : Nat) (pick : List Int → Int) (n : Nat) : Int := pick (digsTo (nxtA m a n) 12)
def seqA (m : Mz) (a : Nat) (pick : List Int → Int) : Nat → List Int × Nat
  | 0 => ([], 0)
  | k + 1 => if nxtA m a (seqA m a pick k).2 = 0 then seqA m a pick k else ((seqA m a pick k).1 ++ [pickA m a pick (seqA m a pick k).2], (seqA m a pick k).2 ||| 2 ^ (pickA m a pick (seqA m a pick k).2).toNat)
def DoneA (m : Mz) (a : Nat) (pick : List Int → Int) (k : Nat) : Prop := nxtA m a (seqA m a pick k).2 = 0
theorem seqA_far {m : Mz} {a : Nat} {pick : List Int → Int} {k : Nat} (h : DoneA m a pick k) : ∀ j, seqA m a pick (k + j) = seqA m a pick k
  | 0 => rfl
  | j + 1 => by
    have ih := seqA_far h j
    rw [← Nat.add_assoc]
    show (if nxtA m a (seqA m a pick (k + j)).2 = 0 then seqA m a pick (k + j) else _) = _
    rw [ih]
    exact if_pos h
noncomputable def fullA (m : Mz) (a : Nat) (pick : List Int → Int) : List Int × Nat := @dite _ (∃ k, DoneA m a pick k) (Classical.propDecidable _) (fun h => seqA m a pick (Classical.choose h)) fun _ => ([], 0)
theorem fullA_eq {m : Mz} {a : Nat} {pick : List Int → Int} {k : Nat} (h : DoneA m a pick k) : fullA m a pick = seqA m a pick k := by
  unfold fullA
  have hx : ∃ k, DoneA m a pick k := ⟨k, h⟩
  rw [dif_pos hx]
  have hc := Classical.choose_spec hx
  generalize Classical.choose hx = j at hc
  rcases Nat.le_total j k with hl | hl
  · obtain ⟨i, rfl⟩ := Nat.le.dest hl
    rw [seqA_far hc]
  · obtain ⟨i, rfl⟩ := Nat.le.dest hl
    rw [seqA_far h]
theorem nxtA_lt (m : Mz) {a : Nat} (n : Nat) : nxtA m a n < 4096 := Nat.lt_of_le_of_lt Nat.and_le_right (nextN_lt m n)
theorem digB_nxtA (m : Mz) (a n p : Nat) : digB (nxtA m a n) p = (digB a p && digB (nextN m n) p) := by
  unfold nxtA; rw [digB_testBit, digB_testBit, digB_testBit, Nat.testBit_and]
/-- pick picks one of the list -/
def Picks (pick : List Int → Int) : Prop := ∀ l : List Int, l ≠ [] → pick l ∈ l
theorem digs_ne {n : Nat} (hn : n < 4096) (h0 : n ≠ 0) : digsTo n 12 ≠ [] := fun h => by
  have := mk_digs hn
  rw [h] at this
  exact h0 this.symm
theorem pickA_in {m : Mz} {a n : Nat} {pick : List Int → Int} (hp : Picks pick) (h : nxtA m a n ≠ 0) : ∃ p : Nat, pickA m a pick n = p ∧ p < 12 ∧ digB a p = true ∧ digB (nextN m n) p = true := by
  obtain ⟨p, h1, h2, h3⟩ := mem_digsTo.1 (hp _ (digs_ne (nxtA_lt m n) h))
  rw [digB_nxtA, Bool.and_eq_true] at h3
  exact ⟨p, h1, h2, h3.1, h3.2⟩
theorem or_new {n p : Nat} (h : digB n p = false) : n < n ||| 2 ^ p := by
  have h1 : n ≤ n ||| 2 ^ p := Nat.left_le_or
  rcases Nat.lt_or_eq_of_le h1 with h2 | h2
  · exact h2
  · have : digB (n ||| 2 ^ p) p = true := by rw [digB_or, digB_pow]; simp
    rw [← h2, h] at this
    cases this
theorem next_new {m : Mz} (V : Valid m) {n p : Nat} (h : digB (nextN m n) p = true) : digB n p = false := by
  by_cases h0 : n = 0
  · subst h0
    unfold digB
    simp
  · rw [digB_nextN V h0] at h
    unfold nextB at h
    rw [Bool.and_eq_true] at h
    simpa using h.1
/-- what holds of the nodes and their list on the way -/
theorem seqA_ok {m : Mz} (V : Valid m) {a : Nat} {pick : List Int → Int} (hp : Picks pick) : ∀ k, (seqA m a pick k).2 < 4096 ∧ (seqA m a pick k).1.length ≤ (seqA m a pick k).2 ∧ ordF m 0 (seqA m a pick k).1 = some (seqA m a pick k).2 ∧ (∀ x ∈ (seqA m a pick k).1, 0 ≤ x ∧ x < 12)
  | 0 => ⟨(by decide : (0 : Nat) < 4096), Nat.le_refl 0, rfl, fun x hx => by cases hx⟩
  | k + 1 => by
    obtain ⟨h1, h2, h3, h5⟩ := seqA_ok V hp k
    unfold seqA
    split
    · exact ⟨h1, h2, h3, h5⟩
    · rename_i hne
      obtain ⟨p, e, hp12, ha, hn⟩ := pickA_in hp hne
      rw [e, Int.toNat_natCast]
      have hnew := next_new V hn
      have hlt := or_new hnew
      refine ⟨or_lt h1 (pow12 hp12), ?_, ?_, ?_⟩
      · show ((seqA m a pick k).1 ++ [(p : Int)]).length ≤ _
        rw [List.length_append, List.length_singleton]
        show _ ≤ (seqA m a pick k).2 ||| 2 ^ p
        omega
      · show ordF m 0 ((seqA m a pick k).1 ++ [(p : Int)]) = some ((seqA m a pick k).2 ||| 2 ^ p)
        rw [ordF_snoc h3, if_pos, Int.toNat_natCast]
        rw [Int.toNat_natCast]
        refine ⟨?_, hn⟩
        unfold nodeB
        rw [decide_eq_true_iff]
        refine ⟨by omega, ?_⟩
        by_cases h0 : (seqA m a pick k).2 = 0
        · rw [h0] at hn
          have e0 : nextN m 0 = 2 ^ 0 := rfl
          rw [e0, digB_pow, decide_eq_true_iff] at hn
          have := V.size1
          omega
        · rw [digB_nextN V h0] at hn
          exact nextB_lt V hn
      · intro x hx
        rcases List.mem_append.1 hx with hx | hx
        · exact h5 x hx
        · rw [List.mem_singleton] at hx
          omega
theorem seqA_grow {m : Mz} (V : Valid m) {a : Nat} {pick : List Int → Int} (hp : Picks pick) {k : Nat} (h : ¬ DoneA m a pick k) : (seqA m a pick k).2 < (seqA m a pick (k + 1)).2 := by
  obtain ⟨p, e, _, _, hn⟩ := pickA_in hp h
  have hd : seqA m a pick (k + 1) = ((seqA m a pick k).1 ++ [pickA m a pick (seqA m a pick k).2], (seqA m a pick k).2 ||| 2 ^ (pickA m a pick (seqA m a pick k).2).toNat) := by
    exact if_neg h
  rw [hd, e, Int.toNat_natCast]
  exact or_new (next_new V hn)
theorem seqA_succ {m : Mz} {a : Nat} {pick : List Int → Int} {k : Nat} (h : ¬ DoneA m a pick k) : seqA m a pick (k + 1) = ((seqA m a pick k).1 ++ [pickA m a pick (seqA m a pick k).2], (seqA m a pick k).2 ||| 2 ^ (pickA m a pick (seqA m a pick k).2).toNat) := by
  exact if_neg h
-- the largest entry set
inductive EntS (m : Mz) (a : Nat) : Nat → Prop
  | one : EntS m a 1
  | add {n y : Nat} : EntS m a n → nextB m n y = true → digB a y = true → EntS m a (n ||| 2 ^ y)
def ClosedA (m : Mz) (a n : Nat) : Prop := ∀ y, nextB m n y = true → digB a y = false
def SubN (n n' : Nat) : Prop := ∀ p, digB n p = true → digB n' p = true
theorem EntS.zero {m : Mz} {a n : Nat} (h : EntS m a n) : digB n 0 = true := by
  induction h with
  | one => decide
  | add _ _ _ ih => rw [digB_or, ih]; rfl
theorem keys_sub {m : Mz} (V : Valid m) {n n' : Nat} (h : SubN n n') : SubS (keysN m n) (keysN m n') := by
  unfold keysN
  refine gath_least V (keysN_set V n') _ 0 ⟨by decide, by decide⟩ ((gath_set V _ 0 ⟨by decide, by decide⟩).2) fun x hx => ?_
  refine gath_key V _ 0 ⟨by decide, by decide⟩ x ?_
  obtain ⟨p, rfl, hp, hd⟩ := mem_digsTo.1 hx
  exact mem_digsTo.2 ⟨p, rfl, hp, h p hd⟩
theorem next_sub {m : Mz} (V : Valid m) {n n' : Nat} (h : SubN n n') {y : Nat} (hy : nextB m n y = true) : digB n' y = true ∨ nextB m n' y = true := by
  cases hd : digB n' y with
  | true => exact .inl rfl
  | false =>
    refine .inr ?_
    unfold nextB at hy ⊢
    rw [Bool.and_eq_true, List.any_eq_true] at hy
    obtain ⟨_, d, hm, h2⟩ := hy
    rw [hd, Bool.not_false, Bool.true_and, List.any_eq_true]
    refine ⟨d, hm, ?_⟩
    rw [Bool.and_eq_true, Bool.or_eq_true, Bool.and_eq_true, Bool.and_eq_true] at h2 ⊢
    refine ⟨open_more V (keysN_set V n) (keysN_set V n') (keys_sub V h) d hm h2.1, ?_⟩
    rcases h2.2 with ⟨h3, h4⟩ | ⟨h3, h4⟩
    · exact .inl ⟨h3, h _ h4⟩
    · exact .inr ⟨h3, h _ h4⟩
theorem EntS.inside {m : Mz} (V : Valid m) {a n n' : Nat} (h : EntS m a n) (h' : EntS m a n') (hc : ClosedA m a n') : SubN n n' := by
  induction h with
  | one =>
    intro p hp
    have e : (1 : Nat) = 2 ^ 0 := rfl
    rw [e, digB_pow, decide_eq_true_iff] at hp
    subst hp
    exact h'.zero
  | @add n y _ hy ha ih =>
    intro p hp
    rw [digB_or, Bool.or_eq_true] at hp
    rcases hp with hp | hp
    · exact ih p hp
    · rw [digB_pow, decide_eq_true_iff] at hp
      subst hp
      rcases next_sub V ih hy with h | h
      · exact h
      · rw [hc _ h] at ha
        cases ha
def Big (m : Mz) (a n : Nat) : Prop := EntS m a n ∧ ClosedA m a n
theorem Big.same {m : Mz} (V : Valid m) {a n n' : Nat} (h : Big m a n) (h' : Big m a n') : n = n' :=
  digB_ext fun p => by rw [Bool.eq_iff_iff]; exact ⟨h.1.inside V h'.1 h'.2 p, h'.1.inside V h.1 h.2 p⟩
noncomputable def bigN (m : Mz) (a : Nat) : Nat := @dite _ (∃ n, Big m a n) (Classical.propDecidable _) (fun h => Classical.choose h) fun _ => 0
theorem big_eq {m : Mz} (V : Valid m) {a n : Nat} (h : Big m a n) : bigN m a = n := by
  unfold bigN
  have hx : ∃ n, Big m a n := ⟨n, h⟩
  rw [dif_pos hx]
  exact (Classical.choose_spec hx).same V h
theorem seqA_ent {m : Mz} (V : Valid m) {a : Nat} {pick : List Int → Int} (hp : Picks pick) : ∀ k, (seqA m a pick k).2 = 0 ∨ EntS m a (seqA m a pick k).2
  | 0 => .inl rfl
  | k + 1 => by
    have ih := seqA_ent V (a := a) hp k
    unfold seqA
    split
    · exact ih
    · rename_i hne
      obtain ⟨p, e, hp12, ha, hn⟩ := pickA_in hp hne
      show _ ∨ EntS m a ((seqA m a pick k).2 ||| 2 ^ (pickA m a pick (seqA m a pick k).2).toNat)
      rw [e, Int.toNat_natCast]
      refine .inr ?_
      by_cases h0 : (seqA m a pick k).2 = 0
      · rw [h0] at hn ⊢
        have e0 : nextN m 0 = 2 ^ 0 := rfl
        rw [e0, digB_pow, decide_eq_true_iff] at hn
        subst hn
        exact .one
      · rcases ih with ih | ih
        · exact absurd ih h0
        · exact .add ih (by rw [← digB_nextN V h0]; exact hn) ha
/-- the nodes that are entered at last are those of the largest entry set -/
theorem seqA_big {m : Mz} (V : Valid m) {a : Nat} (ha : digB a 0 = true) {pick : List Int → Int} (hp : Picks pick) {k : Nat} (h : DoneA m a pick k) : bigN m a = (seqA m a pick k).2 := by
  refine big_eq V ⟨?_, ?_⟩
  · rcases seqA_ent V (a := a) hp k with h0 | h0
    · unfold DoneA at h
      rw [h0] at h
      have hd := digB_nxtA m a 0 0
      have e0 : nextN m 0 = 2 ^ 0 := rfl
      rw [h, ha, e0, digB_pow] at hd
      exact absurd hd (by decide)
    · exact h0
  · intro y hy
    have h0 : (seqA m a pick k).2 ≠ 0 := by
      intro h0
      rw [h0] at hy
      unfold nextB at hy
      rw [Bool.and_eq_true, List.any_eq_true] at hy
      obtain ⟨_, d, _, h2⟩ := hy
      have hz : ∀ p, digB 0 p = false := fun p => by unfold digB; simp
      rw [hz, hz] at h2
      simp at h2
    have hd := digB_nxtA m a (seqA m a pick k).2 y
    unfold DoneA at h
    rw [h, digB_nextN V h0, hy, Bool.and_true] at hd
    rw [← hd]
    unfold digB
    simp
theorem seqA_none {m : Mz} {a : Nat} (ha : digB a 0 = false) (pick : List Int → Int) : ∀ k, seqA m a pick k = ([], 0)
  | 0 => rfl
  | k + 1 => by
    have ih := seqA_none ha pick (m := m) k
    have hz : nxtA m a 0 = 0 := by
      refine digB_ext fun p => ?_
      rw [digB_nxtA]
      have e0 : nextN m 0 = 2 ^ 0 := rfl
      rw [e0, digB_pow]
      by_cases hp : 0 = p
      · subst hp; rw [ha]; unfold digB; simp
      · simp [hp, digB]
    unfold seqA
    rw [ih, if_pos hz]
end M
end Go.Proofs.Ytdjmmgfjcchloaa
