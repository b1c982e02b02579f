/-
  MATHEMATICS of entry sets, own to these proofs: lists of nodes and their numbers, the largest entry set of some nodes and of all nodes but one. No condition.
-/
import Derived.Test.YtdjmmgfjcchloaaOrdMath3
import Derived.Test.YtdjmmgfjcchloaaPick
import Derived.Test.YtdjmmgfjcchloaaTabN
namespace Go.Proofs.Ytdjmmgfjcchloaa
open Go.RowKit
namespace M
theorem mk_snocB : ∀ (l : List Int) (x : Int), mk (l ++ [x]) = mk l ||| 2 ^ x.toNat
  | [], x => by simp [mk]
  | y :: l, x => by show 2 ^ y.toNat ||| mk (l ++ [x]) = _; rw [mk_snocB l x, ← Nat.or_assoc]; rfl
theorem mk_take {l : List Int} {k : Nat} (h : k < l.length) : mk (l.take (k + 1)) = mk (l.take k) ||| 2 ^ l[k].toNat := by rw [List.take_succ_eq_append_getElem h, mk_snocB]
-- strictly ascending lists of nodes
def RiseTo (n : Int) (l : List Int) : Prop := Asc ltI l ∧ ∀ x ∈ l, 0 ≤ x ∧ x < n
noncomputable def riseB (n : Int) (l : List Int) : Bool := @decide (RiseTo n l) (Classical.propDecidable _)
theorem riseB_yes {n : Int} {l : List Int} (h : RiseTo n l) : riseB n l = true := @decide_eq_true _ (Classical.propDecidable _) h
theorem riseB_no {n : Int} {l : List Int} (h : ¬ RiseTo n l) : riseB n l = false := @decide_eq_false _ (Classical.propDecidable _) h
theorem riseB_iff {n : Int} {l : List Int} : riseB n l = true ↔ RiseTo n l := ⟨fun h => @of_decide_eq_true _ (Classical.propDecidable _) h, riseB_yes⟩
theorem RiseTo.take {n : Int} {l : List Int} (h : RiseTo n l) (k : Nat) : RiseTo n (l.take k) := ⟨List.Pairwise.sublist (List.take_sublist k l) h.1, fun x hx => h.2 x (List.mem_of_mem_take hx)⟩
theorem rise_nil (n : Int) : RiseTo n [] := ⟨Asc.nil, fun x hx => by cases hx⟩
theorem rise_snoc {n : Int} {l : List Int} {x : Int} : RiseTo n (l ++ [x]) ↔ RiseTo n l ∧ (0 ≤ x ∧ x < n) ∧ ∀ y ∈ l, y < x := by
  unfold RiseTo Asc
  rw [List.pairwise_append]
  constructor
  · rintro ⟨⟨h1, _, h3⟩, h4⟩
    refine ⟨⟨h1, fun y hy => h4 y (List.mem_append_left _ hy)⟩, h4 x (List.mem_append_right _ (List.mem_singleton.2 rfl)), fun y hy => ?_⟩
    have := h3 y hy x (List.mem_singleton.2 rfl)
    unfold ltI at this
    rwa [decide_eq_true_iff] at this
  · rintro ⟨⟨h1, h2⟩, h3, h4⟩
    refine ⟨⟨h1, List.pairwise_singleton _ _, fun y hy z hz => ?_⟩, fun y hy => ?_⟩
    · rw [List.mem_singleton] at hz
      subst hz
      unfold ltI
      rw [decide_eq_true_iff]
      exact h4 y hy
    · rcases List.mem_append.1 hy with hy | hy
      · exact h2 y hy
      · rw [List.mem_singleton] at hy
        subst hy
        exact h3
theorem rise_at {n : Int} {l : List Int} {k : Nat} (h : k < l.length) : RiseTo n (l.take (k + 1)) ↔ RiseTo n (l.take k) ∧ (0 ≤ l[k] ∧ l[k] < n) ∧ ∀ y ∈ l.take k, y < l[k] := by
  rw [List.take_succ_eq_append_getElem h, rise_snoc]
theorem rise_bad {n : Int} {l : List Int} {k : Nat} (h : ¬ RiseTo n (l.take k)) : riseB n l = false := riseB_no fun h' => h (h'.take k)
theorem rise_mk {n : Int} (hn : n ≤ 12) {l : List Int} (h : RiseTo n l) : mk l < 4096 ∧ ∀ p, digB (mk l) p = true → (p : Int) < n :=
  ⟨mk_lt fun x hx => by have := h.2 x hx; omega, fun p hp => by
    have := (digB_mk (fun x hx => (h.2 x hx).1) p).1 hp
    exact (h.2 _ this).2⟩
theorem rise_len {n : Int} (hn : n ≤ 12) {l : List Int} (h : RiseTo n l) : l.length ≤ 12 := nodup_len (n := 12) (by
    have := h.1
    unfold Asc at this
    refine this.imp fun {a b} hab => ?_
    rintro rfl
    rw [ordI.irrefl] at hab
    cases hab) fun z hz => by have := h.2 z hz; omega
/-- no digit from x on -/
theorem shift_zero {n x : Nat} : n / 2 ^ x = 0 ↔ ∀ p, digB n p = true → p < x := by
  constructor
  · intro h p hp
    rcases Nat.lt_or_ge p x with h1 | h1
    · exact h1
    · rw [digB_lt h h1] at hp; cases hp
  · intro h
    refine digB_ext fun p => ?_
    have hz : digB 0 p = false := by unfold digB; simp
    rw [hz]
    have e : digB (n / 2 ^ x) p = digB n (x + p) := by rw [digB_testBit, digB_testBit, Nat.testBit_div_two_pow, Nat.add_comm]
    rw [e]
    cases hd : digB n (x + p) with
    | false => rfl
    | true => have := h _ hd; omega
theorem rise_shift {n : Int} {l : List Int} (h : RiseTo n l) (x : Nat) : mk l / 2 ^ x = 0 ↔ ∀ y ∈ l, y < (x : Int) := by
  rw [shift_zero]
  constructor
  · intro hp y hy
    have h0 := (h.2 y hy).1
    have := hp y.toNat ((digB_mk (fun z hz => (h.2 z hz).1) _).2 (by rwa [show ((y.toNat : Nat) : Int) = y by omega]))
    omega
  · intro hy p hp
    have := hy _ ((digB_mk (fun z hz => (h.2 z hz).1) _).1 hp)
    omega
noncomputable def listB (m : Mz) (l : List Int) : Bool := mazeB m && riseB m.size l
noncomputable def entSetB (m : Mz) (l : List Int) : Bool := listB m l && (memB l 0 && decide (bigN m (mk l) = mk l))
noncomputable def bigB (m : Mz) (l : List Int) : Bool := listB m l && memB l 0
noncomputable def bigV (m : Mz) (l : List Int) : List Int := if bigB m l then digsTo (bigN m (mk l)) 12 else []
theorem listB_no {m : Mz} (h : mazeB m = false) (l : List Int) : listB m l = false := by unfold listB; rw [h]; rfl
theorem listB_yes {m : Mz} (h : mazeB m = true) (l : List Int) : listB m l = riseB m.size l := by unfold listB; rw [h]; rfl
theorem entSetB_no {m : Mz} {l : List Int} (h : listB m l = false) : entSetB m l = false := by unfold entSetB; rw [h]; rfl
theorem entSetB_yes {m : Mz} {l : List Int} (h : listB m l = true) : entSetB m l = (memB l 0 && decide (bigN m (mk l) = mk l)) := by unfold entSetB; rw [h]; rfl
theorem bigB_no {m : Mz} {l : List Int} (h : listB m l = false) : bigB m l = false := by unfold bigB; rw [h]; rfl
theorem bigB_yes {m : Mz} {l : List Int} (h : listB m l = true) : bigB m l = memB l 0 := by unfold bigB; rw [h]; rfl
theorem bigV_no {m : Mz} {l : List Int} (h : bigB m l = false) : bigV m l = [] := by unfold bigV; rw [h]; rfl
theorem bigV_yes {m : Mz} {l : List Int} (h : bigB m l = true) : bigV m l = digsTo (bigN m (mk l)) 12 := by unfold bigV; rw [if_pos h]
theorem bigV_bd (m : Mz) (l : List Int) : (bigV m l).length ≤ 1048576 := by
  unfold bigV
  split
  · have := digsTo_len (bigN m (mk l)) 12; omega
  · simp
theorem mem_zero {n : Int} {l : List Int} (h : RiseTo n l) : memB l 0 = digB (mk l) 0 := by
  rw [Bool.eq_iff_iff, digB_mk (fun x hx => (h.2 x hx).1)]
  unfold memB
  rw [List.contains_iff_mem]
  rfl
-- the loop of the model
theorem EntS.lt {m : Mz} (V : Valid m) {a n : Nat} (h : EntS m a n) : n < 4096 ∧ (∀ p, digB n p = true → (p : Int) < m.size) := by
  induction h with
  | one =>
    refine ⟨by decide, fun p hp => ?_⟩
    have e : (1 : Nat) = 2 ^ 0 := rfl
    rw [e, digB_pow, decide_eq_true_iff] at hp
    have := V.size1
    omega
  | @add n y _ hy _ ih =>
    have hl := nextB_lt V hy
    have := V.size12
    refine ⟨or_lt ih.1 (pow12 (by omega)), fun p hp => ?_⟩
    rw [digB_or, Bool.or_eq_true] at hp
    rcases hp with hp | hp
    · exact ih.2 p hp
    · rw [digB_pow, decide_eq_true_iff] at hp
      omega
/-- some of the next nodes are added -/
theorem EntS.more {m : Mz} (V : Valid m) {a n n' : Nat} (h' : EntS m a n') (hs : SubN n n') {y : Nat} (hy : nextB m n y = true) (ha : digB a y = true) : EntS m a (n' ||| 2 ^ y) := by
  rcases next_sub V hs hy with h1 | h1
  · have e : n' ||| 2 ^ y = n' := digB_ext fun p => by
      rw [digB_or, digB_pow]
      by_cases hp : y = p
      · subst hp; rw [h1]; rfl
      · simp [hp]
    rw [e]
    exact h'
  · exact .add h' h1 ha
-- all nodes but one
def allN (m : Mz) : Nat := 2 ^ m.size.toNat - 1
theorem digB_all {m : Mz} (V : Valid m) (p : Nat) : digB (allN m) p = decide ((p : Int) < m.size) := by
  unfold allN
  rw [digB_testBit, Nat.testBit_two_pow_sub_one]
  have := V.size1
  rw [Bool.eq_iff_iff, decide_eq_true_iff, decide_eq_true_iff]
  omega
theorem allN_lt {m : Mz} (V : Valid m) : allN m < 4096 := by
  have := two_size V
  unfold allN
  omega
theorem all_sub {m : Mz} (V : Valid m) {n : Nat} (h : ∀ p, digB n p = true → (p : Int) < m.size) : allN m &&& n = n := digB_ext fun p => by
  have e : digB (allN m &&& n) p = (digB (allN m) p && digB n p) := by rw [digB_testBit, digB_testBit, digB_testBit, Nat.testBit_and]
  rw [e]
  cases hd : digB n p with
  | false => rw [Bool.and_false]
  | true => rw [digB_all V, decide_eq_true (h p hd)]; rfl
theorem next_all {m : Mz} (V : Valid m) {n : Nat} : nxtA m (allN m) n = nextN m n := by
  unfold nxtA
  refine all_sub V fun p hp => ?_
  by_cases h0 : n = 0
  · subst h0
    have e0 : nextN m 0 = 2 ^ 0 := rfl
    rw [e0, digB_pow, decide_eq_true_iff] at hp
    have := V.size1
    omega
  · rw [digB_nextN V h0] at hp
    exact nextB_lt V hp
/-- without x nothing changes where x is not in it -/
theorem big_same {m : Mz} {a n x : Nat} (ha : a < 4096) (hx : x < 12) (h : Big m a n) (hn : digB n x = false) : Big m (lessN a (2 ^ x)) n := by
  have hd : ∀ y, digB (lessN a (2 ^ x)) y = (digB a y && !decide (x = y)) := fun y => by rw [digB_less ha (pow12 hx), digB_pow]
  refine ⟨?_, fun y hy => by rw [hd, h.2 y hy]; rfl⟩
  have key : ∀ {n : Nat}, EntS m a n → digB n x = false → EntS m (lessN a (2 ^ x)) n := by
    intro n he
    induction he with
    | one => exact fun _ => .one
    | @add n y _ hy hay ih =>
      intro hnx
      rw [digB_or, Bool.or_eq_false_iff] at hnx
      refine .add (ih hnx.1) hy ?_
      have hne : decide (x = y) = false := by
        have h2 := hnx.2
        rw [digB_pow, decide_eq_false_iff_not] at h2
        rw [decide_eq_false_iff_not]
        omega
      rw [hd, hay, hne]
      rfl
  exact key h.1 hn
end M
end Go.Proofs.Ytdjmmgfjcchloaa
