/-
  MATHEMATICS of searching openings, own to these proofs: sets of locks by their places, the first opening of each set, what the functions of chapter 7 tell by them. No condition.
-/
import Derived.Test.YthgmkkkfhbjhoaaSpM
namespace Go.Proofs.Ythgmkkkfhbjhoaa
open Go.RowKit
namespace M
/-- the set of an opening by binary digits, by the places of its locks -/
def codeTo (L l : List Int) : Nat → Nat
  | 0 => 0
  | i + 1 => if l.contains (L.getD i 0) then codeTo L l i ||| 2 ^ i else codeTo L l i
theorem codeTo_digB (L l : List Int) (p : Nat) : ∀ n, digB (codeTo L l n) p = (decide (p < n) && l.contains (L.getD p 0))
  | 0 => by simp [codeTo, digB]
  | n + 1 => by
    have ih := codeTo_digB L l p n
    unfold codeTo
    rcases Nat.lt_trichotomy p n with h | h | h
    · rw [decide_eq_true h] at ih
      rw [decide_eq_true (show p < n + 1 by omega)]
      split
      · rw [digB_or, ih, digB_pow, decide_eq_false (by omega), Bool.or_false]
      · exact ih
    · subst h
      rw [decide_eq_false (by omega), Bool.false_and] at ih
      rw [decide_eq_true (show p < p + 1 by omega), Bool.true_and]
      split
      · rename_i hc
        rw [digB_or, ih, digB_pow, decide_eq_true rfl, hc]
        rfl
      · rename_i hc
        rw [ih]
        simpa using hc
    · rw [decide_eq_false (by omega), Bool.false_and] at ih
      rw [decide_eq_false (show ¬ p < n + 1 by omega), Bool.false_and]
      split
      · rw [digB_or, ih, digB_pow, decide_eq_false (by omega)]
        rfl
      · exact ih
theorem codeTo_lt (L l : List Int) : ∀ n, codeTo L l n < 2 ^ n
  | 0 => by show (0 : Nat) < 1; decide
  | n + 1 => by
    have ih := codeTo_lt L l n
    have hp : (2 : Nat) ^ n < 2 ^ (n + 1) := Nat.pow_lt_pow_of_lt (by decide) (by omega)
    unfold codeTo
    split
    · exact Nat.or_lt_two_pow (by omega) hp
    · omega
noncomputable def codeN (m : Mz) (l : List Int) : Nat := codeTo (lockL m) l (lockL m).length
theorem ext_digB {a b : Nat} (h : ∀ p, digB a p = digB b p) : a = b := Nat.eq_of_testBit_eq fun p => by rw [← digB_testBit, ← digB_testBit, h]
theorem code_iff {m : Mz} {a b : List Int} : codeN m a = codeN m b ↔ ∀ k ∈ lockL m, (k ∈ a ↔ k ∈ b) := by
  unfold codeN
  constructor
  · intro h k hk
    obtain ⟨p, hp, rfl⟩ := List.mem_iff_getElem.1 hk
    have ha := codeTo_digB (lockL m) a p (lockL m).length
    have hb := codeTo_digB (lockL m) b p (lockL m).length
    rw [h, hb, decide_eq_true hp, Bool.true_and, Bool.true_and, List.getD_eq_getElem?_getD, List.getElem?_eq_getElem hp] at ha
    simp only [Option.getD_some] at ha
    rw [← List.contains_iff_mem, ← List.contains_iff_mem, ha]
  · intro h
    refine ext_digB fun p => ?_
    rw [codeTo_digB, codeTo_digB]
    rcases Nat.lt_or_ge p (lockL m).length with hp | hp
    · have := h _ (List.getElem_mem hp)
      rw [List.getD_eq_getElem?_getD, List.getElem?_eq_getElem hp]
      simp only [Option.getD_some]
      rw [← List.contains_iff_mem, ← List.contains_iff_mem] at this
      rw [Bool.eq_iff_iff.2 this]
    · rw [decide_eq_false (by omega), Bool.false_and, Bool.false_and]
/-- the same locks: the same doors open, and back -/
theorem code_beh {m : Mz} {a b : List Int} (ha : ∀ k ∈ a, k ∈ lockL m) (hb : ∀ k ∈ b, k ∈ lockL m) : codeN m a = codeN m b ↔ ∀ k, behO m a k = behO m b k := by
  rw [code_iff]
  have key : ∀ (l : List Int) (k : Int), k ∈ lockL m → (k ∈ l ↔ behO m l k.toNat = true) := by
    intro l k hk
    obtain ⟨j, rfl, hj, hl⟩ := mem_fl.1 hk
    rw [behO_at]
    have : o0 m j = false := by
      unfold o0
      unfold lockB at hl
      rw [decide_eq_true hj, Bool.true_and]
      simpa using hl
    rw [Int.toNat_natCast, this, Bool.false_or, List.contains_iff_mem]
  constructor
  · intro h k
    rw [behO_at, behO_at]
    congr 1
    rw [Bool.eq_iff_iff, List.contains_iff_mem, List.contains_iff_mem]
    exact ⟨fun hk => (h _ (ha _ hk)).1 hk, fun hk => (h _ (hb _ hk)).2 hk⟩
  · intro h k hk
    rw [key a k hk, key b k hk, h]
-- the search
noncomputable def addS (m : Mz) (ops : List (List Int)) (x : List Int) : List (List Int) := if ops.any (fun y => codeN m y == codeN m x) then ops else ops ++ [x]
noncomputable def roundS (m : Mz) (cur : List Int) : List (List Int) → List Int → List (List Int)
  | ops, [] => ops
  | ops, k :: l => roundS m cur (addS m ops (cur ++ [k])) l
theorem roundS_snoc (m : Mz) (cur : List Int) : ∀ (l : List Int) (ops : List (List Int)) (k : Int), roundS m cur ops (l ++ [k]) = addS m (roundS m cur ops l) (cur ++ [k])
  | [], _, _ => rfl
  | x :: l, ops, k => roundS_snoc m cur l (addS m ops (cur ++ [x])) k
theorem roundS_take {m : Mz} {cur : List Int} {ops : List (List Int)} {l : List Int} {k : Nat} (h : k < l.length) : roundS m cur ops (l.take (k + 1)) = addS m (roundS m cur ops (l.take k)) (cur ++ [l[k]]) := by
  rw [List.take_succ_eq_append_getElem h, roundS_snoc]
noncomputable def fullS (m : Mz) (ops : List (List Int)) (i : Nat) : List (List Int) := roundS m (ops.getD i []) ops (nextO m (behO m (ops.getD i [])))
noncomputable def srch (m : Mz) : Nat → List (List Int) → Nat → List (List Int)
  | 0, ops, _ => ops
  | f + 1, ops, i => if i < ops.length then srch m f (fullS m ops i) (i + 1) else ops
theorem srch_step {m : Mz} {ops : List (List Int)} {i : Nat} (h : i < ops.length) (hi : i < 1025) : srch m (1025 - i) ops i = srch m (1025 - (i + 1)) (fullS m ops i) (i + 1) := by
  have e : 1025 - i = (1025 - (i + 1)) + 1 := by omega
  rw [e]
  show (if i < ops.length then _ else _) = _
  rw [if_pos h]
theorem srch_end {m : Mz} {ops : List (List Int)} {i f : Nat} (h : ops.length ≤ i) : srch m f ops i = ops := by
  cases f with
  | zero => rfl
  | succ f => show (if i < ops.length then _ else _) = _; rw [if_neg (by omega)]
/-- the first openings of all sets of locks behind one opening -/
noncomputable def srchL (m : Mz) (begun : List Int) : List (List Int) := srch m 1025 [begun] 0
/-- on the way -/
structure Srch (m : Mz) (begun : List Int) (ops : List (List Int)) : Prop where
  open_ : ∀ x ∈ ops, isO m x = true
  from_ : ∀ x ∈ ops, ∃ y, x = begun ++ y
  apart : (ops.map (codeN m)).Nodup
  some_ : 0 < ops.length
theorem Srch.start {m : Mz} {begun : List Int} (h : isO m begun = true) : Srch m begun [begun] :=
  ⟨fun x hx => by rw [List.mem_singleton] at hx; subst hx; exact h, fun x hx => by rw [List.mem_singleton] at hx; subst hx; exact ⟨[], by simp⟩, by simp, by simp⟩
theorem Srch.add {m : Mz} {begun : List Int} {ops : List (List Int)} (h : Srch m begun ops) {cur : List Int} (hc : cur ∈ ops) {k : Int} (hk : k ∈ nextO m (behO m cur)) : Srch m begun (addS m ops (cur ++ [k])) := by
  unfold addS
  split
  · exact h
  · rename_i hn
    refine ⟨fun x hx => ?_, fun x hx => ?_, ?_, by rw [List.length_append]; have := h.some_; omega⟩
    · rw [List.mem_append, List.mem_singleton] at hx
      rcases hx with hx | rfl
      · exact h.open_ x hx
      · rw [isO_snoc, h.open_ cur hc, Bool.true_and, List.contains_iff_mem]; exact hk
    · rw [List.mem_append, List.mem_singleton] at hx
      rcases hx with hx | rfl
      · exact h.from_ x hx
      · obtain ⟨y, rfl⟩ := h.from_ cur hc
        exact ⟨y ++ [k], by rw [List.append_assoc]⟩
    · rw [List.map_append, List.nodup_append]
      refine ⟨h.apart, by simp, fun a ha b hb e => ?_⟩
      rw [List.map_cons, List.map_nil, List.mem_singleton] at hb
      subst hb
      obtain ⟨y, hy, rfl⟩ := List.mem_map.1 ha
      exact hn (List.any_eq_true.2 ⟨y, hy, by rw [beq_iff_eq]; exact e⟩)
theorem addS_pre (m : Mz) (ops : List (List Int)) (x : List Int) : ∃ t, addS m ops x = ops ++ t := by
  unfold addS
  split
  · exact ⟨[], by simp⟩
  · exact ⟨[x], rfl⟩
theorem roundS_pre (m : Mz) (cur : List Int) : ∀ (l : List Int) (ops : List (List Int)), ∃ t, roundS m cur ops l = ops ++ t
  | [], ops => ⟨[], by simp [roundS]⟩
  | k :: l, ops => by
    obtain ⟨t1, h1⟩ := addS_pre m ops (cur ++ [k])
    obtain ⟨t2, h2⟩ := roundS_pre m cur l (addS m ops (cur ++ [k]))
    exact ⟨t1 ++ t2, by show roundS m cur (addS m ops (cur ++ [k])) l = _; rw [h2, h1, List.append_assoc]⟩
theorem Srch.round {m : Mz} {begun : List Int} {cur : List Int} : ∀ (l : List Int) {ops : List (List Int)}, Srch m begun ops → cur ∈ ops → (∀ k ∈ l, k ∈ nextO m (behO m cur)) → Srch m begun (roundS m cur ops l)
  | [], _, h, _, _ => h
  | k :: l, ops, h, hc, hk => by
    have h1 := h.add hc (hk k (List.mem_cons_self ..))
    obtain ⟨t, ht⟩ := addS_pre m ops (cur ++ [k])
    exact Srch.round l h1 (by rw [ht]; exact List.mem_append_left _ hc) fun z hz => hk z (List.mem_cons_of_mem _ hz)
theorem nat_nodup {n : Nat} {l : List Nat} (h : l.Nodup) (hb : ∀ z ∈ l, z < n) : l.length ≤ n := by
  have h1 : (l.map fun k : Nat => (k : Int)).Nodup := by
    rw [List.nodup_iff_pairwise_ne, List.pairwise_map]
    exact h.imp fun {a b} hab e => hab (by omega)
  have := nodup_len (n := n) h1 fun z hz => by
    obtain ⟨k, hk, rfl⟩ := List.mem_map.1 hz
    have := hb k hk
    omega
  rwa [List.length_map] at this
theorem Srch.len {m : Mz} {begun : List Int} {ops : List (List Int)} (h : Srch m begun ops) (hf : (lockL m).length ≤ 10) : ops.length ≤ 1024 := by
  have := nat_nodup (n := 1024) h.apart fun z hz => by
    obtain ⟨x, _, rfl⟩ := List.mem_map.1 hz
    have h1 := codeTo_lt (lockL m) x (lockL m).length
    have h2 : (2 : Nat) ^ (lockL m).length ≤ 2 ^ 10 := Nat.pow_le_pow_right (by decide) hf
    have h3 : (2 : Nat) ^ 10 = 1024 := rfl
    unfold codeN
    omega
  rwa [List.length_map] at this
theorem Srch.full {m : Mz} {begun : List Int} {ops : List (List Int)} (h : Srch m begun ops) {i : Nat} (hi : i < ops.length) : Srch m begun (fullS m ops i) := by
  unfold fullS
  refine Srch.round _ h ?_ fun k hk => hk
  rw [List.getD_eq_getElem?_getD, List.getElem?_eq_getElem hi]
  exact List.getElem_mem hi
theorem fullS_len {m : Mz} {ops : List (List Int)} {i : Nat} : ops.length ≤ (fullS m ops i).length := by
  unfold fullS
  obtain ⟨t, ht⟩ := roundS_pre m (ops.getD i []) (nextO m (behO m (ops.getD i []))) ops
  rw [ht, List.length_append]
  omega
theorem srch_ok {m : Mz} {begun : List Int} (hf : (lockL m).length ≤ 10) : ∀ (f : Nat) (ops : List (List Int)) (i : Nat), Srch m begun ops → Srch m begun (srch m f ops i)
  | 0, _, _, h => h
  | f + 1, ops, i, h => by
    show Srch m begun (if i < ops.length then srch m f (fullS m ops i) (i + 1) else ops)
    split
    · rename_i hi
      exact srch_ok hf f _ _ (h.full hi)
    · exact h
theorem srchL_ok {m : Mz} {begun : List Int} (hf : (lockL m).length ≤ 10) (h : isO m begun = true) : Srch m begun (srchL m begun) := srch_ok hf _ _ _ (Srch.start h)
theorem srchL_len {m : Mz} {begun : List Int} (hf : (lockL m).length ≤ 10) (h : isO m begun = true) : (srchL m begun).length ≤ 1024 := (srchL_ok hf h).len hf
-- what is told
noncomputable def winO (m : Mz) (o : Op) : Bool := (nearL m o).contains (m.size - 1)
noncomputable def winsB (m : Mz) (l : List Int) : Bool := winO m (behO m l)
noncomputable def stuckO (m : Mz) (o : Op) : Bool := !winO m o && (nextO m o).isEmpty
noncomputable def stuckB (m : Mz) (l : List Int) : Bool := stuckO m (behO m l)
/-- the first one of which p holds -/
def fstV (p : List Int → Bool) (L : List (List Int)) : List Int := (L.find? p).getD []
def fstB (p : List Int → Bool) (L : List (List Int)) : Bool := L.any p
theorem fst_yes {p : List Int → Bool} {L : List (List Int)} {k : Nat} (hk : k < L.length) (hb : ∀ j (h : j < L.length), j < k → p L[j] = false) (h : p L[k] = true) : fstV p L = L[k] ∧ fstB p L = true := by
  refine ⟨?_, List.any_eq_true.2 ⟨_, List.getElem_mem hk, h⟩⟩
  unfold fstV
  have : L.find? p = some L[k] := by
    rw [List.find?_eq_some_iff_getElem]
    exact ⟨h, k, hk, rfl, fun j hj => by rw [hb j (by omega) hj]; rfl⟩
  rw [this]; rfl
theorem fst_no {p : List Int → Bool} {L : List (List Int)} (hb : ∀ j (h : j < L.length), p L[j] = false) : fstV p L = [] ∧ fstB p L = false := by
  have hn : ∀ x ∈ L, ¬ p x = true := fun x hx => by
    obtain ⟨j, hj, rfl⟩ := List.mem_iff_getElem.1 hx
    rw [hb j hj]; decide
  refine ⟨?_, ?_⟩
  · unfold fstV
    rw [List.find?_eq_none.2 hn]; rfl
  · unfold fstB
    rw [Bool.eq_false_iff]
    intro h
    obtain ⟨x, hx, hp⟩ := List.any_eq_true.1 h
    exact hn x hx hp
theorem fstV_mem {p : List Int → Bool} {L : List (List Int)} : fstV p L = [] ∨ fstV p L ∈ L := by
  unfold fstV
  cases h : L.find? p with
  | none => exact .inl rfl
  | some x => exact .inr (List.mem_of_find?_eq_some h)
/-- whether all locks are opened -/
def allB (m : Mz) (l : List Int) : Bool := (lockL m).all fun k => l.contains k
theorem full_digB (n p : Nat) : digB (2 ^ n - 1) p = decide (p < n) := by rw [digB_testBit, Nat.testBit_two_pow_sub_one]
theorem all_code (m : Mz) (l : List Int) : codeN m l = 2 ^ (lockL m).length - 1 ↔ allB m l = true := by
  unfold allB codeN
  rw [List.all_eq_true]
  constructor
  · intro h k hk
    obtain ⟨p, hp, rfl⟩ := List.mem_iff_getElem.1 hk
    have := codeTo_digB (lockL m) l p (lockL m).length
    rw [h, full_digB, decide_eq_true hp, Bool.true_and, List.getD_eq_getElem?_getD, List.getElem?_eq_getElem hp] at this
    exact this.symm
  · intro h
    refine ext_digB fun p => ?_
    rw [codeTo_digB, full_digB]
    rcases Nat.lt_or_ge p (lockL m).length with hp | hp
    · rw [decide_eq_true hp, Bool.true_and, List.getD_eq_getElem?_getD, List.getElem?_eq_getElem hp]
      exact h _ (List.getElem_mem hp)
    · rw [decide_eq_false (by omega), Bool.false_and]
theorem all_beh {m : Mz} {l : List Int} (hl : ∀ k ∈ l, k ∈ lockL m) : allB m l = true ↔ ∀ k, behO m l k = decide (k < m.doors.length) := by
  unfold allB
  rw [List.all_eq_true]
  constructor
  · intro h k
    rw [behO_at]
    rcases Nat.lt_or_ge k m.doors.length with hk | hk
    · rw [decide_eq_true hk]
      cases e : lockB m k with
      | true =>
        rw [h _ (mem_fl.2 ⟨k, rfl, hk, e⟩), Bool.or_true]
      | false =>
        unfold o0
        unfold lockB at e
        rw [decide_eq_true hk, Bool.true_and]
        have : (need m k == 0) = true := by simpa using e
        rw [this, Bool.true_or]
    · rw [decide_eq_false (by omega)]
      have h1 : o0 m k = false := by unfold o0; rw [decide_eq_false (by omega), Bool.false_and]
      have h2 : l.contains (k : Int) = false := by
        rw [Bool.eq_false_iff]
        intro h
        obtain ⟨j, e, hj, _⟩ := mem_fl.1 (hl _ (List.contains_iff_mem.1 h))
        omega
      rw [h1, h2]; rfl
  · intro h k hk
    obtain ⟨j, rfl, hj, hb⟩ := mem_fl.1 hk
    have := h j
    rw [behO_at, decide_eq_true hj] at this
    have h0 : o0 m j = false := by
      unfold o0
      unfold lockB at hb
      rw [decide_eq_true hj, Bool.true_and]
      simpa using hb
    rwa [h0, Bool.false_or] at this
-- the laws' values
noncomputable def askB (m : Mz) (l : List Int) : Bool := goodB m && isO m l
def locksV (m : Mz) : List Int := if goodB m then lockL m else []
noncomputable def openV (m : Mz) (l : List Int) : Bool := askB m l
noncomputable def nearV (m : Mz) (l : List Int) : List Int := if askB m l then nearL m (behO m l) else []
noncomputable def leftV (m : Mz) (l : List Int) : List Int := if askB m l then leftL m (behO m l) else []
noncomputable def nextV (m : Mz) (l : List Int) : List Int := if askB m l then nextO m (behO m l) else []
noncomputable def winV (m : Mz) (l : List Int) : Bool := askB m l && winsB m l
noncomputable def fwB (m : Mz) : Bool := goodB m && fstB (winsB m) (srchL m [])
noncomputable def fwV (m : Mz) : List Int := if goodB m then fstV (winsB m) (srchL m []) else []
noncomputable def fsB (m : Mz) : Bool := goodB m && fstB (stuckB m) (srchL m [])
noncomputable def fsV (m : Mz) : List Int := if goodB m then fstV (stuckB m) (srchL m []) else []
noncomputable def safeV (m : Mz) : Bool := goodB m && !fsB m
noncomputable def csV (m : Mz) : Int := if goodB m then ((srchL m []).length : Int) else 0
noncomputable def hopeB (m : Mz) (l : List Int) : Bool := fstB (winsB m) (srchL m l)
noncomputable def hopB (m : Mz) (l : List Int) : Bool := askB m l && !winsB m l
noncomputable def hopV (m : Mz) (l : List Int) : List Int := if hopB m l then (nextO m (behO m l)).filter (fun k => hopeB m (l ++ [k])) else []
def needC (m : Mz) (n c : Nat) : Int := sm (fun k => bt (need m k) c) n
def needsV (m : Mz) : List Int := if goodB m then (List.range 6).map (fun c => needC m m.doors.length c) else []
noncomputable def allV (m : Mz) : Bool := goodB m && fstB (allB m) (srchL m [])
end M
end Go.Proofs.Ythgmkkkfhbjhoaa
