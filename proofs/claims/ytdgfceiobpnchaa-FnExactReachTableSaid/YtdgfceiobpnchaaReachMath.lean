/-
  MATHEMATICS of reaching, own to these proofs: which nodes doors lead to; a list of nodes and a number whose binary digits tell nodes, both closed under doors, tell the same. No condition.
-/
import Derived.Test.YtdgfceiobpnchaaPutMath
namespace Go.Proofs.Ytdgfceiobpnchaa
open Go.RowKit
namespace M

/-- to which nodes one comes from x through the doors of which op holds -/
inductive Rch (ds : List Dr) (op : Dr → Bool) (x : Int) : Int → Prop
  | refl : Rch ds op x x
  | fwd {d : Dr} : d ∈ ds → op d = true → Rch ds op x d.1 → Rch ds op x d.2.1
  | bwd {d : Dr} : d ∈ ds → op d = true → Rch ds op x d.2.1 → Rch ds op x d.1

theorem Rch.closed {ds : List Dr} {op : Dr → Bool} {x : Int} {S : Int → Prop} (hx : S x) (hc : ∀ d ∈ ds, op d = true → (S d.1 ↔ S d.2.1)) {y : Int} (h : Rch ds op x y) : S y := by
  induction h with
  | refl => exact hx
  | fwd hd ho _ ih => exact (hc _ hd ho).1 ih
  | bwd hd ho _ ih => exact (hc _ hd ho).2 ih
theorem Rch.mono {ds : List Dr} {op op' : Dr → Bool} {x y : Int} (ho : ∀ d ∈ ds, op d = true → op' d = true) (h : Rch ds op x y) : Rch ds op' x y := by
  induction h with
  | refl => exact .refl
  | fwd hd hp _ ih => exact .fwd hd (ho _ hd hp) ih
  | bwd hd hp _ ih => exact .bwd hd (ho _ hd hp) ih

/-- whether the binary digit at a place is 1 -/
def digB (n : Nat) (p : Nat) : Bool := decide (n / 2 ^ p % 2 = 1)
/-- the places of the binary digits 1 below k, ascending -/
def digsTo (n k : Nat) : List Int := ((List.range k).filter (digB n)).map fun p : Nat => (p : Int)
theorem digsTo_zero (n : Nat) : digsTo n 0 = [] := rfl
theorem digsTo_yes {n k : Nat} (h : digB n k = true) : digsTo n (k + 1) = digsTo n k ++ [(k : Int)] := by
  unfold digsTo; rw [List.range_succ, List.filter_append, List.filter_cons_of_pos h]; simp
theorem digsTo_no {n k : Nat} (h : digB n k = false) : digsTo n (k + 1) = digsTo n k := by
  unfold digsTo; rw [List.range_succ, List.filter_append, List.filter_cons_of_neg (by rw [h]; decide)]; simp
theorem digsTo_len (n k : Nat) : (digsTo n k).length ≤ k := by
  unfold digsTo
  rw [List.length_map]
  have := List.length_filter_le (digB n) (List.range k)
  simpa using this
theorem mem_digsTo {n k : Nat} {x : Int} : x ∈ digsTo n k ↔ ∃ p : Nat, x = p ∧ p < k ∧ digB n p = true := by
  unfold digsTo
  rw [List.mem_map]
  constructor
  · rintro ⟨p, hp, rfl⟩
    rw [List.mem_filter, List.mem_range] at hp
    exact ⟨p, rfl, hp.1, hp.2⟩
  · rintro ⟨p, rfl, h1, h2⟩
    exact ⟨p, by rw [List.mem_filter, List.mem_range]; exact ⟨h1, h2⟩, rfl⟩
theorem digB_lt {n k : Nat} (h : n / 2 ^ k = 0) {p : Nat} (hp : k ≤ p) : digB n p = false := by
  unfold digB
  have : n / 2 ^ p = 0 := by
    rw [show p = k + (p - k) by omega, Nat.pow_add, ← Nat.div_div_eq_div_mul, h, Nat.zero_div]
  rw [this]; decide
theorem digsTo_more {n k : Nat} (h : n / 2 ^ k = 0) (j : Nat) : digsTo n (k + j) = digsTo n k := by
  induction j with
  | zero => rfl
  | succ j ih => rw [← Nat.add_assoc, digsTo_no (digB_lt h (by omega)), ih]
/-- how far one looks does not matter once nothing is left -/
theorem digsTo_eq {n k K : Nat} (h : n / 2 ^ k = 0) (hk : k ≤ K) : digsTo n K = digsTo n k := by
  obtain ⟨j, rfl⟩ : ∃ j, K = k + j := ⟨K - k, by omega⟩
  exact digsTo_more h j
theorem digsTo_asc (n k : Nat) : Asc ltI (digsTo n k) := by
  induction k with
  | zero => exact Asc.nil
  | succ k ih =>
    cases h : digB n k with
    | false => rw [digsTo_no h]; exact ih
    | true =>
      rw [digsTo_yes h]
      unfold Asc at *
      rw [List.pairwise_append]
      refine ⟨ih, by simp, fun a ha b hb => ?_⟩
      obtain ⟨p, rfl, hp, _⟩ := mem_digsTo.1 ha
      rw [List.mem_singleton] at hb
      subst hb
      unfold ltI
      rw [decide_eq_true_iff]
      omega
theorem digB_testBit (n p : Nat) : digB n p = n.testBit p := by
  unfold digB
  rw [Nat.testBit_eq_decide_div_mod_eq]
theorem digB_or (a b p : Nat) : digB (a ||| b) p = (digB a p || digB b p) := by
  rw [digB_testBit, digB_testBit, digB_testBit, Nat.testBit_or]
theorem digB_pow (i p : Nat) : digB (2 ^ i) p = decide (i = p) := by
  rw [digB_testBit, Nat.testBit_two_pow]
/-- the number of the nodes of a door -/
def endsN (d : Dr) : Nat := 2 ^ d.1.toNat ||| 2 ^ d.2.1.toNat
theorem digB_ends (d : Dr) (p : Nat) : digB (endsN d) p = true ↔ d.1.toNat = p ∨ d.2.1.toNat = p := by
  unfold endsN; rw [digB_or, digB_pow, digB_pow, Bool.or_eq_true, decide_eq_true_iff, decide_eq_true_iff]
theorem and_ends (n : Nat) (d : Dr) : n &&& endsN d = 0 ↔ digB n d.1.toNat = false ∧ digB n d.2.1.toNat = false := by
  constructor
  · intro h
    have ht : ∀ p, (n &&& endsN d).testBit p = false := fun p => by rw [h]; simp
    have h1 := ht d.1.toNat
    have h2 := ht d.2.1.toNat
    rw [Nat.testBit_and, ← digB_testBit, ← digB_testBit, (digB_ends d _).2 (.inl rfl), Bool.and_true] at h1
    rw [Nat.testBit_and, ← digB_testBit, ← digB_testBit, (digB_ends d _).2 (.inr rfl), Bool.and_true] at h2
    exact ⟨h1, h2⟩
  · rintro ⟨h1, h2⟩
    refine Nat.eq_of_testBit_eq fun p => ?_
    rw [Nat.testBit_and, ← digB_testBit, ← digB_testBit, Nat.zero_testBit]
    cases he : digB (endsN d) p with
    | false => rw [Bool.and_false]
    | true =>
      rcases (digB_ends d p).1 he with rfl | rfl
      · rw [h1]; rfl
      · rw [h2]; rfl

/-- what the number holds is told from x, and x is held -/
def MaskOk (ds : List Dr) (op : Dr → Bool) (x : Nat) (n : Nat) : Prop := digB n x = true ∧ n < 4096 ∧ ∀ p, digB n p = true → Rch ds op x p
/-- one door looked at -/
def stepN (op : Dr → Bool) (n : Nat) (d : Dr) : Nat := if op d = true ∧ n &&& endsN d ≠ 0 then n ||| endsN d else n
theorem endsN_lt {d : Dr} (h1 : d.1 < 12) (h2 : d.2.1 < 12) : endsN d < 4096 := by
  have h12 : (2 : Nat) ^ 12 = 4096 := rfl
  rw [← h12]
  unfold endsN
  exact Nat.or_lt_two_pow (Nat.pow_lt_pow_of_lt (by decide) (by omega)) (Nat.pow_lt_pow_of_lt (by decide) (by omega))
theorem MaskOk.start {ds : List Dr} {op : Dr → Bool} {x : Nat} (hx : x < 12) : MaskOk ds op x (2 ^ x) := by
  refine ⟨by rw [digB_pow]; simp, ?_, fun p hp => ?_⟩
  · have h12 : (2 : Nat) ^ 12 = 4096 := rfl
    rw [← h12]
    exact Nat.pow_lt_pow_of_lt (by decide) hx
  · rw [digB_pow, decide_eq_true_iff] at hp
    subst hp
    exact .refl
theorem MaskOk.step {ds : List Dr} {op : Dr → Bool} {x n : Nat} (h : MaskOk ds op x n) {d : Dr} (hd : d ∈ ds) (h0 : 0 ≤ d.1) (h1 : d.1 < 12) (h2 : 0 ≤ d.2.1) (h3 : d.2.1 < 12) : MaskOk ds op x (stepN op n d) := by
  unfold stepN
  split
  · rename_i hc
    obtain ⟨ho, hne⟩ := hc
    refine ⟨by rw [digB_or, h.1]; rfl, ?_, fun p hp => ?_⟩
    · have h12 : (2 : Nat) ^ 12 = 4096 := rfl
      have ha := h.2.1
      have hb := endsN_lt h1 h3
      rw [← h12] at ha hb ⊢
      exact Nat.or_lt_two_pow ha hb
    · rw [digB_or, Bool.or_eq_true] at hp
      rcases hp with hp | hp
      · exact h.2.2 p hp
      · have e1 : ((d.1.toNat : Nat) : Int) = d.1 := by omega
        have e2 : ((d.2.1.toNat : Nat) : Int) = d.2.1 := by omega
        have hor : Rch ds op x d.1 ∨ Rch ds op x d.2.1 := by
          cases a1 : digB n d.1.toNat with
          | true => exact .inl (by have := h.2.2 _ a1; rwa [e1] at this)
          | false =>
            cases a2 : digB n d.2.1.toNat with
            | true => exact .inr (by have := h.2.2 _ a2; rwa [e2] at this)
            | false => exact absurd ((and_ends n d).2 ⟨a1, a2⟩) hne
        have hb : Rch ds op x d.1 ∧ Rch ds op x d.2.1 := by
          rcases hor with k | k
          · exact ⟨k, .fwd hd ho k⟩
          · exact ⟨.bwd hd ho k, k⟩
        rcases (digB_ends d p).1 hp with rfl | rfl
        · rw [e1]; exact hb.1
        · rw [e2]; exact hb.2
  · exact h
/-- nothing more comes of any door -/
theorem mask_closed {ds : List Dr} {op : Dr → Bool} {n : Nat} (h : ∀ d ∈ ds, stepN op n d = n) {d : Dr} (hd : d ∈ ds) (ho : op d = true) : digB n d.1.toNat = true ↔ digB n d.2.1.toNat = true := by
  have hs := h d hd
  unfold stepN at hs
  split at hs
  · have hb : ∀ p, digB (endsN d) p = true → digB n p = true := fun p hp => by rw [← hs, digB_or, hp, Bool.or_true]
    rw [hb _ ((digB_ends d _).2 (.inl rfl)), hb _ ((digB_ends d _).2 (.inr rfl))]
  · rename_i hc
    have hz : n &&& endsN d = 0 := by
      rcases Nat.eq_zero_or_pos (n &&& endsN d) with h0 | h0
      · exact h0
      · exact absurd ⟨ho, by omega⟩ hc
    obtain ⟨a, b⟩ := (and_ends n d).1 hz
    rw [a, b]
theorem stepN_le (op : Dr → Bool) (n : Nat) (d : Dr) : n ≤ stepN op n d := by
  unfold stepN
  split
  · exact Nat.left_le_or
  · exact Nat.le_refl _
/-- the doors looked at one by one -/
def passN (op : Dr → Bool) (n : Nat) (ds : List Dr) : Nat := ds.foldl (stepN op) n
theorem passN_snoc (op : Dr → Bool) (n : Nat) (ds : List Dr) (d : Dr) : passN op n (ds ++ [d]) = stepN op (passN op n ds) d := by unfold passN; rw [List.foldl_append]; rfl
theorem passN_le (op : Dr → Bool) (n : Nat) (ds : List Dr) : n ≤ passN op n ds := by
  induction ds generalizing n with
  | nil => exact Nat.le_refl _
  | cons d ds ih => exact Nat.le_trans (stepN_le op n d) (ih _)
theorem passN_same {op : Dr → Bool} {n : Nat} : ∀ {ds : List Dr}, passN op n ds = n → ∀ d ∈ ds, stepN op n d = n
  | [], _, d, hd => by cases hd
  | e :: ds, h, d, hd => by
    have h1 := stepN_le op n e
    have h2 := passN_le op (stepN op n e) ds
    have h3 : passN op (stepN op n e) ds = n := h
    have he : stepN op n e = n := by omega
    rcases List.mem_cons.1 hd with rfl | hd
    · exact he
    · rw [he] at h3
      exact passN_same h3 d hd
theorem MaskOk.pass {ds : List Dr} {op : Dr → Bool} {x n : Nat} (h : MaskOk ds op x n) {l : List Dr} (hl : ∀ d ∈ l, d ∈ ds) (hv : ∀ d ∈ ds, 0 ≤ d.1 ∧ d.1 < 12 ∧ 0 ≤ d.2.1 ∧ d.2.1 < 12) : MaskOk ds op x (passN op n l) := by
  induction l generalizing n with
  | nil => exact h
  | cons d l ih =>
    obtain ⟨a, b, c, e⟩ := hv d (hl d (List.mem_cons_self ..))
    exact ih (h.step (hl d (List.mem_cons_self ..)) a b c e) fun d hd => hl d (List.mem_cons_of_mem _ hd)
/-- where a whole pass leaves the number, it tells just the nodes that can be reached -/
theorem mask_end {ds : List Dr} {op : Dr → Bool} {x n : Nat} (h : MaskOk ds op x n) (hp : passN op n ds = n) (hv : ∀ d ∈ ds, 0 ≤ d.1 ∧ d.1 < 12 ∧ 0 ≤ d.2.1 ∧ d.2.1 < 12) (y : Int) : y ∈ digsTo n 12 ↔ Rch ds op x y := by
  rw [mem_digsTo]
  constructor
  · rintro ⟨p, rfl, _, hp⟩
    exact h.2.2 p hp
  · intro hr
    have hc : 0 ≤ y ∧ digB n y.toNat = true := by
      refine Rch.closed (S := fun y => 0 ≤ y ∧ digB n y.toNat = true) ⟨by omega, by simpa using h.1⟩ (fun d hd ho => ?_) hr
      have hm := mask_closed (passN_same hp) hd ho
      obtain ⟨a, _, b, _⟩ := hv d hd
      exact ⟨fun k => ⟨b, hm.1 k.2⟩, fun k => ⟨a, hm.2 k.2⟩⟩
    refine ⟨y.toNat, by omega, ?_, hc.2⟩
    rcases Nat.lt_or_ge y.toNat 12 with hlt | hge
    · exact hlt
    · have := digB_lt (n := n) (k := 12) (Nat.div_eq_of_lt h.2.1) hge
      rw [this] at hc
      cases hc.2

/-- a list of nodes that is held in two orders, on the way -/
structure ListOk (ds : List Dr) (op : Dr → Bool) (x : Int) (out list : List Int) : Prop where
  asc : Asc ltI out
  same : ∀ z, z ∈ out ↔ z ∈ list
  nodup : list.Nodup
  reach : ∀ z, z ∈ list → Rch ds op x z
  first : x ∈ list
theorem ListOk.start (ds : List Dr) (op : Dr → Bool) (x : Int) : ListOk ds op x [x] [x] :=
  ⟨by unfold Asc; simp, fun _ => Iff.rfl, by simp, fun z hz => by rw [List.mem_singleton] at hz; subst hz; exact .refl, by simp⟩
theorem ListOk.step {ds : List Dr} {op : Dr → Bool} {x : Int} {out list : List Int} (h : ListOk ds op x out list) {y : Int} (hy : y ∉ out) (hr : Rch ds op x y) : ListOk ds op x (put ltI out y) (list ++ [y]) := by
  refine ⟨h.asc.put ordI y, fun z => ?_, ?_, fun z hz => ?_, List.mem_append_left _ h.first⟩
  · rw [mem_put, List.mem_append, List.mem_singleton, h.same]
  · rw [List.nodup_append]
    refine ⟨h.nodup, by simp, fun a ha b hb => ?_⟩
    rw [List.mem_singleton] at hb
    subst hb
    rintro rfl
    exact hy ((h.same _).2 ha)
  · rw [List.mem_append, List.mem_singleton] at hz
    rcases hz with hz | rfl
    · exact h.reach z hz
    · exact hr
/-- a list without repetition of numbers below n has at most n -/
theorem nodup_len {n : Nat} {l : List Int} (h : l.Nodup) (hb : ∀ z ∈ l, 0 ≤ z ∧ z < n) : l.length ≤ n := by
  induction n generalizing l with
  | zero =>
    cases l with
    | nil => simp
    | cons a l => have := hb a (List.mem_cons_self ..); omega
  | succ n ih =>
    have h1 := ih (h.erase (n : Int)) fun z hz => by
      obtain ⟨hne, hm⟩ := (List.Nodup.mem_erase_iff h).1 hz
      have := hb z hm
      have hne' : z ≠ (n : Int) := hne
      omega
    rw [List.length_erase] at h1
    split at h1 <;> omega
theorem ListOk.len {ds : List Dr} {op : Dr → Bool} {x : Int} {out list : List Int} (h : ListOk ds op x out list) {n : Nat} (hb : ∀ z, Rch ds op x z → 0 ≤ z ∧ z < n) : list.length ≤ n ∧ out.length ≤ n := by
  refine ⟨nodup_len h.nodup fun z hz => hb z (h.reach z hz), nodup_len ?_ fun z hz => hb z (h.reach z ((h.same z).1 hz))⟩
  have := h.asc
  unfold Asc at this
  refine this.imp fun {a b} hab => ?_
  rintro rfl
  rw [ordI.irrefl] at hab
  cases hab
/-- at the end it tells just the nodes that can be reached -/
theorem list_end {ds : List Dr} {op : Dr → Bool} {x : Int} {out list : List Int} (h : ListOk ds op x out list) (hc : ∀ z ∈ list, ∀ d ∈ ds, op d = true → (d.1 = z → d.2.1 ∈ list) ∧ (d.2.1 = z → d.1 ∈ list)) (y : Int) : y ∈ out ↔ Rch ds op x y := by
  rw [h.same]
  constructor
  · exact h.reach y
  · exact Rch.closed (S := fun y => y ∈ list) h.first fun d hd ho => ⟨fun k => (hc _ k d hd ho).1 rfl, fun k => (hc _ k d hd ho).2 rfl⟩
/-- the two ways tell the same list -/
theorem reach_same {ds : List Dr} {op op' : Dr → Bool} {x n : Nat} {out list : List Int} (hop : ∀ d ∈ ds, op d = op' d) (h : MaskOk ds op x n) (hp : passN op n ds = n) (hv : ∀ d ∈ ds, 0 ≤ d.1 ∧ d.1 < 12 ∧ 0 ≤ d.2.1 ∧ d.2.1 < 12)
    (hl : ListOk ds op' x out list) (hc : ∀ z ∈ list, ∀ d ∈ ds, op' d = true → (d.1 = z → d.2.1 ∈ list) ∧ (d.2.1 = z → d.1 ∈ list)) : digsTo n 12 = out :=
  (digsTo_asc n 12).ext ordI hl.asc fun y => by
    rw [mask_end h hp hv, list_end hl hc]
    exact ⟨Rch.mono fun d hd ho => by rw [← hop d hd]; exact ho, Rch.mono fun d hd ho => by rw [hop d hd]; exact ho⟩
end M
end Go.Proofs.Ytdgfceiobpnchaa
