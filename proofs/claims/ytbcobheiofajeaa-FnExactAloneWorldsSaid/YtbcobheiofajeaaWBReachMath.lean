/-
  MATHEMATICS of reaching, own to these proofs: which nodes doors lead to; a list of nodes and a number whose binary digits tell nodes, both closed under doors, tell the same. No condition.
  CONTRACTS over sets of colours: whether a number is one, the set of a list, the digits of a number: the program's and the model's functions answer alike; what lay in memory stays. Condition: lists of at most 1048576 numbers.
  CONTRACTS of impl's small functions over mazes: which numbers are nodes, how two doors compare; slices.Compare at two doors; slices.ContainsFunc at a predicate that only reads. No condition but that memory reads so.
  CONTRACTS of impl's small functions over mazes: doors compared, nodes, sizes; slices.ContainsFunc at a predicate that only reads; keys. No condition but that memory reads so.
  CONTRACT of impl.IsMaze: it tells whether a maze is valid; what lay in memory stays. No condition but that the maze reads so.
  CONTRACT of impl.IsMaze: it tells whether a maze is valid; what lay in memory stays. No condition but that the maze reads so.
  CONTRACT of spec.l2Before: it tells whether a door comes before another one; blocks of its own are all that it lays. No condition.
  MATHEMATICS of doors between nodes and of sets in sets, own to these proofs: the program's and the model's tests say the same of valid mazes. No condition.
  WORDS for a row that the call grows beside its boxed parameters, own to these proofs. No condition.
  CONTRACT of impl.digitsOf: the places of the binary digits 1, in a new list, ascending; what lay in memory stays. Condition: a number below 4096 (64 for colours).
  CONTRACTS of copies of a slice: spec.l1Own, slices.Clone at numbers and at doors; a new slice that reads alike; what lay in memory stays. Condition: at most 1048576 elements.
  CONTRACTS of slices.Clone at numbers and at doors: a new slice that reads alike, nil for nil; what lay in memory stays. Condition: at most 1048576 elements.
  CONTRACTS of a maze's copies: impl.Maze.clone, spec.l2Own: what reads alike in memory of the call's own; what lay in memory stays. Condition: at most 1048576 doors and keys.
  WORDS for spec.l2Own: what an append leaves unturned. No condition.
-/
import Derived.Test.YtbcobheiofajeaaWAMem
import Derived.Deep.RegionWith
import Derived.BigQuiet
import Derived.Deep.QuietTactic
import Derived.Sort.Row
import Derived.Shelf.Abstract
import Derived.Sort.Grow
import Derived.IntWalk
import Derived.Shelf.SlSortCmp.QuietGrown
import Derived.Laws.AppendOwnNone
import Derived.Deep.RegionHeld3
namespace Go.Proofs.Ytbcobheiofajeaa
open Go.RowKit
namespace M

/-- to which nodes one comes from x through the doors of which op holds -/
inductive Rch (ds : List Dr) (op : Dr → Bool) (x : Int) : Int → Prop
  | refl : Rch ds op x x
  | fwd {d : Dr} : d ∈ ds → op d = true → Rch ds op x d.1 → Rch ds op x d.2.1
  | bwd {d : Dr} : d ∈ ds → op d = true → Rch ds op x d.2.1 → Rch ds op x d.1

theorem Rch.closed {ds : List Dr} {op : Dr → Bool} {x : Int} {S : Int → Prop} (hx : S x) (hc : ∀ d ∈ ds, op d = true → (S d.1 ↔ S d.2.1)) {y : Int} (h : Rch ds op x y) : S y := by
  induction h with
  | refl => exact hx
  | fwd hd ho _ ih => exact (hc _ hd ho).1 ih
  | bwd hd ho _ ih => exact (hc _ hd ho).2 ih
theorem Rch.mono {ds : List Dr} {op op' : Dr → Bool} {x y : Int} (ho : ∀ d ∈ ds, op d = true → op' d = true) (h : Rch ds op x y) : Rch ds op' x y := by
  induction h with
  | refl => exact .refl
  | fwd hd hp _ ih => exact .fwd hd (ho _ hd hp) ih
  | bwd hd hp _ ih => exact .bwd hd (ho _ hd hp) ih

/-- whether the binary digit at a place is 1 -/
def digB (n : Nat) (p : Nat) : Bool := decide (n / 2 ^ p % 2 = 1)
/-- the places of the binary digits 1 below k, ascending -/
def digsTo (n k : Nat) : List Int := ((List.range k).filter (digB n)).map fun p : Nat => (p : Int)
theorem digsTo_zero (n : Nat) : digsTo n 0 = [] := rfl
theorem digsTo_yes {n k : Nat} (h : digB n k = true) : digsTo n (k + 1) = digsTo n k ++ [(k : Int)] := by
  unfold digsTo; rw [List.range_succ, List.filter_append, List.filter_cons_of_pos h]; simp
theorem digsTo_no {n k : Nat} (h : digB n k = false) : digsTo n (k + 1) = digsTo n k := by
  unfold digsTo; rw [List.range_succ, List.filter_append, List.filter_cons_of_neg (by rw [h]; decide)]; simp
theorem digsTo_len (n k : Nat) : (digsTo n k).length ≤ k := by
  unfold digsTo
  rw [List.length_map]
  have := List.length_filter_le (digB n) (List.range k)
  simpa using this
theorem mem_digsTo {n k : Nat} {x : Int} : x ∈ digsTo n k ↔ ∃ p : Nat, x = p ∧ p < k ∧ digB n p = true := by
  unfold digsTo
  rw [List.mem_map]
  constructor
  · rintro ⟨p, hp, rfl⟩
    rw [List.mem_filter, List.mem_range] at hp
    exact ⟨p, rfl, hp.1, hp.2⟩
  · rintro ⟨p, rfl, h1, h2⟩
    exact ⟨p, by rw [List.mem_filter, List.mem_range]; exact ⟨h1, h2⟩, rfl⟩
theorem digB_lt {n k : Nat} (h : n / 2 ^ k = 0) {p : Nat} (hp : k ≤ p) : digB n p = false := by
  unfold digB
  have : n / 2 ^ p = 0 := by
    rw [show p = k + (p - k) by omega, Nat.pow_add, ← Nat.div_div_eq_div_mul, h, Nat.zero_div]
  rw [this]; decide
theorem digsTo_more {n k : Nat} (h : n / 2 ^ k = 0) (j : Nat) : digsTo n (k + j) = digsTo n k := by
  induction j with
  | zero => rfl
  | succ j ih => rw [← Nat.add_assoc, digsTo_no (digB_lt h (by omega)), ih]
/-- how far one looks does not matter once nothing is left -/
theorem digsTo_eq {n k K : Nat} (h : n / 2 ^ k = 0) (hk : k ≤ K) : digsTo n K = digsTo n k := by
  obtain ⟨j, rfl⟩ : ∃ j, K = k + j := ⟨K - k, by omega⟩
  exact digsTo_more h j
theorem digsTo_asc (n k : Nat) : Asc ltI (digsTo n k) := by
  induction k with
  | zero => exact Asc.nil
  | succ k ih =>
    cases h : digB n k with
    | false => rw [digsTo_no h]; exact ih
    | true =>
      rw [digsTo_yes h]
      unfold Asc at *
      rw [List.pairwise_append]
      refine ⟨ih, by simp, fun a ha b hb => ?_⟩
      obtain ⟨p, rfl, hp, _⟩ := mem_digsTo.1 ha
      rw [List.mem_singleton] at hb
      subst hb
      unfold ltI
      rw [decide_eq_true_iff]
      omega
theorem digB_testBit (n p : Nat) : digB n p = n.testBit p := by
  unfold digB
  rw [Nat.testBit_eq_decide_div_mod_eq]
theorem digB_or (a b p : Nat) : digB (a ||| b) p = (digB a p || digB b p) := by
  rw [digB_testBit, digB_testBit, digB_testBit, Nat.testBit_or]
theorem digB_pow (i p : Nat) : digB (2 ^ i) p = decide (i = p) := by
  rw [digB_testBit, Nat.testBit_two_pow]
/-- the number of the nodes of a door -/
def endsN (d : Dr) : Nat := 2 ^ d.1.toNat ||| 2 ^ d.2.1.toNat
theorem digB_ends (d : Dr) (p : Nat) : digB (endsN d) p = true ↔ d.1.toNat = p ∨ d.2.1.toNat = p := by
  unfold endsN; rw [digB_or, digB_pow, digB_pow, Bool.or_eq_true, decide_eq_true_iff, decide_eq_true_iff]
theorem and_ends (n : Nat) (d : Dr) : n &&& endsN d = 0 ↔ digB n d.1.toNat = false ∧ digB n d.2.1.toNat = false := by
  constructor
  · intro h
    have ht : ∀ p, (n &&& endsN d).testBit p = false := fun p => by rw [h]; simp
    have h1 := ht d.1.toNat
    have h2 := ht d.2.1.toNat
    rw [Nat.testBit_and, ← digB_testBit, ← digB_testBit, (digB_ends d _).2 (.inl rfl), Bool.and_true] at h1
    rw [Nat.testBit_and, ← digB_testBit, ← digB_testBit, (digB_ends d _).2 (.inr rfl), Bool.and_true] at h2
    exact ⟨h1, h2⟩
  · rintro ⟨h1, h2⟩
    refine Nat.eq_of_testBit_eq fun p => ?_
    rw [Nat.testBit_and, ← digB_testBit, ← digB_testBit, Nat.zero_testBit]
    cases he : digB (endsN d) p with
    | false => rw [Bool.and_false]
    | true =>
      rcases (digB_ends d p).1 he with rfl | rfl
      · rw [h1]; rfl
      · rw [h2]; rfl

/-- what the number holds is told from x, and x is held -/
def MaskOk (ds : List Dr) (op : Dr → Bool) (x : Nat) (n : Nat) : Prop := digB n x = true ∧ n < 4096 ∧ ∀ p, digB n p = true → Rch ds op x p
/-- one door looked at -/
def stepN (op : Dr → Bool) (n : Nat) (d : Dr) : Nat := if op d = true ∧ n &&& endsN d ≠ 0 then n ||| endsN d else n
theorem endsN_lt {d : Dr} (h1 : d.1 < 12) (h2 : d.2.1 < 12) : endsN d < 4096 := by
  have h12 : (2 : Nat) ^ 12 = 4096 := rfl
  rw [← h12]
  unfold endsN
  exact Nat.or_lt_two_pow (Nat.pow_lt_pow_of_lt (by decide) (by omega)) (Nat.pow_lt_pow_of_lt (by decide) (by omega))
theorem MaskOk.start {ds : List Dr} {op : Dr → Bool} {x : Nat} (hx : x < 12) : MaskOk ds op x (2 ^ x) := by
  refine ⟨by rw [digB_pow]; simp, ?_, fun p hp => ?_⟩
  · have h12 : (2 : Nat) ^ 12 = 4096 := rfl
    rw [← h12]
    exact Nat.pow_lt_pow_of_lt (by decide) hx
  · rw [digB_pow, decide_eq_true_iff] at hp
    subst hp
    exact .refl
theorem MaskOk.step {ds : List Dr} {op : Dr → Bool} {x n : Nat} (h : MaskOk ds op x n) {d : Dr} (hd : d ∈ ds) (h0 : 0 ≤ d.1) (h1 : d.1 < 12) (h2 : 0 ≤ d.2.1) (h3 : d.2.1 < 12) : MaskOk ds op x (stepN op n d) := by
  unfold stepN
  split
  · rename_i hc
    obtain ⟨ho, hne⟩ := hc
    refine ⟨by rw [digB_or, h.1]; rfl, ?_, fun p hp => ?_⟩
    · have h12 : (2 : Nat) ^ 12 = 4096 := rfl
      have ha := h.2.1
      have hb := endsN_lt h1 h3
      rw [← h12] at ha hb ⊢
      exact Nat.or_lt_two_pow ha hb
    · rw [digB_or, Bool.or_eq_true] at hp
      rcases hp with hp | hp
      · exact h.2.2 p hp
      · have e1 : ((d.1.toNat : Nat) : Int) = d.1 := by omega
        have e2 : ((d.2.1.toNat : Nat) : Int) = d.2.1 := by omega
        have hor : Rch ds op x d.1 ∨ Rch ds op x d.2.1 := by
          cases a1 : digB n d.1.toNat with
          | true => exact .inl (by have := h.2.2 _ a1; rwa [e1] at this)
          | false =>
            cases a2 : digB n d.2.1.toNat with
            | true => exact .inr (by have := h.2.2 _ a2; rwa [e2] at this)
            | false => exact absurd ((and_ends n d).2 ⟨a1, a2⟩) hne
        have hb : Rch ds op x d.1 ∧ Rch ds op x d.2.1 := by
          rcases hor with k | k
          · exact ⟨k, .fwd hd ho k⟩
          · exact ⟨.bwd hd ho k, k⟩
        rcases (digB_ends d p).1 hp with rfl | rfl
        · rw [e1]; exact hb.1
        · rw [e2]; exact hb.2
  · exact h
/-- nothing more comes of any door -/
theorem mask_closed {ds : List Dr} {op : Dr → Bool} {n : Nat} (h : ∀ d ∈ ds, stepN op n d = n) {d : Dr} (hd : d ∈ ds) (ho : op d = true) : digB n d.1.toNat = true ↔ digB n d.2.1.toNat = true := by
  have hs := h d hd
  unfold stepN at hs
  split at hs
  · have hb : ∀ p, digB (endsN d) p = true → digB n p = true := fun p hp => by rw [← hs, digB_or, hp, Bool.or_true]
    rw [hb _ ((digB_ends d _).2 (.inl rfl)), hb _ ((digB_ends d _).2 (.inr rfl))]
  · rename_i hc
    have hz : n &&& endsN d = 0 := by
      rcases Nat.eq_zero_or_pos (n &&& endsN d) with h0 | h0
      · exact h0
      · exact absurd ⟨ho, by omega⟩ hc
    obtain ⟨a, b⟩ := (and_ends n d).1 hz
    rw [a, b]
theorem stepN_le (op : Dr → Bool) (n : Nat) (d : Dr) : n ≤ stepN op n d := by
  unfold stepN
  split
  · exact Nat.left_le_or
  · exact Nat.le_refl _
/-- the doors looked at one by one -/
def passN (op : Dr → Bool) (n : Nat) (ds : List Dr) : Nat := ds.foldl (stepN op) n
theorem passN_snoc (op : Dr → Bool) (n : Nat) (ds : List Dr) (d : Dr) : passN op n (ds ++ [d]) = stepN op (passN op n ds) d := by unfold passN; rw [List.foldl_append]; rfl
theorem passN_le (op : Dr → Bool) (n : Nat) (ds : List Dr) : n ≤ passN op n ds := by
  induction ds generalizing n with
  | nil => exact Nat.le_refl _
  | cons d ds ih => exact Nat.le_trans (stepN_le op n d) (ih _)
theorem passN_same {op : Dr → Bool} {n : Nat} : ∀ {ds : List Dr}, passN op n ds = n → ∀ d ∈ ds, stepN op n d = n
  | [], _, d, hd => by cases hd
  | e :: ds, h, d, hd => by
    have h1 := stepN_le op n e
    have h2 := passN_le op (stepN op n e) ds
    have h3 : passN op (stepN op n e) ds = n := h
    have he : stepN op n e = n := by omega
    rcases List.mem_cons.1 hd with rfl | hd
    · exact he
    · rw [he] at h3
      exact passN_same h3 d hd
theorem MaskOk.pass {ds : List Dr} {op : Dr → Bool} {x n : Nat} (h : MaskOk ds op x n) {l : List Dr} (hl : ∀ d ∈ l, d ∈ ds) (hv : ∀ d ∈ ds, 0 ≤ d.1 ∧ d.1 < 12 ∧ 0 ≤ d.2.1 ∧ d.2.1 < 12) : MaskOk ds op x (passN op n l) := by
  induction l generalizing n with
  | nil => exact h
  | cons d l ih =>
    obtain ⟨a, b, c, e⟩ := hv d (hl d (List.mem_cons_self ..))
    exact ih (h.step (hl d (List.mem_cons_self ..)) a b c e) fun d hd => hl d (List.mem_cons_of_mem _ hd)
/-- where a whole pass leaves the number, it tells just the nodes that can be reached -/
theorem mask_end {ds : List Dr} {op : Dr → Bool} {x n : Nat} (h : MaskOk ds op x n) (hp : passN op n ds = n) (hv : ∀ d ∈ ds, 0 ≤ d.1 ∧ d.1 < 12 ∧ 0 ≤ d.2.1 ∧ d.2.1 < 12) (y : Int) : y ∈ digsTo n 12 ↔ Rch ds op x y := by
  rw [mem_digsTo]
  constructor
  · rintro ⟨p, rfl, _, hp⟩
    exact h.2.2 p hp
  · intro hr
    have hc : 0 ≤ y ∧ digB n y.toNat = true := by
      refine Rch.closed (S := fun y => 0 ≤ y ∧ digB n y.toNat = true) ⟨by omega, by simpa using h.1⟩ (fun d hd ho => ?_) hr
      have hm := mask_closed (passN_same hp) hd ho
      obtain ⟨a, _, b, _⟩ := hv d hd
      exact ⟨fun k => ⟨b, hm.1 k.2⟩, fun k => ⟨a, hm.2 k.2⟩⟩
    refine ⟨y.toNat, by omega, ?_, hc.2⟩
    rcases Nat.lt_or_ge y.toNat 12 with hlt | hge
    · exact hlt
    · have := digB_lt (n := n) (k := 12) (Nat.div_eq_of_lt h.2.1) hge
      rw [this] at hc
      cases hc.2

/-- a list of nodes that is held in two orders, on the way -/
structure ListOk (ds : List Dr) (op : Dr → Bool) (x : Int) (out list : List Int) : Prop where
  asc : Asc ltI out
  same : ∀ z, z ∈ out ↔ z ∈ list
  nodup : list.Nodup
  reach : ∀ z, z ∈ list → Rch ds op x z
  first : x ∈ list
theorem ListOk.start (ds : List Dr) (op : Dr → Bool) (x : Int) : ListOk ds op x [x] [x] :=
  ⟨by unfold Asc; simp, fun _ => Iff.rfl, by simp, fun z hz => by rw [List.mem_singleton] at hz; subst hz; exact .refl, by simp⟩
theorem ListOk.step {ds : List Dr} {op : Dr → Bool} {x : Int} {out list : List Int} (h : ListOk ds op x out list) {y : Int} (hy : y ∉ out) (hr : Rch ds op x y) : ListOk ds op x (put ltI out y) (list ++ [y]) := by
  refine ⟨h.asc.put ordI y, fun z => ?_, ?_, fun z hz => ?_, List.mem_append_left _ h.first⟩
  · rw [mem_put, List.mem_append, List.mem_singleton, h.same]
  · rw [List.nodup_append]
    refine ⟨h.nodup, by simp, fun a ha b hb => ?_⟩
    rw [List.mem_singleton] at hb
    subst hb
    rintro rfl
    exact hy ((h.same _).2 ha)
  · rw [List.mem_append, List.mem_singleton] at hz
    rcases hz with hz | rfl
    · exact h.reach z hz
    · exact hr
/-- a list without repetition of numbers below n has at most n -/
theorem nodup_len {n : Nat} {l : List Int} (h : l.Nodup) (hb : ∀ z ∈ l, 0 ≤ z ∧ z < n) : l.length ≤ n := by
  induction n generalizing l with
  | zero =>
    cases l with
    | nil => simp
    | cons a l => have := hb a (List.mem_cons_self ..); omega
  | succ n ih =>
    have h1 := ih (h.erase (n : Int)) fun z hz => by
      obtain ⟨hne, hm⟩ := (List.Nodup.mem_erase_iff h).1 hz
      have := hb z hm
      have hne' : z ≠ (n : Int) := hne
      omega
    rw [List.length_erase] at h1
    split at h1 <;> omega
theorem ListOk.len {ds : List Dr} {op : Dr → Bool} {x : Int} {out list : List Int} (h : ListOk ds op x out list) {n : Nat} (hb : ∀ z, Rch ds op x z → 0 ≤ z ∧ z < n) : list.length ≤ n ∧ out.length ≤ n := by
  refine ⟨nodup_len h.nodup fun z hz => hb z (h.reach z hz), nodup_len ?_ fun z hz => hb z (h.reach z ((h.same z).1 hz))⟩
  have := h.asc
  unfold Asc at this
  refine this.imp fun {a b} hab => ?_
  rintro rfl
  rw [ordI.irrefl] at hab
  cases hab
/-- at the end it tells just the nodes that can be reached -/
theorem list_end {ds : List Dr} {op : Dr → Bool} {x : Int} {out list : List Int} (h : ListOk ds op x out list) (hc : ∀ z ∈ list, ∀ d ∈ ds, op d = true → (d.1 = z → d.2.1 ∈ list) ∧ (d.2.1 = z → d.1 ∈ list)) (y : Int) : y ∈ out ↔ Rch ds op x y := by
  rw [h.same]
  constructor
  · exact h.reach y
  · exact Rch.closed (S := fun y => y ∈ list) h.first fun d hd ho => ⟨fun k => (hc _ k d hd ho).1 rfl, fun k => (hc _ k d hd ho).2 rfl⟩
/-- the two ways tell the same list -/
theorem reach_same {ds : List Dr} {op op' : Dr → Bool} {x n : Nat} {out list : List Int} (hop : ∀ d ∈ ds, op d = op' d) (h : MaskOk ds op x n) (hp : passN op n ds = n) (hv : ∀ d ∈ ds, 0 ≤ d.1 ∧ d.1 < 12 ∧ 0 ≤ d.2.1 ∧ d.2.1 < 12)
    (hl : ListOk ds op' x out list) (hc : ∀ z ∈ list, ∀ d ∈ ds, op' d = true → (d.1 = z → d.2.1 ∈ list) ∧ (d.2.1 = z → d.1 ∈ list)) : digsTo n 12 = out :=
  (digsTo_asc n 12).ext ordI hl.asc fun y => by
    rw [mask_end h hp hv, list_end hl hc]
    exact ⟨Rch.mono fun d hd ho => by rw [← hop d hd]; exact ho, Rch.mono fun d hd ho => by rw [hop d hd]; exact ho⟩
end M
end Go.Proofs.Ytbcobheiofajeaa
namespace Go.Proofs.Ytbcobheiofajeaa
open Go.RowKit
namespace C
theorem own_slice {w : World} {base size n : Nat} {e : TypeId} {v : Value} {xs : List Value} (h : w.ownsRow base e size v n xs) : ∃ a c, v = .slice a n c ∧ n ≤ c ∧ c ≤ 9223372036854775807 ∧ OwnAt base w.heap.size w e a xs := by
  have h0 := h
  rcases h.2 with ⟨rfl, rfl⟩ | ⟨g, cap, cur, rfl, _, _, hn, hm, _⟩
  · exact ⟨none, 0, rfl, Nat.le_refl _, by omega, OwnAt.of_own h0⟩
  · unfold maxLen at hm
    exact ⟨_, _, rfl, hn, by omega, OwnAt.of_own h0⟩
theorem own_base {w : World} {B : Nat} {e : TypeId} {size n : Nat} {v : Value} {xs : List Value} (h : w.ownsRow B e size v n xs) : ∀ k, v.ownBlock = some k → B ≤ k := fun k hk => (h.lt k hk).1
theorem ownsRow_empty (w : World) (B : Nat) (e : TypeId) (size : Nat) (hB : B ≤ w.heap.size) : (w.alloc (.cells #[] e)).ownsRow B e size (.slice (some ⟨w.heap.size, 0, none⟩) 0 0) 0 [] :=
  ⟨by simp, .inr ⟨w.heap.size, 0, #[], rfl, hB, heap_alloc_new w _, Nat.le_refl _, by unfold maxLen; omega, by simp, by simp⟩⟩

/-- a list of numbers handed back in memory of the call's own -/
def IntsPost (w : World) (l : List Int) (e : Ending) (w' : World) : Prop :=
  ∃ a c, e = .returned (.slice a l.length c) ∧ OwnAt w.heap.size w'.heap.size w' 3 a (M.encIs l) ∧ l.length ≤ c ∧ c ≤ 9223372036854775807 ∧ Below w.heap.size w w'
/-- the same, and whether it could be done -/
def IntsOkPost (w : World) (l : List Int) (ok : Bool) (e : Ending) (w' : World) : Prop :=
  ∃ a c, e = .returned (.tuple #[.slice a l.length c, .bool ok]) ∧ OwnAt w.heap.size w'.heap.size w' 3 a (M.encIs l) ∧ l.length ≤ c ∧ c ≤ 9223372036854775807 ∧ Below w.heap.size w w'
theorem ints_end {w w' : World} {l : List Int} {v : Value} (h : w'.ownsRow w.heap.size 3 1 v l.length (M.encIs l)) (hb : Below w.heap.size w w') : IntsPost w l (.returned v) w' := by
  obtain ⟨a, c, rfl, h1, h2, h3⟩ := own_slice h
  exact ⟨a, c, rfl, h3, h1, h2, hb⟩
theorem intsOk_end {w w' : World} {l : List Int} {v : Value} {ok : Bool} (h : w'.ownsRow w.heap.size 3 1 v l.length (M.encIs l)) (hb : Below w.heap.size w w') : IntsOkPost w l ok (.returned (.tuple #[v, .bool ok])) w' := by
  obtain ⟨a, c, rfl, h1, h2, h3⟩ := own_slice h
  exact ⟨a, c, rfl, h3, h1, h2, hb⟩

section
set_option maxHeartbeats 800000
set_option maxRecDepth 20000
theorem l1In_any (x a b : Int) (w : World) : Calls Try.prog 94 #[.int .i64 x, .int .i64 a, .int .i64 b] w fun e w' => e = .returned (.bool (M.inB x a b)) ∧ w = w' := by
  have hb : M.inB x a b = (decide (a ≤ x) && decide (x ≤ b)) := by unfold M.inB; simp
  by_cases h : a ≤ x
  · have e : M.inB x a b = decide (x ≤ b) := by rw [hb]; simp [h]
    rw [e]
    clear hb e
    go_enter Try.func94, Try.ntmps94
    go_wp2_with fail
    go_ret
    exact ⟨rfl, rfl⟩
  · have e : M.inB x a b = false := by rw [hb]; simp [h]
    rw [e]
    clear hb e
    have h' : ¬ (a ≤ x) := h
    go_enter Try.func94, Try.ntmps94
    go_wp2_with fail
    go_ret
    exact ⟨rfl, rfl⟩
theorem l1In_yes (x a b : Int) (w : World) (h1 : a ≤ x) (h2 : x ≤ b) : Calls Try.prog 94 #[.int .i64 x, .int .i64 a, .int .i64 b] w fun e w' => e = .returned (.bool true) ∧ w = w' := by
  have := l1In_any x a b w
  rwa [show M.inB x a b = true from decide_eq_true ⟨h1, h2⟩] at this
theorem l1In_no (x a b : Int) (w : World) (h : ¬ (a ≤ x ∧ x ≤ b)) : Calls Try.prog 94 #[.int .i64 x, .int .i64 a, .int .i64 b] w fun e w' => e = .returned (.bool false) ∧ w = w' := by
  have := l1In_any x a b w
  rwa [show M.inB x a b = false from decide_eq_false h] at this
theorem l2Set_any (x : Int) (w : World) : Calls Try.prog 115 #[.int .i64 x] w fun e w' => e = .returned (.bool (M.setB x)) ∧ w = w' := by
  have hb : M.inB x 0 63 = M.setB x := by unfold M.inB M.setB; congr 1; apply propext; omega
  have H := Lib.hid hb
  clear hb
  go_enter Try.func115, Try.ntmps115
  go_wp2_with fail
  refine (l1In_any _ _ _ _).mono ?_
  rintro e w' ⟨rfl, rfl⟩
  rw [H.out]
  go_wp2_with fail
  go_ret
  exact ⟨rfl, rfl⟩
theorem isSet_any (x : Int) (w : World) : Calls Try.prog 124 #[.int .i64 x] w fun e w' => e = .returned (.bool (M.setB x)) ∧ w = w' := by
  have hb : M.setB x = (decide (0 ≤ x) && decide (x ≤ 63)) := by unfold M.setB; rw [show (decide (0 ≤ x) && decide (x ≤ 63)) = decide (0 ≤ x ∧ x ≤ 63) by simp]; congr 1; apply propext; omega
  by_cases h : 0 ≤ x
  · have e : M.setB x = decide (x ≤ 63) := by rw [hb]; simp [h]
    rw [e]
    clear hb e
    go_enter Try.func124, Try.ntmps124
    go_wp2_with fail
    go_ret
    exact ⟨rfl, rfl⟩
  · have e : M.setB x = false := by rw [hb]; simp [h]
    rw [e]
    clear hb e
    go_enter Try.func124, Try.ntmps124
    go_wp2_with fail
    go_ret
    exact ⟨rfl, rfl⟩
end
end C
end Go.Proofs.Ytbcobheiofajeaa
namespace Go.Proofs.Ytbcobheiofajeaa
open Go.RowKit
namespace M
def cmpI (x y : Int) : Int := if x < y then -1 else if y < x then 1 else 0
def cmpD (d e : Dr) : Int := if ltD d e then -1 else if ltD e d then 1 else 0
end M
namespace C
set_option maxHeartbeats 800000
set_option maxRecDepth 20000
theorem cmp_lt (x y : Int) (w : World) (h : x < y) : Calls Try.prog 141 #[.int .i64 x, .int .i64 y] w fun e w' => e = .returned (.int .i64 (-1)) ∧ w = w' := by
  have hn : ∀ x W, Calls Try.prog 147 #[.int .i64 x] W fun e w' => e = .returned (.bool false) ∧ W = w' := by
    intro x W
    go_enter Try.func147, Try.ntmps147
    go_wp2_with fail
    go_ret
    exact ⟨rfl, rfl⟩
  have HN := Lib.hid hn
  clear hn
  go_enter Try.func141, Try.ntmps141
  go_wp2_with (go_at_call 147; refine (HN.out _ _).mono ?_; rintro e w' ⟨rfl, rfl⟩)
  go_ret
  exact ⟨rfl, rfl⟩
theorem cmp_gt (x y : Int) (w : World) (h : y < x) : Calls Try.prog 141 #[.int .i64 x, .int .i64 y] w fun e w' => e = .returned (.int .i64 1) ∧ w = w' := by
  have hn : ∀ x W, Calls Try.prog 147 #[.int .i64 x] W fun e w' => e = .returned (.bool false) ∧ W = w' := by
    intro x W
    go_enter Try.func147, Try.ntmps147
    go_wp2_with fail
    go_ret
    exact ⟨rfl, rfl⟩
  have HN := Lib.hid hn
  clear hn
  have h' : ¬ x < y := by omega
  go_enter Try.func141, Try.ntmps141
  go_wp2_with (go_at_call 147; refine (HN.out _ _).mono ?_; rintro e w' ⟨rfl, rfl⟩)
  go_ret
  exact ⟨rfl, rfl⟩
theorem cmp_eq (x : Int) (w : World) : Calls Try.prog 141 #[.int .i64 x, .int .i64 x] w fun e w' => e = .returned (.int .i64 0) ∧ w = w' := by
  have hn : ∀ x W, Calls Try.prog 147 #[.int .i64 x] W fun e w' => e = .returned (.bool false) ∧ W = w' := by
    intro x W
    go_enter Try.func147, Try.ntmps147
    go_wp2_with fail
    go_ret
    exact ⟨rfl, rfl⟩
  have HN := Lib.hid hn
  clear hn
  have h' : ¬ x < x := by omega
  go_enter Try.func141, Try.ntmps141
  go_wp2_with (go_at_call 147; refine (HN.out _ _).mono ?_; rintro e w' ⟨rfl, rfl⟩)
  go_ret
  exact ⟨rfl, rfl⟩

theorem compare_any (g1 g2 : Nat) (c1 c2 : Nat) (x1 y1 z1 x2 y2 z2 : Int) (w : World)
    (a0 : w.cell? ⟨g1, 0, none⟩ = some (.int .i64 x1)) (a1 : w.cell? ⟨g1, 1, none⟩ = some (.int .i64 y1)) (a2 : w.cell? ⟨g1, 2, none⟩ = some (.int .i64 z1))
    (b0 : w.cell? ⟨g2, 0, none⟩ = some (.int .i64 x2)) (b1 : w.cell? ⟨g2, 1, none⟩ = some (.int .i64 y2)) (b2 : w.cell? ⟨g2, 2, none⟩ = some (.int .i64 z2)) :
    Calls Try.prog 129 #[.slice (some ⟨g1, 0, none⟩) 3 c1, .slice (some ⟨g2, 0, none⟩) 3 c2] w fun e w' => e = .returned (.int .i64 (M.cmpD (x1, y1, z1) (x2, y2, z2))) ∧ w = w' := by
  rcases Int.lt_trichotomy x1 x2 with h | rfl | h
  · have hc : Hid (M.cmpD (x1, y1, z1) (x2, y2, z2) = -1) := Lib.hid (by unfold M.cmpD M.ltD; simp [h])
    rw [hc.out]
    go_enter Try.func129, Try.ntmps129
    go_wp2_with fail
    refine wp_loop_rounds 4 ?_
    rw [rounds_succ]
    go_wp2_with (go_at_call 141; refine (cmp_lt _ _ _ h).mono ?_; rintro e w' ⟨rfl, rfl⟩)
    go_ret
    exact ⟨rfl, rfl⟩
  · rcases Int.lt_trichotomy y1 y2 with h | rfl | h
    · have hc : Hid (M.cmpD (x1, y1, z1) (x1, y2, z2) = -1) := Lib.hid (by unfold M.cmpD M.ltD; simp [h])
      rw [hc.out]
      go_enter Try.func129, Try.ntmps129
      go_wp2_with fail
      refine wp_loop_rounds 4 ?_
      rw [rounds_succ]
      go_wp2_with (go_at_call 141; refine (cmp_eq _ _).mono ?_; rintro e w' ⟨rfl, rfl⟩)
      rw [rounds_succ]
      go_wp2_with (go_at_call 141; refine (cmp_lt _ _ _ h).mono ?_; rintro e w' ⟨rfl, rfl⟩)
      go_ret
      exact ⟨rfl, rfl⟩
    · rcases Int.lt_trichotomy z1 z2 with h | rfl | h
      · have hc : Hid (M.cmpD (x1, y1, z1) (x1, y1, z2) = -1) := Lib.hid (by unfold M.cmpD M.ltD; simp [h])
        rw [hc.out]
        go_enter Try.func129, Try.ntmps129
        go_wp2_with fail
        refine wp_loop_rounds 4 ?_
        rw [rounds_succ]
        go_wp2_with (go_at_call 141; refine (cmp_eq _ _).mono ?_; rintro e w' ⟨rfl, rfl⟩)
        rw [rounds_succ]
        go_wp2_with (go_at_call 141; refine (cmp_eq _ _).mono ?_; rintro e w' ⟨rfl, rfl⟩)
        rw [rounds_succ]
        go_wp2_with (go_at_call 141; refine (cmp_lt _ _ _ h).mono ?_; rintro e w' ⟨rfl, rfl⟩)
        go_ret
        exact ⟨rfl, rfl⟩
      · have hc : Hid (M.cmpD (x1, y1, z1) (x1, y1, z1) = 0) := Lib.hid (by unfold M.cmpD M.ltD; simp)
        rw [hc.out]
        go_enter Try.func129, Try.ntmps129
        go_wp2_with fail
        refine wp_loop_rounds 4 ?_
        rw [rounds_succ]
        go_wp2_with (go_at_call 141; refine (cmp_eq _ _).mono ?_; rintro e w' ⟨rfl, rfl⟩)
        rw [rounds_succ]
        go_wp2_with (go_at_call 141; refine (cmp_eq _ _).mono ?_; rintro e w' ⟨rfl, rfl⟩)
        rw [rounds_succ]
        go_wp2_with (go_at_call 141; refine (cmp_eq _ _).mono ?_; rintro e w' ⟨rfl, rfl⟩)
        rw [rounds_succ]
        go_wp2_with fail
        go_ret
        exact ⟨rfl, rfl⟩
      · have hc : Hid (M.cmpD (x1, y1, z1) (x1, y1, z2) = 1) := Lib.hid (by unfold M.cmpD M.ltD; simp [h]; omega)
        rw [hc.out]
        go_enter Try.func129, Try.ntmps129
        go_wp2_with fail
        refine wp_loop_rounds 4 ?_
        rw [rounds_succ]
        go_wp2_with (go_at_call 141; refine (cmp_eq _ _).mono ?_; rintro e w' ⟨rfl, rfl⟩)
        rw [rounds_succ]
        go_wp2_with (go_at_call 141; refine (cmp_eq _ _).mono ?_; rintro e w' ⟨rfl, rfl⟩)
        rw [rounds_succ]
        go_wp2_with (go_at_call 141; refine (cmp_gt _ _ _ h).mono ?_; rintro e w' ⟨rfl, rfl⟩)
        go_ret
        exact ⟨rfl, rfl⟩
    · have hc : Hid (M.cmpD (x1, y1, z1) (x1, y2, z2) = 1) := Lib.hid (by unfold M.cmpD M.ltD; simp [h]; omega)
      rw [hc.out]
      go_enter Try.func129, Try.ntmps129
      go_wp2_with fail
      refine wp_loop_rounds 4 ?_
      rw [rounds_succ]
      go_wp2_with (go_at_call 141; refine (cmp_eq _ _).mono ?_; rintro e w' ⟨rfl, rfl⟩)
      rw [rounds_succ]
      go_wp2_with (go_at_call 141; refine (cmp_gt _ _ _ h).mono ?_; rintro e w' ⟨rfl, rfl⟩)
      go_ret
      exact ⟨rfl, rfl⟩
  · have hc : Hid (M.cmpD (x1, y1, z1) (x2, y2, z2) = 1) := Lib.hid (by unfold M.cmpD M.ltD; simp [h]; omega)
    rw [hc.out]
    go_enter Try.func129, Try.ntmps129
    go_wp2_with fail
    refine wp_loop_rounds 4 ?_
    rw [rounds_succ]
    go_wp2_with (go_at_call 141; refine (cmp_gt _ _ _ h).mono ?_; rintro e w' ⟨rfl, rfl⟩)
    go_ret
    exact ⟨rfl, rfl⟩
end C
end Go.Proofs.Ytbcobheiofajeaa
namespace Go.Proofs.Ytbcobheiofajeaa
open Go.RowKit
namespace C
set_option maxHeartbeats 800000
set_option maxRecDepth 20000
theorem compareDoors_any (d e : M.Dr) (w : World) :
    Calls Try.prog 125 #[.agg #[.int .i64 d.1, .int .i64 d.2.1, .int .i64 d.2.2], .agg #[.int .i64 e.1, .int .i64 e.2.1, .int .i64 e.2.2]] w fun en w' => en = .returned (.int .i64 (M.cmpD d e)) ∧ ∃ q os, w' = Sort.grow (w.drewN q) os := by
  obtain ⟨x1, y1, z1⟩ := d
  obtain ⟨x2, y2, z2⟩ := e
  go_enter Try.func125, Try.ntmps125
  go_wp2_with fail
  go_region_with (go_at_call 129; refine (compare_any _ _ _ _ x1 y1 z1 x2 y2 z2 _ (by go_simp) (by go_simp) (by go_simp) (by go_simp) (by go_simp) (by go_simp)).mono ?_; rintro e w' ⟨rfl, rfl⟩)
  all_goals
    go_wp2_with fail
    go_ret
    exact ⟨rfl, 1, _, by rw [Sort.alloc_eq_grow, Sort.alloc_eq_grow, Sort.grow_grow]; rfl⟩
theorem hasNode_any (m : M.Mz) (a b : Option Addr) (c d : Nat) (x : Int) (w : World) :
    Calls Try.prog 95 #[.agg #[.int .i64 m.size, .slice a m.doors.length c, .slice b m.keys.length d], .int .i64 x] w fun e w' => e = .returned (.bool (M.nodeB m.size x)) ∧ w.alloc (.cells #[.int .i64 m.size, .slice a m.doors.length c, .slice b m.keys.length d] 55) = w' := by
  have hb : M.nodeB m.size x = (decide (0 ≤ x) && decide (x < m.size)) := by unfold M.nodeB; simp
  by_cases h : 0 ≤ x
  · have e : M.nodeB m.size x = decide (x < m.size) := by rw [hb]; simp [h]
    rw [e]
    clear hb e
    go_enter Try.func95, Try.ntmps95
    go_wp2_with fail
    go_ret
    exact ⟨rfl, rfl⟩
  · have e : M.nodeB m.size x = false := by rw [hb]; simp [h]
    rw [e]
    clear hb e
    go_enter Try.func95, Try.ntmps95
    go_wp2_with fail
    go_ret
    exact ⟨rfl, rfl⟩
theorem validSize_any (m : M.Mz) (a b : Option Addr) (c d : Nat) (w : World) :
    Calls Try.prog 97 #[.agg #[.int .i64 m.size, .slice a m.doors.length c, .slice b m.keys.length d]] w fun e w' => e = .returned (.bool (M.sizeB m)) ∧ Below w.heap.size w w' := by
  have hb : M.sizeB m = (decide (1 ≤ m.size) && decide (m.size ≤ 12)) := by unfold M.sizeB; simp
  by_cases h : 1 ≤ m.size
  · have e : M.sizeB m = decide (m.size ≤ 12) := by rw [hb]; simp [h]
    rw [e]
    clear hb e
    go_enter Try.func97, Try.ntmps97
    go_wp2_with fail
    go_ret
    exact ⟨rfl, below_alloc _ _⟩
  · have e : M.sizeB m = false := by rw [hb]; simp [h]
    rw [e]
    clear hb e
    go_enter Try.func97, Try.ntmps97
    go_wp2_with fail
    go_ret
    exact ⟨rfl, below_alloc _ _⟩

/-- what is asked of a predicate handed to slices.ContainsFunc: it answers p, and leaves what lies in w as it is -/
def PredOk (g : Nat) (lb : Array Value) (p : Int → Bool) (w : World) : Prop :=
  ∀ W x, Below w.heap.size w W → Calls Try.prog g (#[.int .i64 x] ++ lb) W fun e w' => e = .returned (.bool (p x)) ∧ Below W.heap.size W w'
theorem indexFunc_any (g : Nat) (lb : Array Value) (p : Int → Bool) (eg : ∀ args w, (callFunc g args).run Try.prog w = .ok (.enter g args) w) (w : World) (lo hi : Nat) (a : Option Addr) (c : Nat) (l : List Int)
    (hp : PredOk g lb p w) (h : RowIn lo hi w a (M.encIs l)) (hz : hi ≤ w.heap.size) (hl : l.length ≤ 1048576) :
    Calls Try.prog 100 #[.slice a l.length c, .func (.func g) #[] lb] w fun e w' => (∃ i : Int, e = .returned (.int .i64 i) ∧ decide (0 ≤ i) = l.any p) ∧ Below w.heap.size w w' := by
  have h' := Lib.hid h
  have HP := Lib.hid hp
  clear h hp
  go_enter Try.func100, Try.ntmps100
  go_wp2_with fail
  go_loopw [5, 8] (fun _ i wr => ∃ (k : Nat), k ≤ l.length ∧ i = .int .i64 k ∧ (∀ j (hj : j < l.length), j < k → p l[j] = false) ∧ Below w.heap.size w wr) (fun _ i _ => l.length - (intOf i).toNat)
  case atStart => exact ⟨0, Nat.zero_le _, rfl, fun j _ h => by omega, Below.refl _ _⟩
  case round =>
    obtain ⟨k, hk, rfl, hall, hnx⟩ := hrel
    have HA := Lib.hid hall
    have HN := Lib.hid hnx
    have hzr := hnx.size
    clear hall hnx
    by_cases hlt : k < l.length
    · obtain ⟨b, off, rfl, _, hb, hc0⟩ := h'.out.at_ (k := k) (by rw [M.encIs_len]; exact hlt)
      have hc : wr.cell? ⟨b, off + k, none⟩ = some (.int .i64 l[k]) := (HN.out.cell (p := ⟨b, off + k, none⟩) (Nat.lt_of_lt_of_le hb hz)).trans (hc0 k _ (M.encIs_at hlt))
      clear hc0
      have CP := Lib.hid (HP.out wr l[k] HN.out)
      cases hq : p l[k] with
      | true =>
        rw [hq] at CP
        have HQ := Lib.hid hq
        clear hq
        go_wp2_with (go_at_fn g; refine (CP.out).mono ?_; rintro e w' ⟨rfl, hb2⟩)
        go_ret
        exact ⟨⟨k, rfl, by rw [List.any_eq_true.2 ⟨_, List.getElem_mem hlt, HQ.out⟩]; simp⟩, HN.out.trans (hb2.mono hzr)⟩
      | false =>
        rw [hq] at CP
        have HQ := Lib.hid hq
        clear hq
        go_wp2_with (go_at_fn g; refine (CP.out).mono ?_; rintro e w' ⟨rfl, hb2⟩)
        go_roundw
        case rel => exact ⟨k + 1, by omega, by go_num, fun j hj hjk => by
            rcases Nat.lt_or_ge j k with h | h
            · exact HA.out j hj h
            · obtain rfl : j = k := by omega
              exact HQ.out, HN.out.trans (hb2.mono hzr)⟩
        case measure => simp [intOf]; omega
    · obtain rfl : k = l.length := by omega
      have HF : Hid (l.any p = false) := Lib.hid (by
        rw [List.any_eq_false]
        intro x hx
        obtain ⟨j, hj, rfl⟩ := List.mem_iff_getElem.1 hx
        rw [HA.out j hj hj]
        decide)
      go_wp2_with fail
      go_ret
      exact ⟨⟨-1, rfl, by rw [HF.out]; rfl⟩, HN.out⟩
theorem containsFunc_any (g : Nat) (lb : Array Value) (p : Int → Bool) (eg : ∀ args w, (callFunc g args).run Try.prog w = .ok (.enter g args) w) (w : World) (lo hi : Nat) (a : Option Addr) (c : Nat) (l : List Int)
    (hp : PredOk g lb p w) (h : RowIn lo hi w a (M.encIs l)) (hz : hi ≤ w.heap.size) (hl : l.length ≤ 1048576) :
    Calls Try.prog 63 #[.slice a l.length c, .func (.func g) #[] lb] w fun e w' => e = .returned (.bool (l.any p)) ∧ Below w.heap.size w w' := by
  have CI := Lib.hid (indexFunc_any g lb p eg w lo hi a c l hp h hz hl)
  clear hp h
  go_enter Try.func63, Try.ntmps63
  go_wp2_with fail
  refine CI.out.mono ?_
  rintro e w1 ⟨⟨i, rfl, hi⟩, hb⟩
  have HI := Lib.hid hi
  have HB := Lib.hid hb
  clear hi hb
  go_wp2_with fail
  go_ret
  exact ⟨by rw [← HI.out]; rfl, HB.out⟩
end C
end Go.Proofs.Ytbcobheiofajeaa
namespace Go.Proofs.Ytbcobheiofajeaa
open Go.RowKit
namespace C
set_option maxHeartbeats 800000
set_option maxRecDepth 20000
theorem notSet_any (x : Int) (w : World) : Calls Try.prog 123 #[.int .i64 x] w fun e w' => e = .returned (.bool (!M.setB x)) ∧ w = w' := by
  go_enter Try.func123, Try.ntmps123
  go_wp2_with fail
  refine (isSet_any _ _).mono ?_
  rintro e w' ⟨rfl, rfl⟩
  go_wp2_with fail
  go_ret
  exact ⟨rfl, rfl⟩
theorem keysB_any (l : List Int) : M.keysB l = !(l.any fun x => !M.setB x) := by
  unfold M.keysB
  rw [List.all_eq_not_any_not]
def keysLenB (m : M.Mz) : Bool := decide ((m.keys.length : Int) = m.size)
theorem validKeys_any (w : World) (lo hi : Nat) (m : M.Mz) (a b : Option Addr) (c d : Nat) (h : MzIn lo hi w m a c b d) (hz : hi ≤ w.heap.size) (hs : m.size ≤ 12) :
    Calls Try.prog 98 #[.agg #[.int .i64 m.size, .slice a m.doors.length c, .slice b m.keys.length d]] w fun e w' => e = .returned (.bool (keysLenB m && M.keysB m.keys)) ∧ Below w.heap.size w w' := by
  have H := Lib.hid h
  have hd1 := h.d1
  have hd2 := h.d2
  clear h
  by_cases hl : (m.keys.length : Int) = m.size
  · have HL : Hid (keysLenB m = true) := Lib.hid (decide_eq_true hl)
    have hbl : (((m.keys.length : Nat) : Int) == m.size) = true := by simpa using hl
    have hle : m.keys.length ≤ 12 := by omega
    have HK := Lib.hid (keysB_any m.keys)
    rw [HL.out, Bool.true_and]
    clear hl
    go_enter Try.func98, Try.ntmps98
    go_wp2_with fail
    refine named ?_
    intro W hW
    have hb : Below w.heap.size w W := by rw [hW]; exact (Below.refl _ _).alloc (Nat.le_refl _) _
    clear hW
    have HB := Lib.hid hb
    have hzw := hb.size
    refine (containsFunc_any 123 #[] (fun x => !M.setB x) (enters_of Try.func123 (by kernel_rfl) rfl) W lo hi b d m.keys (fun W' x _ => (notSet_any x W').mono fun _ _ ⟨he, hw⟩ => ⟨he, by rw [← hw]; exact Below.refl _ _⟩) (H.out.below hb hz).keys (by omega) (by omega)).mono ?_
    rintro e w1 ⟨rfl, hb1⟩
    have HB1 := Lib.hid (hb.trans (hb1.mono hzw))
    clear hb1 hb
    go_wp2_with fail
    go_ret
    exact ⟨by rw [HK.out]; rfl, HB1.out⟩
  · have HL : Hid (keysLenB m = false) := Lib.hid (decide_eq_false hl)
    have hbl : (((m.keys.length : Nat) : Int) == m.size) = false := by simpa using hl
    rw [HL.out, Bool.false_and]
    clear hl
    go_enter Try.func98, Try.ntmps98
    go_wp2_with fail
    go_ret
    exact ⟨rfl, below_alloc _ _⟩
theorem cmpD_lt {d e : M.Dr} : M.cmpD d e < 0 ↔ M.ltD d e = true := by
  unfold M.cmpD
  split
  · rename_i h; simp [h]
  · rename_i h; split <;> simp_all

theorem stepB_no1 {n : Int} {l : List M.Dr} {k : Nat} (h : k < l.length) (hd : M.doorB n l[k] = false) : M.doorsB n l = false := by
  refine M.all_range_no h ?_
  rw [Bool.eq_false_iff]
  intro hs
  have := ((M.stepB_iff h).1 hs).1
  rw [hd] at this
  cases this
theorem stepB_no2 {n : Int} {l : List M.Dr} {k : Nat} (h : k < l.length) (h0 : 0 < k) (hd : M.ltD (l.getD (k - 1) default) l[k] = false) : M.doorsB n l = false := by
  refine M.all_range_no h ?_
  rw [Bool.eq_false_iff]
  intro hs
  have := ((M.stepB_iff h).1 hs).2 h0
  rw [hd] at this
  cases this
def fewB (m : M.Mz) : Bool := decide (m.doors.length ≤ 30)
def DoorsPost (w : World) (m : M.Mz) (e : Ending) (w' : World) : Prop := e = .returned (.bool (fewB m && M.doorsB m.size m.doors)) ∧ Below w.heap.size w w'
theorem validDoors_any (w : World) (lo hi : Nat) (m : M.Mz) (a b : Option Addr) (c d : Nat) (h : MzIn lo hi w m a c b d) (hz : hi ≤ w.heap.size) :
    Calls Try.prog 99 #[.agg #[.int .i64 m.size, .slice a m.doors.length c, .slice b m.keys.length d]] w (DoorsPost w m) := by
  have H := Lib.hid h
  have hc1 := h.c1
  have hc2 := h.c2
  clear h
  by_cases hl : m.doors.length ≤ 30
  · have HL : Hid (fewB m = true) := Lib.hid (decide_eq_true hl)
    go_enter Try.func99, Try.ntmps99
    go_wp2_with fail
    go_loopw [3, 4, 12] (fun _ _ i wr => ∃ (k : Nat), k ≤ m.doors.length ∧ i = .int .i64 k ∧ (∀ j, j < k → M.stepB m.size m.doors j = true) ∧ Box3 wr w.heap.size 55 (.int .i64 m.size) (.slice a m.doors.length c) (.slice b m.keys.length d) ∧ Below w.heap.size w wr) (fun _ _ i _ => m.doors.length - (intOf i).toNat)
    case atStart => exact ⟨0, Nat.zero_le _, rfl, fun j h => by omega, Box3.new _ _ _ _ rfl, below_alloc _ _⟩
    case round =>
      obtain ⟨k, hk, rfl, hall, hbox, hnx⟩ := hrel
      have HA := Lib.hid hall
      have HN := Lib.hid hnx
      have HBX := Lib.hid hbox
      have hzr := hnx.size
      have hbl := hbox.lt
      obtain ⟨x0, x1, x2⟩ := hbox.cells
      clear hall hnx hbox
      by_cases hlt : k < m.doors.length
      · obtain ⟨db, off, rfl, _, hb, hc0⟩ := (H.out.doors.below HN.out hz).at_ (k := k * 3) (by rw [M.encDs_len]; omega)
        have a0 := hc0 _ _ (M.encDs_at0 hlt)
        have a1 : wr.cell? ⟨db, off + k * 3 + 1, none⟩ = some (.int .i64 m.doors[k].2.1) := hc0 _ _ (M.encDs_at1 hlt)
        have a2 : wr.cell? ⟨db, off + k * 3 + 2, none⟩ = some (.int .i64 m.doors[k].2.2) := hc0 _ _ (M.encDs_at2 hlt)
        have HC := Lib.hid hc0
        clear hc0
        generalize hdk : m.doors[k] = dk at a0 a1 a2
        have HDK := Lib.hid hdk
        clear hdk
        obtain ⟨dx, dy, dz⟩ := dk
        have hD : M.doorB m.size m.doors[k] = (M.nodeB m.size dx && M.nodeB m.size dy && decide (dx < dy) && M.setB dz) := by
          rw [HDK.out]
          unfold M.doorB M.nodeB M.setB
          rw [Bool.eq_iff_iff]
          simp only [Bool.and_eq_true, decide_eq_true_eq]
          omega
        have HD := Lib.hid hD
        clear hD
        simp only at a0 a1 a2
        cases q0 : M.nodeB m.size dx with
        | false =>
          have HF : Hid (M.doorsB m.size m.doors = false) := Lib.hid (stepB_no1 hlt (by rw [HD.out, q0]; rfl))
          have Q0 := Lib.hid q0
          clear q0
          go_wp2_with fail
          refine (hasNode_any m _ _ _ _ _ _).mono ?_
          rintro e w1 ⟨rfl, rfl⟩
          rw [Q0.out]
          go_wp2_with fail
          go_ret
          exact ⟨by rw [HL.out, HF.out]; rfl, by (repeat (first | exact HN.out | (refine Below.alloc ?_ (by first | omega | (simp; omega)) _) | (refine Below.drawnN ?_ _)))⟩
        | true =>
          have Q0 := Lib.hid q0
          clear q0
          cases q1 : M.nodeB m.size dy with
          | false =>
            have HF : Hid (M.doorsB m.size m.doors = false) := Lib.hid (stepB_no1 hlt (by rw [HD.out, q1, Q0.out]; rfl))
            have Q1 := Lib.hid q1
            clear q1
            go_wp2_with fail
            refine (hasNode_any m _ _ _ _ _ _).mono ?_
            rintro e w1 ⟨rfl, rfl⟩
            rw [Q0.out]
            go_wp2_with fail
            refine (hasNode_any m _ _ _ _ _ _).mono ?_
            rintro e w1 ⟨rfl, rfl⟩
            rw [Q1.out]
            go_wp2_with fail
            go_ret
            exact ⟨by rw [HL.out, HF.out]; rfl, by (repeat (first | exact HN.out | (refine Below.alloc ?_ (by first | omega | (simp; omega)) _) | (refine Below.drawnN ?_ _)))⟩
          | true =>
            have Q1 := Lib.hid q1
            clear q1
            by_cases q2 : dx < dy
            · cases q3 : M.setB dz with
              | false =>
                have HF : Hid (M.doorsB m.size m.doors = false) := Lib.hid (stepB_no1 hlt (by rw [HD.out, q3, Q0.out, Q1.out]; simp))
                have Q3 := Lib.hid q3
                clear q3
                go_wp2_with fail
                refine (hasNode_any m _ _ _ _ _ _).mono ?_
                rintro e w1 ⟨rfl, rfl⟩
                rw [Q0.out]
                go_wp2_with fail
                refine (hasNode_any m _ _ _ _ _ _).mono ?_
                rintro e w1 ⟨rfl, rfl⟩
                rw [Q1.out]
                go_wp2_with fail
                refine (isSet_any _ _).mono ?_
                rintro e w1 ⟨rfl, rfl⟩
                rw [Q3.out]
                go_wp2_with fail
                go_ret
                exact ⟨by rw [HL.out, HF.out]; rfl, by (repeat (first | exact HN.out | (refine Below.alloc ?_ (by first | omega | (simp; omega)) _) | (refine Below.drawnN ?_ _)))⟩
              | true =>
                have Q3 := Lib.hid q3
                clear q3
                have HY : Hid (M.doorB m.size m.doors[k] = true) := Lib.hid (by rw [HD.out, Q0.out, Q1.out, Q3.out, decide_eq_true q2]; rfl)
                rcases Nat.eq_zero_or_pos k with hk0 | hk0
                · have hk1 : ¬ 0 < k := by omega
                  have hg : decide ((0 : Int) < (k : Int)) = false := decide_eq_false (by omega)
                  have HS : Hid (M.stepB m.size m.doors k = true) := Lib.hid ((M.stepB_iff hlt).2 ⟨HY.out, fun h => absurd h hk1⟩)
                  have HK0 := Lib.hid hk0
                  clear hk0
                  go_wp2_with fail
                  refine (hasNode_any m _ _ _ _ _ _).mono ?_
                  rintro e w1 ⟨rfl, rfl⟩
                  rw [Q0.out]
                  go_wp2_with fail
                  refine (hasNode_any m _ _ _ _ _ _).mono ?_
                  rintro e w1 ⟨rfl, rfl⟩
                  rw [Q1.out]
                  go_wp2_with fail
                  refine (isSet_any _ _).mono ?_
                  rintro e w1 ⟨rfl, rfl⟩
                  rw [Q3.out]
                  go_wp2_with fail
                  go_quiet (fail)
                  go_wp2_with fail
                  go_roundw
                  case rel => exact ⟨k + 1, by omega, by go_num, fun j hj => by
                    rcases Nat.lt_or_ge j k with h | h
                    · exact HA.out j h
                    · obtain rfl : j = k := by omega
                      exact HS.out, ((HBX.out.alloc _).alloc _).alloc _, by (repeat (first | exact HN.out | (refine Below.alloc ?_ (by first | omega | (simp; omega)) _) | (refine Below.drawnN ?_ _)))⟩
                  case measure => simp [intOf]; omega
                · obtain ⟨j, rfl⟩ : ∃ j, k = j + 1 := ⟨k - 1, by omega⟩
                  obtain ⟨r, hr⟩ : ∃ r, r = M.cmpD (m.doors[j]'(by omega)) (dx, dy, dz) := ⟨_, rfl⟩
                  have CP := Lib.hid (fun W => compareDoors_any (m.doors[j]'(by omega)) (dx, dy, dz) W)
                  rw [← hr] at CP
                  have hgd : M.ltD (m.doors.getD (j + 1 - 1) default) m.doors[j + 1] = M.ltD (m.doors[j]'(by omega)) (dx, dy, dz) := by
                    rw [HDK.out, Nat.add_sub_cancel, List.getD_eq_getElem?_getD, List.getElem?_eq_getElem (by omega)]
                    rfl
                  have HR : Hid (r < 0 ↔ M.ltD (m.doors.getD (j + 1 - 1) default) m.doors[j + 1] = true) := Lib.hid (by rw [hgd, hr]; exact cmpD_lt)
                  clear hr hgd
                  have p0 : wr.cell? ⟨db, off + j * 3, none⟩ = some (.int .i64 (m.doors[j]'(by omega)).1) := HC.out _ _ (M.encDs_at0 (by omega))
                  have p1 : wr.cell? ⟨db, off + j * 3 + 1, none⟩ = some (.int .i64 (m.doors[j]'(by omega)).2.1) := HC.out _ _ (M.encDs_at1 (by omega))
                  have p2 : wr.cell? ⟨db, off + j * 3 + 2, none⟩ = some (.int .i64 (m.doors[j]'(by omega)).2.2) := HC.out _ _ (M.encDs_at2 (by omega))
                  go_wp2_with fail
                  refine (hasNode_any m _ _ _ _ _ _).mono ?_
                  rintro e w1 ⟨rfl, rfl⟩
                  rw [Q0.out]
                  go_wp2_with fail
                  refine (hasNode_any m _ _ _ _ _ _).mono ?_
                  rintro e w1 ⟨rfl, rfl⟩
                  rw [Q1.out]
                  go_wp2_with fail
                  refine (isSet_any _ _).mono ?_
                  rintro e w1 ⟨rfl, rfl⟩
                  rw [Q3.out]
                  go_wp2_with fail
                  refine wp_named ?_
                  intro W hW
                  have hbW : Below wr.heap.size wr W := by rw [hW]; exact (((Below.refl _ _).alloc (by omega) _).alloc (by simp) _).alloc (by simp; omega) _
                  have hdb : Box3 W wr.heap.size 103 (.int .i64 dx) (.int .i64 dy) (.int .i64 dz) := by rw [hW]; exact ((Box3.new _ _ _ _ rfl).alloc _).alloc _
                  clear hW
                  have hmb := HBX.out.below hbW
                  obtain ⟨m0, m1, m2⟩ := hmb.cells
                  obtain ⟨e0, e1, e2⟩ := hdb.cells
                  have hdw : db < wr.heap.size := by omega
                  have hw1 : IntKind.i64.wrap ((j : Int) + 1 - 1) = (j : Int) := by rw [IntWalk.i64_in _ (by omega)]; omega
                  have hw2 : IntKind.i64.wrap (j : Int) = (j : Int) := IntWalk.i64_in _ (by omega)
                  have hjl : j < m.doors.length := by omega
                  have hjl2 : (j : Int) < (m.doors.length : Int) := by omega
                  have r0 := (hbW.cell (p := ⟨db, off + j * 3, none⟩) hdw).trans p0
                  have r1 := (hbW.cell (p := ⟨db, off + j * 3 + 1, none⟩) hdw).trans p1
                  have r2 := (hbW.cell (p := ⟨db, off + j * 3 + 2, none⟩) hdw).trans p2
                  have hdl := hdb.lt
                  have hml := hmb.lt
                  have M1 := cell_grown hml m1
                  have E0 := cell_grown hdl e0
                  have E1 := cell_grown hdl e1
                  have E2 := cell_grown hdl e2
                  have hdW : db < W.heap.size := by have := hbW.size; omega
                  have R0 := cell_grown (a := ⟨db, off + j * 3, none⟩) hdW r0
                  have R1 := cell_grown (a := ⟨db, off + j * 3 + 1, none⟩) hdW r1
                  have R2 := cell_grown (a := ⟨db, off + j * 3 + 2, none⟩) hdW r2
                  have mixed : Try.prog.follows .mixedOrders = true := by kernel_rfl
                  have HMB := Lib.hid hmb
                  have hzW := hbW.size
                  have HBW := Lib.hid (HN.out.trans (hbW.mono hzr))
                  clear hmb hdb p0 p1 p2 x0 x1 x2 a0 a1 a2 hbW m0 m1 m2 e0 e1 e2 r0 r1 r2
                  have hg : decide ((0 : Int) < (j : Int) + 1) = true := decide_eq_true (by omega)
                  by_cases hr0 : r < 0
                  · have HS : Hid (M.stepB m.size m.doors (j + 1) = true) := Lib.hid ((M.stepB_iff hlt).2 ⟨HY.out, fun _ => HR.out.1 hr0⟩)
                    go_quiet_grown (first | (go_at_call 125; refine Calls.grown_of (CP.out _)))
                    go_wp2_with fail
                    go_roundw
                    case rel => exact ⟨j + 1 + 1, by omega, by go_num, fun i hi => by
                      rcases Nat.lt_or_ge i (j + 1) with h | h
                      · exact HA.out i h
                      · obtain rfl : i = j + 1 := by omega
                        exact HS.out, HMB.out.below (below_grown W _ _), HBW.out.trans ((below_grown W _ _).mono (by omega))⟩
                    case measure => simp [intOf]; omega
                  · have HF : Hid (M.doorsB m.size m.doors = false) := Lib.hid (stepB_no2 hlt (by omega) (by
                      rw [Bool.eq_false_iff]
                      exact fun h => hr0 (HR.out.2 h)))
                    go_quiet_grown (first | (go_at_call 125; refine Calls.grown_of (CP.out _)))
                    go_wp2_with fail
                    go_ret
                    exact ⟨by rw [HL.out, HF.out]; rfl, HBW.out.trans ((below_grown W _ _).mono (by omega))⟩
            · have HF : Hid (M.doorsB m.size m.doors = false) := Lib.hid (stepB_no1 hlt (by rw [HD.out, decide_eq_false q2]; simp))
              go_wp2_with fail
              refine (hasNode_any m _ _ _ _ _ _).mono ?_
              rintro e w1 ⟨rfl, rfl⟩
              rw [Q0.out]
              go_wp2_with fail
              refine (hasNode_any m _ _ _ _ _ _).mono ?_
              rintro e w1 ⟨rfl, rfl⟩
              rw [Q1.out]
              go_wp2_with fail
              go_ret
              exact ⟨by rw [HL.out, HF.out]; rfl, by (repeat (first | exact HN.out | (refine Below.alloc ?_ (by first | omega | (simp; omega)) _) | (refine Below.drawnN ?_ _)))⟩
      · obtain rfl : k = m.doors.length := by omega
        have HF : Hid (M.doorsB m.size m.doors = true) := Lib.hid (M.all_range_take.2 HA.out)
        go_wp2_with fail
        go_ret
        exact ⟨by rw [HL.out, HF.out]; rfl, HN.out⟩
  · have HL : Hid (fewB m = false) := Lib.hid (decide_eq_false hl)
    have hl' : 30 < m.doors.length := by omega
    go_enter Try.func99, Try.ntmps99
    go_wp2_with fail
    go_ret
    exact ⟨by rw [HL.out]; rfl, below_alloc _ _⟩
end C
end Go.Proofs.Ytbcobheiofajeaa
namespace Go.Proofs.Ytbcobheiofajeaa
open Go.RowKit
namespace C
set_option maxHeartbeats 800000
set_option maxRecDepth 20000
theorem mazeB_parts (m : M.Mz) : M.mazeB m = (M.sizeB m && ((keysLenB m && M.keysB m.keys) && (fewB m && M.doorsB m.size m.doors))) := by
  unfold M.mazeB M.shapeB M.sizeB keysLenB fewB
  rw [Bool.eq_iff_iff]
  simp only [Bool.and_eq_true, decide_eq_true_eq]
  constructor
  · rintro ⟨⟨⟨h1, h2, h3, h4⟩, h5⟩, h6⟩
    exact ⟨⟨h1, h2⟩, ⟨h4, h6⟩, h3, h5⟩
  · rintro ⟨⟨h1, h2⟩, ⟨h4, h6⟩, h3, h5⟩
    exact ⟨⟨⟨h1, h2, h3, h4⟩, h5⟩, h6⟩
def BoolPost (w : World) (r : Bool) (e : Ending) (w' : World) : Prop := e = .returned (.bool r) ∧ Below w.heap.size w w'
theorem isMaze_any (w : World) (lo hi : Nat) (m : M.Mz) (a b : Option Addr) (c d : Nat) (h : MzIn lo hi w m a c b d) (hz : hi ≤ w.heap.size) :
    Calls Try.prog 62 #[.agg #[.int .i64 m.size, .slice a m.doors.length c, .slice b m.keys.length d]] w (BoolPost w (M.mazeB m)) := by
  have H := Lib.hid h
  have HP := Lib.hid (mazeB_parts m)
  clear h
  go_enter Try.func62, Try.ntmps62
  go_wp2_with fail
  refine wp_loop_rounds 4 ?_
  rw [rounds_succ]
  go_wp2_with fail
  refine named ?_
  intro W hW
  have hb : Below w.heap.size w W := by rw [hW]; exact ((Below.refl _ _).alloc (Nat.le_refl _) _).alloc (by simp) _
  have x1 : Box3 W w.heap.size 55 (.int .i64 m.size) (.slice a m.doors.length c) (.slice b m.keys.length d) := by rw [hW]; exact (Box3.new _ _ _ _ rfl).alloc _
  have x2 : Box3 W (w.heap.size + 1) 69 (.func (.func 97) #[] #[]) (.func (.func 98) #[] #[]) (.func (.func 99) #[] #[]) := by rw [hW]; exact Box3.new _ _ _ _ (by simp)
  clear hW
  have hzw := hb.size
  have HB := Lib.hid hb
  refine (validSize_any m a b c d W).mono ?_
  rintro e w1 ⟨rfl, hb1⟩
  have X1 := x1.below hb1
  have X2 := x2.below hb1
  obtain ⟨c10, c11, c12⟩ := X1.cells
  obtain ⟨c20, c21, c22⟩ := X2.cells
  have hz1 := hb1.size
  have HX1 := Lib.hid X1
  have HX2 := Lib.hid X2
  have HB1 := Lib.hid (hb.trans (hb1.mono hzw))
  clear x1 x2 hb hb1 X1 X2
  cases q0 : M.sizeB m with
  | false =>
    have HF : Hid (M.mazeB m = false) := Lib.hid (by rw [HP.out, q0]; rfl)
    clear q0
    go_wp2_with fail
    go_ret
    exact ⟨by rw [HF.out]; rfl, HB1.out⟩
  | true =>
    have hs12 : m.size ≤ 12 := by unfold M.sizeB at q0; exact (decide_eq_true_iff.1 q0).2
    have Q0 := Lib.hid q0
    clear q0
    go_wp2_with fail
    rw [rounds_succ]
    go_wp2_with fail
    refine (validKeys_any w1 lo hi m a b c d (H.out.below HB1.out hz) (by omega) hs12).mono ?_
    rintro e w2 ⟨rfl, hb2⟩
    clear c10 c11 c12 c20 c21 c22
    have X1 := HX1.out.below hb2
    have X2 := HX2.out.below hb2
    obtain ⟨c10, c11, c12⟩ := X1.cells
    obtain ⟨c20, c21, c22⟩ := X2.cells
    have hz2 := hb2.size
    have HB2 := Lib.hid (HB1.out.trans (hb2.mono (by omega)))
    clear hb2 X1 X2
    cases q1 : (keysLenB m && M.keysB m.keys) with
    | false =>
      have HF : Hid (M.mazeB m = false) := Lib.hid (by rw [HP.out, q1, Q0.out]; rfl)
      clear q1
      go_wp2_with fail
      go_ret
      exact ⟨by rw [HF.out]; rfl, HB2.out⟩
    | true =>
      have Q1 := Lib.hid q1
      clear q1
      go_wp2_with fail
      rw [rounds_succ]
      go_wp2_with fail
      refine (validDoors_any w2 lo hi m a b c d (H.out.below HB2.out hz) (by omega)).mono ?_
      rintro e w3 ⟨rfl, hb3⟩
      clear c10 c11 c12 c20 c21 c22
      have HB3 := Lib.hid (HB2.out.trans (hb3.mono (by omega)))
      clear hb3
      cases q2 : (fewB m && M.doorsB m.size m.doors) with
      | false =>
        have HF : Hid (M.mazeB m = false) := Lib.hid (by rw [HP.out, q2, Q0.out, Q1.out]; rfl)
        clear q2
        go_wp2_with fail
        go_ret
        exact ⟨by rw [HF.out]; rfl, HB3.out⟩
      | true =>
        have HF : Hid (M.mazeB m = true) := Lib.hid (by rw [HP.out, q2, Q0.out, Q1.out]; rfl)
        clear q2
        go_wp2_with fail
        rw [rounds_succ]
        go_wp2_with fail
        go_ret
        exact ⟨by rw [HF.out]; rfl, HB3.out⟩
end C
end Go.Proofs.Ytbcobheiofajeaa
namespace Go.Proofs.Ytbcobheiofajeaa
open Go.RowKit
namespace C
set_option maxHeartbeats 800000
set_option maxRecDepth 20000
theorem before_any (d e : M.Dr) (w : World) :
    Calls Try.prog 116 #[.agg #[.int .i64 d.1, .int .i64 d.2.1, .int .i64 d.2.2], .agg #[.int .i64 e.1, .int .i64 e.2.1, .int .i64 e.2.2]] w fun en w' => en = .returned (.bool (M.ltD d e)) ∧ ∃ q os, w' = Sort.grow (w.drewN q) os := by
  obtain ⟨x1, y1, z1⟩ := d
  obtain ⟨x2, y2, z2⟩ := e
  rcases Int.lt_trichotomy x1 x2 with h | rfl | h
  · have hc : Hid (M.ltD (x1, y1, z1) (x2, y2, z2) = true) := Lib.hid (by unfold M.ltD; simp [h])
    have hn1 : ((x1 : Int) == x2) = false := by simp; omega
    have hn2 : ((x1 : Int) != x2) = true := by simp; omega
    go_enter Try.func116, Try.ntmps116
    go_wp2_with fail
    refine wp_loop_rounds 4 ?_
    rw [rounds_succ]
    go_wp2_with fail
    go_quiet (fail)
    go_wp2_with fail
    go_quiet (fail)
    go_wp2_with fail
    go_ret
    exact ⟨by rw [hc.out]; first | rfl | exact congrArg (fun b => Ending.returned (.bool b)) (decide_eq_false (by omega)), _, _, by rw [Sort.alloc_eq_grow, Sort.alloc_eq_grow, Sort.grow_grow]; (try simp only [World.drewN_drewN]); rfl⟩
  · rcases Int.lt_trichotomy y1 y2 with h | rfl | h
    · have hc : Hid (M.ltD (x1, y1, z1) (x1, y2, z2) = true) := Lib.hid (by unfold M.ltD; simp [h])
      have hn1 : ((y1 : Int) == y2) = false := by simp; omega
      have hn2 : ((y1 : Int) != y2) = true := by simp; omega
      go_enter Try.func116, Try.ntmps116
      go_wp2_with fail
      refine wp_loop_rounds 4 ?_
      rw [rounds_succ]
      go_wp2_with fail
      go_quiet (fail)
      go_wp2_with fail
      rw [rounds_succ]
      go_wp2_with fail
      go_quiet (fail)
      go_wp2_with fail
      go_quiet (fail)
      go_wp2_with fail
      go_ret
      exact ⟨by rw [hc.out]; first | rfl | exact congrArg (fun b => Ending.returned (.bool b)) (decide_eq_false (by omega)), _, _, by rw [Sort.alloc_eq_grow, Sort.alloc_eq_grow, Sort.grow_grow]; (try simp only [World.drewN_drewN]); rfl⟩
    · rcases Int.lt_trichotomy z1 z2 with h | rfl | h
      · have hc : Hid (M.ltD (x1, y1, z1) (x1, y1, z2) = true) := Lib.hid (by unfold M.ltD; simp [h])
        have hn1 : ((z1 : Int) == z2) = false := by simp; omega
        have hn2 : ((z1 : Int) != z2) = true := by simp; omega
        go_enter Try.func116, Try.ntmps116
        go_wp2_with fail
        refine wp_loop_rounds 4 ?_
        rw [rounds_succ]
        go_wp2_with fail
        go_quiet (fail)
        go_wp2_with fail
        rw [rounds_succ]
        go_wp2_with fail
        go_quiet (fail)
        go_wp2_with fail
        rw [rounds_succ]
        go_wp2_with fail
        go_quiet (fail)
        go_wp2_with fail
        go_quiet (fail)
        go_wp2_with fail
        go_ret
        exact ⟨by rw [hc.out]; first | rfl | exact congrArg (fun b => Ending.returned (.bool b)) (decide_eq_false (by omega)), _, _, by rw [Sort.alloc_eq_grow, Sort.alloc_eq_grow, Sort.grow_grow]; (try simp only [World.drewN_drewN]); rfl⟩
      · have hc : Hid (M.ltD (x1, y1, z1) (x1, y1, z1) = false) := Lib.hid (M.ltD_irrefl _)
        go_enter Try.func116, Try.ntmps116
        go_wp2_with fail
        refine wp_loop_rounds 4 ?_
        rw [rounds_succ]
        go_wp2_with fail
        go_quiet (fail)
        go_wp2_with fail
        rw [rounds_succ]
        go_wp2_with fail
        go_quiet (fail)
        go_wp2_with fail
        rw [rounds_succ]
        go_wp2_with fail
        go_quiet (fail)
        go_wp2_with fail
        rw [rounds_succ]
        go_wp2_with fail
        go_ret
        exact ⟨by rw [hc.out]; first | rfl | exact congrArg (fun b => Ending.returned (.bool b)) (decide_eq_false (by omega)), _, _, by rw [Sort.alloc_eq_grow, Sort.alloc_eq_grow, Sort.grow_grow]; (try simp only [World.drewN_drewN]); rfl⟩
      · have hc : Hid (M.ltD (x1, y1, z1) (x1, y1, z2) = false) := Lib.hid (by unfold M.ltD; simp; omega)
        have hn1 : ((z1 : Int) == z2) = false := by simp; omega
        have hn2 : ((z1 : Int) != z2) = true := by simp; omega
        have hn3 : ¬ (z1 : Int) < z2 := by omega
        go_enter Try.func116, Try.ntmps116
        go_wp2_with fail
        refine wp_loop_rounds 4 ?_
        rw [rounds_succ]
        go_wp2_with fail
        go_quiet (fail)
        go_wp2_with fail
        rw [rounds_succ]
        go_wp2_with fail
        go_quiet (fail)
        go_wp2_with fail
        rw [rounds_succ]
        go_wp2_with fail
        go_quiet (fail)
        go_wp2_with fail
        go_quiet (fail)
        go_wp2_with fail
        go_ret
        exact ⟨by rw [hc.out]; first | rfl | exact congrArg (fun b => Ending.returned (.bool b)) (decide_eq_false (by omega)), _, _, by rw [Sort.alloc_eq_grow, Sort.alloc_eq_grow, Sort.grow_grow]; (try simp only [World.drewN_drewN]); rfl⟩
    · have hc : Hid (M.ltD (x1, y1, z1) (x1, y2, z2) = false) := Lib.hid (by unfold M.ltD; simp; omega)
      have hn1 : ((y1 : Int) == y2) = false := by simp; omega
      have hn2 : ((y1 : Int) != y2) = true := by simp; omega
      have hn3 : ¬ (y1 : Int) < y2 := by omega
      go_enter Try.func116, Try.ntmps116
      go_wp2_with fail
      refine wp_loop_rounds 4 ?_
      rw [rounds_succ]
      go_wp2_with fail
      go_quiet (fail)
      go_wp2_with fail
      rw [rounds_succ]
      go_wp2_with fail
      go_quiet (fail)
      go_wp2_with fail
      go_quiet (fail)
      go_wp2_with fail
      go_ret
      exact ⟨by rw [hc.out]; first | rfl | exact congrArg (fun b => Ending.returned (.bool b)) (decide_eq_false (by omega)), _, _, by rw [Sort.alloc_eq_grow, Sort.alloc_eq_grow, Sort.grow_grow]; (try simp only [World.drewN_drewN]); rfl⟩
  · have hc : Hid (M.ltD (x1, y1, z1) (x2, y2, z2) = false) := Lib.hid (by unfold M.ltD; simp; omega)
    have hn1 : ((x1 : Int) == x2) = false := by simp; omega
    have hn2 : ((x1 : Int) != x2) = true := by simp; omega
    have hn3 : ¬ (x1 : Int) < x2 := by omega
    go_enter Try.func116, Try.ntmps116
    go_wp2_with fail
    refine wp_loop_rounds 4 ?_
    rw [rounds_succ]
    go_wp2_with fail
    go_quiet (fail)
    go_wp2_with fail
    go_quiet (fail)
    go_wp2_with fail
    go_ret
    exact ⟨by rw [hc.out]; first | rfl | exact congrArg (fun b => Ending.returned (.bool b)) (decide_eq_false (by omega)), _, _, by rw [Sort.alloc_eq_grow, Sort.alloc_eq_grow, Sort.grow_grow]; (try simp only [World.drewN_drewN]); rfl⟩
end C
end Go.Proofs.Ytbcobheiofajeaa
namespace Go.Proofs.Ytbcobheiofajeaa
open Go.RowKit
namespace M
/-- a set has all colours of a need, as the program reckons it, and as the model does -/
def hasB (set need : Int) : Bool := bits .andNot .i64 need set == 0
def has2B (set need : Int) : Bool := bits .and .i64 set need == need
theorem has_fin : ∀ s t : Fin 64, hasB (s.val : Int) (t.val : Int) = has2B (s.val : Int) (t.val : Int) := by decide +kernel
theorem has_same {s t : Int} (h0 : 0 ≤ s) (h1 : s < 64) (h2 : 0 ≤ t) (h3 : t < 64) : hasB s t = has2B s t := by
  have := has_fin ⟨s.toNat, by omega⟩ ⟨t.toNat, by omega⟩
  simp only at this
  rwa [Int.toNat_of_nonneg h0, Int.toNat_of_nonneg h2] at this
theorem or_fin : ∀ s t : Fin 64, 0 ≤ bits .or .i64 (s.val : Int) (t.val : Int) ∧ bits .or .i64 (s.val : Int) (t.val : Int) < 64 := by decide +kernel
theorem or_set {s t : Int} (h0 : 0 ≤ s) (h1 : s < 64) (h2 : 0 ≤ t) (h3 : t < 64) : 0 ≤ bits .or .i64 s t ∧ bits .or .i64 s t < 64 := by
  have := or_fin ⟨s.toNat, by omega⟩ ⟨t.toNat, by omega⟩
  simp only at this
  rwa [Int.toNat_of_nonneg h0, Int.toNat_of_nonneg h2] at this
def joinsB (d : Dr) (x y : Int) : Bool := (d.1 == x && d.2.1 == y) || (d.1 == y && d.2.1 == x)
def betwB (d : Dr) (p q : Int) : Bool := decide (d.1 = p ∧ d.2.1 = q)
theorem joins_betw {d : Dr} (x y : Int) (h : d.1 < d.2.1) : joinsB d x y = betwB d (min x y) (max x y) := by
  unfold joinsB betwB
  rw [Bool.eq_iff_iff]
  simp only [Bool.or_eq_true, Bool.and_eq_true, beq_iff_eq, decide_eq_true_eq]
  omega
/-- the needs of the doors between two nodes -/
def needs (l : List Dr) (p q : Int) : List Int := (l.filter fun d => betwB d p q).map fun d => d.2.2
theorem needs_yes {l : List Dr} {p q : Int} {k : Nat} (hk : k < l.length) (h : betwB l[k] p q = true) : needs (l.take (k + 1)) p q = needs (l.take k) p q ++ [l[k].2.2] := by
  unfold needs
  rw [List.take_succ_eq_append_getElem hk, List.filter_append, List.filter_cons_of_pos (p := fun d => betwB d p q) h]
  simp
theorem needs_no {l : List Dr} {p q : Int} {k : Nat} (hk : k < l.length) (h : betwB l[k] p q = false) : needs (l.take (k + 1)) p q = needs (l.take k) p q := by
  unfold needs
  rw [List.take_succ_eq_append_getElem hk, List.filter_append, List.filter_cons_of_neg (p := fun d => betwB d p q) (by show ¬ betwB l[k] p q = true; rw [h]; decide)]
  simp
theorem needs_len (l : List Dr) (p q : Int) : (needs l p q).length ≤ l.length := by
  unfold needs; rw [List.length_map]; exact List.length_filter_le _ _
def openB (l : List Dr) (x y set : Int) : Bool := l.any fun d => joinsB d x y && has2B set d.2.2
theorem open_same {m : Mz} (V : Valid m) {x y set : Int} (h0 : 0 ≤ set) (h1 : set < 64) : (needs m.doors (min x y) (max x y)).any (fun n => hasB set n) = openB m.doors x y set := by
  unfold needs openB
  rw [List.any_map, List.any_filter]
  rw [Bool.eq_iff_iff, List.any_eq_true, List.any_eq_true]
  have e : ∀ d ∈ m.doors, (betwB d (min x y) (max x y) && hasB set d.2.2) = (joinsB d x y && has2B set d.2.2) := by
    intro d hd
    obtain ⟨k, hk, rfl⟩ := List.mem_iff_getElem.1 hd
    obtain ⟨_, _, _, _, a, b, c⟩ := V.door k hk
    rw [joins_betw x y a, has_same h0 h1 b c]
  constructor
  · rintro ⟨d, hd, h⟩
    exact ⟨d, hd, by rw [← e d hd]; exact h⟩
  · rintro ⟨d, hd, h⟩
    exact ⟨d, hd, by rw [← e d hd] at h; exact h⟩
end M
end Go.Proofs.Ytbcobheiofajeaa
namespace Go.Proofs.Ytbcobheiofajeaa
open Go.RowKit
namespace C
theorem grown_of_below {w w' : World} (h : Below w.heap.size w w') (row : Option Nat) : w.grownBy w' row := ⟨h.os, h.tape, h.output, h.size, fun k hk _ => h.block k hk⟩
theorem own_below {w w' : World} {B : Nat} {e : TypeId} {size : Nat} {v : Value} {n : Nat} {xs : List Value} (h : w.ownsRow B e size v n xs) (hb : Below w.heap.size w w') : w'.ownsRow B e size v n xs := by
  rcases hv : v.ownBlock with _ | g
  · exact h.kept (grown_of_below hb none) (.inl hv)
  · exact h.kept (grown_of_below hb none) (.inr (by rw [hv]; simp))
/-- a row whose elements are of another type lies in another block than a box -/
theorem own_ne_box {w : World} {B g : Nat} {e T : TypeId} {size : Nat} {v x y z : Value} {n : Nat} {xs : List Value} (h : w.ownsRow B e size v n xs) (hb : Box3 w g T x y z) (hne : e ≠ T) : v.ownBlock ≠ some g := by
  rcases h.2 with ⟨rfl, _⟩ | ⟨g', cap, cur, rfl, _, hh, _⟩
  · simp [Value.ownBlock]
  · intro he
    have : g' = g := by simpa [Value.ownBlock] using he
    subst this
    unfold Box3 at hb
    rw [hh] at hb
    injection hb with hb
    injection hb with _ ht
    exact hne ht
theorem Box3.grown {w w' : World} {g : Nat} {T : TypeId} {x y z : Value} {row : Option Nat} (h : Box3 w g T x y z) (hg : w.grownBy w' row) (hne : row ≠ some g) : Box3 w' g T x y z := (hg.block g h.lt (fun e => hne e.symm)).trans h
end C
end Go.Proofs.Ytbcobheiofajeaa
namespace Go.Proofs.Ytbcobheiofajeaa
open Go.RowKit
namespace M
theorem wraps_i64 (n : Int) (h0 : 0 ≤ n) (h1 : n < 2 ^ 62) : IntKind.i64.wrap n = n := by rw [IntKind.wrap_i64]; omega
theorem and1 (n : Nat) (h : n < 4096) : bits .and .i64 (n : Int) 1 = ((n % 2 : Nat) : Int) := by
  have := (bits_nat .i64 62 (by decide) wraps_i64 n 1 (by omega) (by decide)).1
  rw [Nat.and_one_is_mod] at this
  exact this
theorem shr_nat (n p : Nat) : (n : Int) / 2 ^ p = ((n / 2 ^ p : Nat) : Int) := by simp
theorem bit_test {n p : Nat} (h : n < 4096) : (bits .and .i64 ((n : Int) / 2 ^ p) 1 == 1) = digB n p := by
  rw [shr_nat, and1 _ (Nat.lt_of_le_of_lt (Nat.div_le_self _ _) h)]
  unfold digB
  rw [Bool.eq_iff_iff]
  simp only [beq_iff_eq, decide_eq_true_eq]
  exact ⟨fun h => by exact_mod_cast h, fun h => by exact_mod_cast h⟩
def colours (s : Int) : List Int := if setB s then digsTo s.toNat 6 else []
end M
namespace C
set_option maxHeartbeats 800000
set_option maxRecDepth 20000
theorem digits_any (n : Nat) (hn : n < 4096) (w : World) : Calls Try.prog 109 #[.int .i64 (n : Int)] w (IntsPost w (M.digsTo n 12)) := by
  obtain ⟨i0, hi0, hz0, hz1, hz2⟩ := info_parts infoI
  have h12 : Hid (n / 2 ^ 12 = 0) := Lib.hid (Nat.div_eq_of_lt hn)
  go_enter Try.func109, Try.ntmps109
  go_wp2_with fail
  go_loopw [3, 4] (fun v i wr => ∃ (k : Nat), k ≤ 12 ∧ i = .int .i64 k ∧ wr.ownsRow w.heap.size 3 1 v (M.digsTo n k).length (M.encIs (M.digsTo n k)) ∧ Below w.heap.size w wr) (fun _ i _ => 12 - (intOf i).toNat)
  case atStart => exact ⟨0, Nat.zero_le _, rfl, ownsRow_empty _ _ _ _ (Nat.le_refl _), below_alloc _ _⟩
  case round =>
    obtain ⟨k, hk, rfl, hown, hnx⟩ := hrel
    have HN := Lib.hid hnx
    have HO := Lib.hid hown
    have hzr := hnx.size
    have hlen := M.digsTo_len n k
    clear hnx
    have hsh := M.shr_nat n k
    by_cases hp : 0 < n / 2 ^ k
    · have hk12 : k < 12 := by
        rcases Nat.lt_or_ge k 12 with h | h
        · exact h
        · have : k = 12 := by omega
          subst this
          rw [h12.out] at hp
          omega
      have hpt : 0 < (n : Int) / 2 ^ k := by rw [hsh]; exact_mod_cast hp
      have hbt := M.bit_test (p := k) hn
      clear hsh hp
      cases hd : M.digB n k with
      | true =>
        rw [hd] at hbt
        have HD := Lib.hid (M.digsTo_yes hd)
        clear hd
        go_wp2_with (at_builtin; refine wpList_append_own _ rfl _ _ 39 rfl w.heap.size 3 i0 (.int .i64 0) 1 8 Try.underlying39 hi0 hz0 hz1 hz2 rfl (by decide) _ _ _ rfl (hown.alloc _) ⟨wr.heap.size, 0, none⟩ 1 1 [.int .i64 (k : Int)] rfl rfl (cell_one_new _ _ _) (fun x hx => by simp at hx; subst hx; rfl) (by unfold maxLen; omega) (by omega) (by simp; omega) ?_; intro v' w3 hown' hgrow3 hnil3)
        go_roundw
        case rel =>
          refine ⟨k + 1, by omega, by go_num, ?_, (HN.out.alloc hzr _).grown hgrow3 (by simp; omega) (own_base hown)⟩
          rw [HD.out]
          simpa [M.encIs] using hown'
        case measure => simp [intOf]; omega
      | false =>
        rw [hd] at hbt
        have HD := Lib.hid (M.digsTo_no hd)
        clear hd hown
        go_wp2_with fail
        go_roundw
        case rel => exact ⟨k + 1, by omega, by go_num, by rw [HD.out]; exact HO.out, HN.out⟩
        case measure => simp [intOf]; omega
    · have hz : n / 2 ^ k = 0 := Nat.eq_zero_of_not_pos hp
      have hpt : ¬ 0 < (n : Int) / 2 ^ k := by rw [hsh, hz]; simp
      have HE : Hid (M.digsTo n 12 = M.digsTo n k) := Lib.hid (M.digsTo_eq hz hk)
      clear hsh hz hp hown
      go_wp2_with fail
      go_ret
      exact ints_end (by rw [HE.out]; exact HO.out) HN.out
end C
end Go.Proofs.Ytbcobheiofajeaa
namespace Go.Proofs.Ytbcobheiofajeaa
open Go.RowKit
namespace C
set_option maxHeartbeats 800000
set_option maxRecDepth 20000
theorem run_app_nil {P : Program} (w : World) (base : Nat) (t ty e : TypeId) (i : TypeInfo) (size : Nat) (ht : P.underlying t = some (.slice e)) (hi : P.info? e = some i) (v : Value) (n : Nat) (xs : List Value) (hown : w.ownsRow base e size v n xs) (c : Nat) :
    (Builtin.append_ #[t, t] ty #[v, .slice none 0 c]).run P w = .ok v w := by
  rcases hown.2 with ⟨hv, hn⟩ | ⟨g, cap, cur, hv, _, _, hnc, _⟩
  · subst hv; subst hn
    simp [Builtin.append_, run_underlying ht, sizeOf, typeInfo, hi, Builtin.lenOf, Builtin.firstCells]
  · subst hv
    simp [Builtin.append_, run_underlying ht, sizeOf, typeInfo, hi, Builtin.lenOf, Builtin.firstCells, hnc, storeCells]
/-- a slice that reads so, appended to an empty one of the call's own: the source at an address, or none -/
theorem l1Own_any (w : World) (lo hi : Nat) (a : Option Addr) (c : Nat) (l : List Int) (h : RowIn lo hi w a (M.encIs l)) (hz : hi ≤ w.heap.size) (hl : l.length ≤ 1048576) :
    Calls Try.prog 102 #[.slice a l.length c] w (IntsPost w l) := by
  obtain ⟨i0, hi0, hz0, hz1, hz2⟩ := info_parts infoI
  have H := Lib.hid h
  clear h
  have ho := ownsRow_empty w w.heap.size 3 1 (Nat.le_refl _)
  have HO := Lib.hid ho
  clear ho
  rcases a with _ | ad
  · obtain rfl : l = [] := by
      rcases H.out with h | ⟨b, off, e, _⟩
      · exact List.eq_nil_of_length_eq_zero (by rw [← M.encIs_len, h]; rfl)
      · cases e
    have hrun := run_app_nil (P := Try.prog) (w.alloc (.cells #[] 3)) w.heap.size 39 39 3 i0 1 Try.underlying39 hi0 (.slice (some ⟨w.heap.size, 0, none⟩) 0 0) 0 [] HO.out c
    go_enter Try.func102, Try.ntmps102
    go_wp2_with fail
    go_ret
    exact ints_end (l := []) HO.out (below_alloc _ _)
  · have hcells : ∀ j u, (M.encIs l)[j]? = some u → (w.alloc (.cells #[] 3)).cell? (ad.add j) = some u := by
      intro j u hu
      rcases H.out with h | ⟨b, off, e, _, hb, hc⟩
      · rw [h] at hu; simp at hu
      · injection e with e
        subst e
        have hadd : (⟨b, off, none⟩ : Addr).add j = ⟨b, off + j, none⟩ := by
          unfold Addr.add
          split
          · rename_i h; subst h; rfl
          · rfl
        rw [hadd]
        exact (World.cell?_alloc_lt w _ _ (show b < _ by omega)).trans (hc j u hu)
    have HC := Lib.hid hcells
    clear hcells
    go_enter Try.func102, Try.ntmps102
    go_wp2_with (at_builtin; refine wpList_append_own _ rfl _ _ 39 rfl w.heap.size 3 i0 (.int .i64 0) 1 8 Try.underlying39 hi0 hz0 hz1 hz2 rfl (by decide) _ _ _ rfl HO.out ad l.length c (M.encIs l) rfl (by rw [M.encIs_len, Nat.mul_one]) HC.out (fun x hx => by unfold M.encIs at hx; obtain ⟨z, _, rfl⟩ := List.mem_map.1 hx; rfl) (by unfold maxLen; omega) (by omega) (by simp) ?_; intro v' w3 hown' hgrow3 hnil3)
    go_ret
    refine ints_end (by simpa using hown') ((below_alloc _ _).grown hgrow3 (by simp) (own_base HO.out))
end C
end Go.Proofs.Ytbcobheiofajeaa
namespace Go.Proofs.Ytbcobheiofajeaa
open Go.RowKit
namespace C
set_option maxHeartbeats 800000
set_option maxRecDepth 20000
/-- doors handed back in memory of the call's own -/
def DoorsRowPost (w : World) (l : List M.Dr) (e : Ending) (w' : World) : Prop :=
  ∃ a c, e = .returned (.slice a l.length c) ∧ OwnAt w.heap.size w'.heap.size w' 103 a (M.encDs l) ∧ l.length ≤ c ∧ c ≤ 9223372036854775807 ∧ Below w.heap.size w w'
theorem doorsRow_end {w w' : World} {l : List M.Dr} {v : Value} (h : w'.ownsRow w.heap.size 103 3 v l.length (M.encDs l)) (hb : Below w.heap.size w w') : DoorsRowPost w l (.returned v) w' := by
  obtain ⟨a, c, rfl, h1, h2, h3⟩ := own_slice h
  exact ⟨a, c, rfl, h3, h1, h2, hb⟩
theorem encDs_one (l : List M.Dr) : ∀ x ∈ M.encDs l, x.oneCell' = true := by
  intro x hx
  unfold M.encDs at hx
  obtain ⟨d, _, hd⟩ := List.mem_flatMap.1 hx
  simp [M.encD] at hd
  rcases hd with rfl | rfl | rfl <;> rfl
theorem cloneInts_any (w : World) (lo hi : Nat) (a : Option Addr) (c : Nat) (l : List Int) (h : RowIn lo hi w a (M.encIs l)) (hz : hi ≤ w.heap.size) (hl : l.length ≤ 1048576) :
    Calls Try.prog 119 #[.slice a l.length c] w (IntsPost w l) := by
  obtain ⟨i0, hi0, hz0, hz1, hz2⟩ := info_parts infoI
  have H := Lib.hid h
  clear h
  have ho := ownsRow_empty w w.heap.size 3 1 (Nat.le_refl _)
  have HO := Lib.hid ho
  clear ho
  rcases a with _ | ad
  · obtain rfl : l = [] := by
      rcases H.out with h | ⟨b, off, e, _⟩
      · exact List.eq_nil_of_length_eq_zero (by rw [← M.encIs_len, h]; rfl)
      · cases e
    have hq := fun W => Lib.run_eql_slice_nil (P := Try.prog) W 39 3 none 0 c 0 0 Try.underlying39
    go_enter Try.func119, Try.ntmps119
    go_wp2_with fail
    go_ret
    exact ints_end (l := []) (World.ownsRow_nil _ _ _ _) (Below.refl _ _)
  · have hcells : ∀ j u, (M.encIs l)[j]? = some u → (w.alloc (.cells #[] 3)).cell? (ad.add j) = some u := by
      intro j u hu
      rcases H.out with h | ⟨b, off, e, _, hb, hc⟩
      · rw [h] at hu; simp at hu
      · injection e with e
        subst e
        have hadd : (⟨b, off, none⟩ : Addr).add j = ⟨b, off + j, none⟩ := by
          unfold Addr.add
          split
          · rename_i h; subst h; rfl
          · rfl
        rw [hadd]
        exact (World.cell?_alloc_lt w _ _ (show b < _ by omega)).trans (hc j u hu)
    have HC := Lib.hid hcells
    clear hcells
    have hq := fun W => Lib.run_eql_slice_nil (P := Try.prog) W 39 3 (some ad) l.length c 0 0 Try.underlying39
    go_enter Try.func119, Try.ntmps119
    go_wp2_with (at_builtin; refine wpList_append_own _ rfl _ _ 39 rfl w.heap.size 3 i0 (.int .i64 0) 1 8 Try.underlying39 hi0 hz0 hz1 hz2 rfl (by decide) _ _ _ rfl HO.out ad l.length c (M.encIs l) rfl (by rw [M.encIs_len, Nat.mul_one]) HC.out (fun x hx => by unfold M.encIs at hx; obtain ⟨z, _, rfl⟩ := List.mem_map.1 hx; rfl) (by unfold maxLen; omega) (by omega) (by simp) ?_; intro v' w3 hown' hgrow3 hnil3)
    go_ret
    refine ints_end (by simpa using hown') ((below_alloc _ _).grown hgrow3 (by simp) (own_base HO.out))
theorem cloneDoors_any (w : World) (lo hi : Nat) (a : Option Addr) (c : Nat) (l : List M.Dr) (h : RowIn lo hi w a (M.encDs l)) (hz : hi ≤ w.heap.size) (hl : l.length ≤ 1048576) :
    Calls Try.prog 118 #[.slice a l.length c] w (DoorsRowPost w l) := by
  obtain ⟨i0, hi0, hz0, hz1, hz2⟩ := info_parts infoD
  have H := Lib.hid h
  clear h
  have ho := ownsRow_empty w w.heap.size 103 3 (Nat.le_refl _)
  have HO := Lib.hid ho
  clear ho
  rcases a with _ | ad
  · obtain rfl : l = [] := by
      rcases H.out with h | ⟨b, off, e, _⟩
      · exact List.eq_nil_of_length_eq_zero (by have := M.encDs_len l; rw [h] at this; simp at this; omega)
      · cases e
    have hq := fun W => Lib.run_eql_slice_nil (P := Try.prog) W 49 103 none 0 c 0 0 Try.underlying49
    go_enter Try.func118, Try.ntmps118
    go_wp2_with fail
    go_ret
    exact doorsRow_end (l := []) (World.ownsRow_nil _ _ _ _) (Below.refl _ _)
  · have hcells : ∀ j u, (M.encDs l)[j]? = some u → (w.alloc (.cells #[] 103)).cell? (ad.add j) = some u := by
      intro j u hu
      rcases H.out with h | ⟨b, off, e, _, hb, hc⟩
      · rw [h] at hu; simp at hu
      · injection e with e
        subst e
        have hadd : (⟨b, off, none⟩ : Addr).add j = ⟨b, off + j, none⟩ := by
          unfold Addr.add
          split
          · rename_i h; subst h; rfl
          · rfl
        rw [hadd]
        exact (World.cell?_alloc_lt w _ _ (show b < _ by omega)).trans (hc j u hu)
    have HC := Lib.hid hcells
    clear hcells
    have hq := fun W => Lib.run_eql_slice_nil (P := Try.prog) W 49 103 (some ad) l.length c 0 0 Try.underlying49
    go_enter Try.func118, Try.ntmps118
    go_wp2_with (at_builtin; refine wpList_append_own _ rfl _ _ 49 rfl w.heap.size 103 i0 (.agg #[.int .i64 0, .int .i64 0, .int .i64 0]) 3 24 Try.underlying49 hi0 hz0 hz1 hz2 rfl (by decide) _ _ _ rfl HO.out ad l.length c (M.encDs l) rfl (M.encDs_len l) HC.out (encDs_one l) (by unfold maxLen; omega) (by omega) (by simp) ?_; intro v' w3 hown' hgrow3 hnil3)
    go_ret
    refine doorsRow_end (by simpa using hown') ((below_alloc _ _).grown hgrow3 (by simp) (own_base HO.out))
end C
end Go.Proofs.Ytbcobheiofajeaa
namespace Go.Proofs.Ytbcobheiofajeaa
open Go.RowKit
namespace C
set_option maxHeartbeats 1600000
set_option maxRecDepth 20000
/-- the result's box written field by field: the maze in memory of the call's own -/
theorem mz_end {w w3 : World} {m : M.Mz} {da ia : Option Addr} {dc ic : Nat} {u0 u1 u2 : Value} (hB : Below w.heap.size w w3)
    (p1 : OwnAt (w.heap.size + 1 + 1) w3.heap.size w3 103 da (M.encDs m.doors)) (p2 : OwnAt (w.heap.size + 1 + 1) w3.heap.size w3 3 ia (M.encIs m.keys))
    (q1 : m.doors.length ≤ dc) (q2 : dc ≤ 9223372036854775807) (q3 : m.keys.length ≤ ic) (q4 : ic ≤ 9223372036854775807) (hz : w.heap.size + 1 < w3.heap.size) :
    MzPost w m (.returned (.agg #[.int .i64 m.size, .slice da m.doors.length dc, .slice ia m.keys.length ic])) (((w3.setCell ⟨w.heap.size + 1, 0, none⟩ u0).setCell ⟨w.heap.size + 1, 1, none⟩ u1).setCell ⟨w.heap.size + 1, 2, none⟩ u2) := by
  have hT : Turned (w.heap.size + 1) (w.heap.size + 1 + 1) w3 (((w3.setCell ⟨w.heap.size + 1, 0, none⟩ u0).setCell ⟨w.heap.size + 1, 1, none⟩ u1).setCell ⟨w.heap.size + 1, 2, none⟩ u2) :=
    ((Turned.setCell _ _ _ _ (by omega) (by omega)).trans (Turned.setCell _ _ _ _ (by omega) (by omega))).trans (Turned.setCell _ _ _ _ (by omega) (by omega))
  have hs := hT.size
  exact ⟨_, _, _, _, rfl, ⟨(p1.turned hT (Nat.le_refl _) (by omega)).mono (by omega) hs, (p2.turned hT (Nat.le_refl _) (by omega)).mono (by omega) hs, q1, q2, q3, q4⟩, Below.thenTurned hB hT (by omega) (by omega)⟩
theorem clone_any (w : World) (lo hi : Nat) (m : M.Mz) (a b : Option Addr) (c d : Nat) (h : MzIn lo hi w m a c b d) (hz : hi ≤ w.heap.size) (h1 : m.doors.length ≤ 1048576) (h2 : m.keys.length ≤ 1048576) :
    Calls Try.prog 87 #[.agg #[.int .i64 m.size, .slice a m.doors.length c, .slice b m.keys.length d]] w (MzPost w m) := by
  have H := Lib.hid h
  clear h
  go_enter Try.func87, Try.ntmps87
  go_wp2_with fail
  refine wp_named ?_
  intro W hW
  have hb : Below w.heap.size w W := by rw [hW]; exact ((Below.refl _ _).alloc (Nat.le_refl _) _).alloc (by simp) _
  have x1 : Box3 W w.heap.size 55 (.int .i64 m.size) (.slice a m.doors.length c) (.slice b m.keys.length d) := by rw [hW]; exact (Box3.new _ _ _ _ rfl).alloc _
  have x2 : Box3 W (w.heap.size + 1) 55 (.int .i64 0) (.slice none 0 0) (.slice none 0 0) := by rw [hW]; exact Box3.new _ _ _ _ (by simp)
  clear hW
  have hzw := hb.size
  have hz1 := x2.lt
  have X1 := Lib.hid x1
  have X2 := Lib.hid x2
  have HB := Lib.hid hb
  obtain ⟨c0, c1, c2⟩ := x1.cells
  obtain ⟨f0, f1, f2⟩ := x2.free
  have CD := Lib.hid (fun W' (hq : Below W.heap.size W W') => cloneDoors_any W' lo hi a c m.doors (H.out.doors.below (hb.trans (hq.mono hzw)) hz) (Nat.le_trans hz (Nat.le_trans hzw hq.size)) h1)
  have CI := Lib.hid (fun W' (hq : Below W.heap.size W W') => cloneInts_any W' lo hi b d m.keys (H.out.keys.below (hb.trans (hq.mono hzw)) hz) (Nat.le_trans hz (Nat.le_trans hzw hq.size)) h2)
  clear x1 x2 hb
  go_region_held3 (fun wq => wq.cell? ⟨w.heap.size, 0, none⟩ = some (.int .i64 m.size) ∧ wq.cell? ⟨w.heap.size, 1, none⟩ = some (.slice a m.doors.length c) ∧ wq.cell? ⟨w.heap.size, 2, none⟩ = some (.slice b m.keys.length d)) (first | exact ⟨d0, d1, d2⟩ | go_keep) (first
    | (go_at_call 118
       first
       | (refine (CD.out _ hbq).mono ?_; rintro e w3 ⟨da, dc, rfl, od, qd1, qd2, hb3⟩; have hbr := hbq.trans (hb3.mono hbq.size); obtain ⟨d0, d1, d2⟩ := (X1.out.below hbr).cells; obtain ⟨g0, g1, g2⟩ := (X2.out.below hbr).free; obtain ⟨k0, k1, k2⟩ := (X2.out.below hbr).cells)
       | (refine (CD.out _ (Below.refl W.heap.size W).drew).mono ?_; rintro e w2 ⟨da, dc, rfl, od, qd1, qd2, hb2⟩; have hbq : Below W.heap.size W w2 := (Below.refl W.heap.size W).drew.trans hb2; obtain ⟨d0, d1, d2⟩ := (X1.out.below hbq).cells; obtain ⟨g0, g1, g2⟩ := (X2.out.below hbq).free; obtain ⟨k0, k1, k2⟩ := (X2.out.below hbq).cells))
    | (go_at_call 119
       first
       | (refine (CI.out _ hbq).mono ?_; rintro e w3 ⟨ia, ic, rfl, oi, qi1, qi2, hb3⟩; have hbr := hbq.trans (hb3.mono hbq.size); obtain ⟨d0, d1, d2⟩ := (X1.out.below hbr).cells; obtain ⟨g0, g1, g2⟩ := (X2.out.below hbr).free; obtain ⟨k0, k1, k2⟩ := (X2.out.below hbr).cells)
       | (refine (CI.out _ (Below.refl W.heap.size W).drew).mono ?_; rintro e w2 ⟨ia, ic, rfl, oi, qi1, qi2, hb2⟩; have hbq : Below W.heap.size W w2 := (Below.refl W.heap.size W).drew.trans hb2; obtain ⟨d0, d1, d2⟩ := (X1.out.below hbq).cells; obtain ⟨g0, g1, g2⟩ := (X2.out.below hbq).free; obtain ⟨k0, k1, k2⟩ := (X2.out.below hbq).cells)))
  all_goals
    have hdz : W.drew.heap.size = W.heap.size := rfl
    have hzq := hbq.size
    have hz3 := hb3.size
    have p1 : Hid (OwnAt (w.heap.size + 1 + 1) w3.heap.size w3 103 da (M.encDs m.doors)) := by
      first
      | exact Lib.hid ((od.below hb3 (Nat.le_refl _)).mono (by omega) (by omega))
      | exact Lib.hid (od.mono (by omega) (by omega))
    have p2 : Hid (OwnAt (w.heap.size + 1 + 1) w3.heap.size w3 3 ia (M.encIs m.keys)) := by
      first
      | exact Lib.hid ((oi.below hb3 (Nat.le_refl _)).mono (by omega) (by omega))
      | exact Lib.hid (oi.mono (by omega) (by omega))
    have hBW := Lib.hid (HB.out.trans (hbr.mono hzw))
    clear od oi hbq hb3 hbr
    go_wp2_with fail
    refine bodyPost_ret (v := .agg #[.int .i64 m.size, .slice da m.doors.length dc, .slice ia m.keys.length ic]) (by simp [results, Try.results87, go_sem, k0, k1, k2]) rfl ?_
    exact mz_end hBW.out p1.out p2.out qd1 qd2 qi1 qi2 (by omega)
end C
end Go.Proofs.Ytbcobheiofajeaa
namespace Go.Proofs.Ytbcobheiofajeaa
open Go.RowKit
namespace C
set_option maxHeartbeats 32000000
set_option maxRecDepth 20000
theorem turned_of_grown {w w' : World} {row : Option Nat} {g : Nat} (hg : w.grownBy w' row) (hr : row = some g) : Turned g (g + 1) w w' :=
  ⟨hg.os, hg.tape, hg.output, hg.size, fun k hk ho => hg.block k hk (fun e => by rw [hr] at e; injection e; omega)⟩
theorem run_app_nil0 {P : Program} (t ty e : TypeId) (i : TypeInfo) (ht : P.underlying t = some (.slice e)) (hi : P.info? e = some i) (w : World) (g c : Nat) :
    (Builtin.append_ #[t, t] ty #[.slice (some ⟨g, 0, none⟩) 0 0, .slice none 0 c]).run P w = .ok (.slice (some ⟨g, 0, none⟩) 0 0) w := by
  simp [Builtin.append_, run_underlying ht, sizeOf, typeInfo, hi, Builtin.lenOf, Builtin.firstCells, storeCells]
/-- a row of doors held by the call so far -/
def ownsNow (w : World) (B : Nat) (v : Value) (m : M.Mz) : Prop := w.ownsRow B 103 3 v m.doors.length (M.encDs m.doors)
end C
end Go.Proofs.Ytbcobheiofajeaa
