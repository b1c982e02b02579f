/-
  MATHEMATICS of orders, own to these proofs: which nodes can be entered behind some nodes, told by a number's digits; the program's reckoning and the model's list tell the same; entry orders; the largest entry set. No condition.
-/
import Derived.Test.YtoiapfdlbkncaaaGainMath
import Derived.Test.YtoiapfdlbkncaaaReachI
namespace Go.Proofs.Ytoiapfdlbkncaaa
open Go.RowKit
namespace M
theorem digB_ext {a b : Nat} (h : ∀ p, digB a p = digB b p) : a = b := Nat.eq_of_testBit_eq fun p => by rw [← digB_testBit, ← digB_testBit, h]
theorem digB_big {n p : Nat} (h : n < 4096) (hp : 12 ≤ p) : digB n p = false := digB_lt (k := 12) (Nat.div_eq_of_lt h) hp
theorem or_lt {a b : Nat} (ha : a < 4096) (hb : b < 4096) : a ||| b < 4096 := by
  have h12 : (2 : Nat) ^ 12 = 4096 := rfl
  rw [← h12] at *
  exact Nat.or_lt_two_pow ha hb
/-- the digits of the one that the other has not -/
def lessN (a b : Nat) : Nat := (BitVec.ofNat 64 a &&& ~~~BitVec.ofNat 64 b).toNat
theorem digB_less {a b : Nat} (ha : a < 4096) (_hb : b < 4096) (p : Nat) : digB (lessN a b) p = (digB a p && !digB b p) := by
  rw [digB_testBit, digB_testBit, digB_testBit]
  unfold lessN
  rw [BitVec.testBit_toNat, BitVec.getLsbD_and, BitVec.getLsbD_not, BitVec.getLsbD_ofNat, BitVec.getLsbD_ofNat]
  rcases Nat.lt_or_ge p 64 with h | h
  · simp [h]
  · have := digB_big ha (show 12 ≤ p by omega)
    rw [digB_testBit] at this
    simp [this]
theorem lessN_lt {a b : Nat} (ha : a < 4096) (hb : b < 4096) : lessN a b < 4096 := by
  refine Nat.lt_of_not_le fun hge => ?_
  have h12 : (2 : Nat) ^ 12 = 4096 := rfl
  rw [← h12] at hge
  obtain ⟨p, hp, ht⟩ := Nat.exists_ge_and_testBit_of_ge_two_pow hge
  rw [← digB_testBit, digB_less ha hb, digB_big ha hp] at ht
  cases ht
theorem less4 {a b : Nat} (ha : a < 4096) (hb : b < 4096) : bits .andNot .i64 (a : Int) (b : Int) = ((lessN a b : Nat) : Int) := by
  have hl := lessN_lt ha hb
  show IntKind.i64.wrap ((BitVec.ofInt 64 (a : Int) &&& ~~~BitVec.ofInt 64 (b : Int)).toNat : Int) = _
  rw [BitVec.ofInt_natCast, BitVec.ofInt_natCast]
  exact wraps_i64 _ (by omega) (by unfold lessN at hl; omega)
-- the next ones
def keysN (m : Mz) (n : Nat) : Int := gath m (digsTo n 12) 0
theorem keysN_set {m : Mz} (V : Valid m) (n : Nat) : 0 ≤ keysN m n ∧ keysN m n < 64 := (gath_set V _ 0 ⟨by decide, by decide⟩).1
/-- one door looked at from n -/
def farN (op : Dr → Bool) (n acc : Nat) (d : Dr) : Nat := if op d = true ∧ n &&& endsN d ≠ 0 then acc ||| endsN d else acc
def stepF (op : Dr → Bool) (n : Nat) (ds : List Dr) : Nat := ds.foldl (farN op n) n
theorem stepF_snoc (op : Dr → Bool) (n : Nat) (ds : List Dr) (d : Dr) : stepF op n (ds ++ [d]) = farN op n (stepF op n ds) d := by unfold stepF; rw [List.foldl_append]; rfl
theorem far_digB (op : Dr → Bool) (n : Nat) (p : Nat) : ∀ (ds : List Dr) (acc : Nat), digB (ds.foldl (farN op n) acc) p = true ↔ digB acc p = true ∨ ∃ d ∈ ds, op d = true ∧ n &&& endsN d ≠ 0 ∧ digB (endsN d) p = true
  | [], acc => by simp
  | d :: ds, acc => by
    rw [List.foldl_cons, far_digB op n p ds]
    unfold farN
    split
    · rename_i hc
      rw [digB_or, Bool.or_eq_true]
      constructor
      · rintro ((h | h) | ⟨e, he, h⟩)
        · exact .inl h
        · exact .inr ⟨d, List.mem_cons_self .., hc.1, hc.2, h⟩
        · exact .inr ⟨e, List.mem_cons_of_mem _ he, h⟩
      · rintro (h | ⟨e, he, h1, h2, h3⟩)
        · exact .inl (.inl h)
        · rcases List.mem_cons.1 he with rfl | he
          · exact .inl (.inr h3)
          · exact .inr ⟨e, he, h1, h2, h3⟩
    · rename_i hc
      constructor
      · rintro (h | ⟨e, he, h⟩)
        · exact .inl h
        · exact .inr ⟨e, List.mem_cons_of_mem _ he, h⟩
      · rintro (h | ⟨e, he, h1, h2, h3⟩)
        · exact .inl h
        · rcases List.mem_cons.1 he with rfl | he
          · exact absurd ⟨h1, h2⟩ hc
          · exact .inr ⟨e, he, h1, h2, h3⟩
theorem far_lt {op : Dr → Bool} {n acc : Nat} {d : Dr} (ha : acc < 4096) (h1 : d.1 < 12) (h2 : d.2.1 < 12) : farN op n acc d < 4096 := by
  unfold farN
  split
  · exact or_lt ha (endsN_lt h1 h2)
  · exact ha
theorem far_le (op : Dr → Bool) (n acc : Nat) (d : Dr) : acc ≤ farN op n acc d := by
  unfold farN
  split
  · exact Nat.left_le_or
  · exact Nat.le_refl _
theorem stepF_lt {op : Dr → Bool} {n : Nat} {ds : List Dr} (hn : n < 4096) (hv : ∀ d ∈ ds, d.1 < 12 ∧ d.2.1 < 12) : stepF op n ds < 4096 := by
  unfold stepF
  have : ∀ (ds : List Dr) (acc : Nat), acc < 4096 → (∀ d ∈ ds, d.1 < 12 ∧ d.2.1 < 12) → ds.foldl (farN op n) acc < 4096 := by
    intro ds
    induction ds with
    | nil => intro acc h _; exact h
    | cons d ds ih =>
      intro acc h hv
      have hd := hv d (List.mem_cons_self ..)
      exact ih _ (far_lt h hd.1 hd.2) fun e he => hv e (List.mem_cons_of_mem _ he)
  exact this ds n hn hv
/-- y can be entered behind the nodes of n -/
def nextB (m : Mz) (n y : Nat) : Bool := !digB n y && m.doors.any fun d => hasB (keysN m n) d.2.2 && ((d.1 == (y : Int) && digB n d.2.1.toNat) || (d.2.1 == (y : Int) && digB n d.1.toNat))
def nextL (m : Mz) (n : Nat) : List Int := ((List.range 12).filter (nextB m n)).map fun p : Nat => (p : Int)
def nextN (m : Mz) (n : Nat) : Nat := if n = 0 then 1 else mk (nextL m n)
theorem nextB_lt {m : Mz} (V : Valid m) {n y : Nat} (h : nextB m n y = true) : (y : Int) < m.size := by
  unfold nextB at h
  rw [Bool.and_eq_true, List.any_eq_true] at h
  obtain ⟨_, d, hd, h⟩ := h
  obtain ⟨k, hk, rfl⟩ := List.mem_iff_getElem.1 hd
  obtain ⟨a1, a2, a3, a4, _⟩ := V.door k hk
  rw [Bool.and_eq_true, Bool.or_eq_true, Bool.and_eq_true, Bool.and_eq_true, beq_iff_eq, beq_iff_eq] at h
  rcases h.2 with h | h
  · omega
  · omega
theorem mem_nextL {m : Mz} {n : Nat} {x : Int} : x ∈ nextL m n ↔ ∃ p : Nat, x = p ∧ p < 12 ∧ nextB m n p = true := by
  unfold nextL
  rw [List.mem_map]
  constructor
  · rintro ⟨p, hp, rfl⟩
    rw [List.mem_filter, List.mem_range] at hp
    exact ⟨p, rfl, hp.1, hp.2⟩
  · rintro ⟨p, rfl, h1, h2⟩
    exact ⟨p, by rw [List.mem_filter, List.mem_range]; exact ⟨h1, h2⟩, rfl⟩
theorem nextL_asc (m : Mz) (n : Nat) : Asc ltI (nextL m n) := by
  unfold nextL Asc
  rw [List.pairwise_map]
  refine (List.Pairwise.filter _ List.pairwise_lt_range).imp ?_
  intro a b hab
  unfold ltI
  rw [decide_eq_true_iff]
  omega
theorem nextL_len (m : Mz) (n : Nat) : (nextL m n).length ≤ 12 := by
  unfold nextL
  rw [List.length_map]
  refine Nat.le_trans (List.length_filter_le _ _) ?_
  simp
theorem nextN_lt (m : Mz) (n : Nat) : nextN m n < 4096 := by
  unfold nextN
  split
  · decide
  · exact mk_lt fun x hx => by obtain ⟨p, rfl, hp, _⟩ := mem_nextL.1 hx; omega
theorem digB_nextN {m : Mz} (V : Valid m) {n : Nat} (h0 : n ≠ 0) (p : Nat) : digB (nextN m n) p = nextB m n p := by
  unfold nextN
  rw [if_neg h0, Bool.eq_iff_iff, digB_mk (fun x hx => by obtain ⟨q, rfl, _⟩ := mem_nextL.1 hx; omega), mem_nextL]
  constructor
  · rintro ⟨q, hq, _, h⟩
    obtain rfl : p = q := by omega
    exact h
  · intro h
    have := nextB_lt V h
    have := V.size12
    exact ⟨p, rfl, by omega, h⟩
theorem digs_nextN {m : Mz} (V : Valid m) {n : Nat} (h0 : n ≠ 0) : digsTo (nextN m n) 12 = nextL m n :=
  (digsTo_asc _ 12).ext ordI (nextL_asc m n) fun x => by
    rw [mem_digsTo, mem_nextL]
    constructor
    · rintro ⟨p, h1, h2, h3⟩; exact ⟨p, h1, h2, by rw [← digB_nextN V h0]; exact h3⟩
    · rintro ⟨p, h1, h2, h3⟩; exact ⟨p, h1, h2, by rw [digB_nextN V h0]; exact h3⟩
/-- what the program reckons -/
theorem next_step {m : Mz} (V : Valid m) {n : Nat} (hn : n < 4096) (h0 : n ≠ 0) : lessN (stepF (openTo (keysN m n)) n m.doors) n = nextN m n := by
  have hv : ∀ d ∈ m.doors, d.1 < 12 ∧ d.2.1 < 12 := by
    intro d hd
    obtain ⟨k, hk, rfl⟩ := List.mem_iff_getElem.1 hd
    obtain ⟨a, b, c, e, _⟩ := V.door k hk
    have := V.size12
    omega
  refine digB_ext fun p => ?_
  rw [digB_less (stepF_lt hn hv) hn, digB_nextN V h0]
  unfold nextB
  rw [Bool.and_comm]
  cases hp : digB n p with
  | true => rfl
  | false =>
    rw [Bool.not_false, Bool.true_and, Bool.true_and, Bool.eq_iff_iff]
    unfold stepF
    rw [far_digB, List.any_eq_true]
    constructor
    · rintro (h | ⟨d, hd, h1, h2, h3⟩)
      · rw [hp] at h; cases h
      · obtain ⟨k, hk, rfl⟩ := List.mem_iff_getElem.1 hd
        obtain ⟨a1, a2, a3, a4, _⟩ := V.door k hk
        refine ⟨_, hd, ?_⟩
        rw [Bool.and_eq_true, Bool.or_eq_true, Bool.and_eq_true, Bool.and_eq_true, beq_iff_eq, beq_iff_eq]
        refine ⟨h1, ?_⟩
        have h4 : ¬ (digB n m.doors[k].1.toNat = false ∧ digB n m.doors[k].2.1.toNat = false) := fun h => h2 ((and_ends n _).2 h)
        rcases (digB_ends _ p).1 h3 with h5 | h5
        · refine .inl ⟨by omega, ?_⟩
          cases h6 : digB n m.doors[k].2.1.toNat with
          | true => rfl
          | false => exact absurd ⟨by rw [h5]; exact hp, h6⟩ h4
        · refine .inr ⟨by omega, ?_⟩
          cases h6 : digB n m.doors[k].1.toNat with
          | true => rfl
          | false => exact absurd ⟨h6, by rw [h5]; exact hp⟩ h4
    · rintro ⟨d, hd, h⟩
      rw [Bool.and_eq_true, Bool.or_eq_true, Bool.and_eq_true, Bool.and_eq_true, beq_iff_eq, beq_iff_eq] at h
      refine .inr ⟨d, hd, h.1, fun hz => ?_, ?_⟩
      · obtain ⟨h1, h2⟩ := (and_ends n d).1 hz
        rcases h.2 with ⟨_, h3⟩ | ⟨_, h3⟩
        · rw [h2] at h3; cases h3
        · rw [h1] at h3; cases h3
      · rw [digB_ends]
        rcases h.2 with ⟨h3, _⟩ | ⟨h3, _⟩
        · exact .inl (by omega)
        · exact .inr (by omega)
/-- what the model asks of each pair of nodes -/
theorem nextB_open {m : Mz} (V : Valid m) {n y : Nat} (hy : digB n y = false) : nextB m n y = true ↔ ∃ x : Nat, (x : Int) < m.size ∧ digB n x = true ∧ openB m.doors (x : Int) (y : Int) (keysN m n) = true := by
  unfold nextB openB
  rw [hy, Bool.not_false, Bool.true_and, List.any_eq_true]
  have hs := keysN_set V n
  constructor
  · rintro ⟨d, hd, h⟩
    obtain ⟨k, hk, rfl⟩ := List.mem_iff_getElem.1 hd
    obtain ⟨a1, a2, a3, a4, _, b, c⟩ := V.door k hk
    rw [Bool.and_eq_true, Bool.or_eq_true, Bool.and_eq_true, Bool.and_eq_true, beq_iff_eq, beq_iff_eq, has_same hs.1 hs.2 b c] at h
    rcases h.2 with ⟨h3, h4⟩ | ⟨h3, h4⟩
    · refine ⟨_, by omega, h4, ?_⟩
      rw [List.any_eq_true]
      refine ⟨_, hd, ?_⟩
      unfold joinsB
      rw [h.1, Bool.and_true, Bool.or_eq_true, Bool.and_eq_true, Bool.and_eq_true, beq_iff_eq, beq_iff_eq, beq_iff_eq, beq_iff_eq]
      exact .inr ⟨h3, by omega⟩
    · refine ⟨_, by omega, h4, ?_⟩
      rw [List.any_eq_true]
      refine ⟨_, hd, ?_⟩
      unfold joinsB
      rw [h.1, Bool.and_true, Bool.or_eq_true, Bool.and_eq_true, Bool.and_eq_true, beq_iff_eq, beq_iff_eq, beq_iff_eq, beq_iff_eq]
      exact .inl ⟨by omega, h3⟩
  · rintro ⟨x, hx, hd, h⟩
    rw [List.any_eq_true] at h
    obtain ⟨d, hm, h⟩ := h
    obtain ⟨k, hk, rfl⟩ := List.mem_iff_getElem.1 hm
    obtain ⟨a1, a2, a3, a4, _, b, c⟩ := V.door k hk
    refine ⟨_, hm, ?_⟩
    unfold joinsB at h
    rw [Bool.and_eq_true, Bool.or_eq_true, Bool.and_eq_true, Bool.and_eq_true, beq_iff_eq, beq_iff_eq, beq_iff_eq, beq_iff_eq, ← has_same hs.1 hs.2 b c] at h
    rw [Bool.and_eq_true, Bool.or_eq_true, Bool.and_eq_true, Bool.and_eq_true, beq_iff_eq, beq_iff_eq]
    refine ⟨h.2, ?_⟩
    rcases h.1 with ⟨h3, h4⟩ | ⟨h3, h4⟩
    · exact .inr ⟨h4, by rw [h3, Int.toNat_natCast]; exact hd⟩
    · exact .inl ⟨h3, by rw [h4, Int.toNat_natCast]; exact hd⟩
end M
end Go.Proofs.Ytoiapfdlbkncaaa
