/-
  MATHEMATICS of rounds, own to these proofs: the sets of colours behind each round, the nodes entered, when the rounds end; the program's pairs of nodes and colours tell the same. No condition.
-/
import Derived.Test.YthgmkkkfhbjhoaaReachV
import Derived.Test.YthgmkkkfhbjhoaaDigitsI
namespace Go.Proofs.Ythgmkkkfhbjhoaa
open Go.RowKit
namespace M
/-- the keys at the nodes of a list, in addition to a set -/
def gath (m : Mz) : List Int → Int → Int
  | [], s => s
  | x :: l, s => gath m l (bits .or .i64 s (m.keys.getD x.toNat 0))
theorem gath_append (m : Mz) : ∀ (l l' : List Int) (s : Int), gath m (l ++ l') s = gath m l' (gath m l s)
  | [], _, _ => rfl
  | _ :: l, l', _ => gath_append m l l' _
theorem gath_take {m : Mz} {l : List Int} {k : Nat} (h : k < l.length) (s : Int) : gath m (l.take (k + 1)) s = bits .or .i64 (gath m (l.take k) s) (m.keys.getD l[k].toNat 0) := by
  rw [List.take_succ_eq_append_getElem h, gath_append]
  rfl
/-- a set has all colours of another one -/
def SubS (s t : Int) : Prop := has2B t s = true
theorem and_nat {a b : Nat} (ha : a < 64) (hb : b < 64) : bits .and .i64 (a : Int) (b : Int) = ((a &&& b : Nat) : Int) := (bits_nat .i64 62 (by decide) wraps_i64 a b (by omega) (by omega)).1
theorem or_nat {a b : Nat} (ha : a < 64) (hb : b < 64) : bits .or .i64 (a : Int) (b : Int) = ((a ||| b : Nat) : Int) := (bits_nat .i64 62 (by decide) wraps_i64 a b (by omega) (by omega)).2
theorem sub_nat {a b : Nat} (ha : a < 64) (hb : b < 64) : SubS (a : Int) (b : Int) ↔ b &&& a = a := by
  unfold SubS has2B
  rw [and_nat hb ha, beq_iff_eq]
  exact ⟨fun h => by exact_mod_cast h, fun h => by exact_mod_cast h⟩
theorem SubS.trans {s t u : Int} (hs : 0 ≤ s ∧ s < 64) (ht : 0 ≤ t ∧ t < 64) (hu : 0 ≤ u ∧ u < 64) (h1 : SubS s t) (h2 : SubS t u) : SubS s u := by
  obtain ⟨a, rfl⟩ : ∃ a : Nat, s = a := ⟨s.toNat, by omega⟩
  obtain ⟨b, rfl⟩ : ∃ a : Nat, t = a := ⟨t.toNat, by omega⟩
  obtain ⟨c, rfl⟩ : ∃ a : Nat, u = a := ⟨u.toNat, by omega⟩
  rw [sub_nat (by omega) (by omega)] at *
  rw [← h1, ← Nat.and_assoc, h2]
theorem SubS.refl {s : Int} (hs : 0 ≤ s ∧ s < 64) : SubS s s := by
  obtain ⟨a, rfl⟩ : ∃ a : Nat, s = a := ⟨s.toNat, by omega⟩
  rw [sub_nat (by omega) (by omega), Nat.and_self]
theorem SubS.le {s t : Int} (hs : 0 ≤ s ∧ s < 64) (ht : 0 ≤ t ∧ t < 64) (h : SubS s t) : s ≤ t := by
  obtain ⟨a, rfl⟩ : ∃ a : Nat, s = a := ⟨s.toNat, by omega⟩
  obtain ⟨b, rfl⟩ : ∃ a : Nat, t = a := ⟨t.toNat, by omega⟩
  rw [sub_nat (by omega) (by omega)] at h
  have : b &&& a ≤ b := Nat.and_le_left
  omega
theorem SubS.or {s t : Int} (hs : 0 ≤ s ∧ s < 64) (ht : 0 ≤ t ∧ t < 64) : SubS s (bits .or .i64 s t) := by
  obtain ⟨a, rfl⟩ : ∃ a : Nat, s = a := ⟨s.toNat, by omega⟩
  obtain ⟨b, rfl⟩ : ∃ a : Nat, t = a := ⟨t.toNat, by omega⟩
  have ha : a < 64 := by omega
  have hb : b < 64 := by omega
  have h64 : (2 : Nat) ^ 6 = 64 := rfl
  have hlt : a ||| b < 64 := by rw [← h64]; exact Nat.or_lt_two_pow (by rw [h64]; exact ha) (by rw [h64]; exact hb)
  rw [or_nat ha hb, sub_nat ha hlt]
  refine Nat.eq_of_testBit_eq fun p => ?_
  rw [Nat.testBit_and, Nat.testBit_or]
  cases a.testBit p <;> simp
theorem key_set {m : Mz} (V : Valid m) (k : Nat) : 0 ≤ m.keys.getD k 0 ∧ m.keys.getD k 0 < 64 := by
  rw [List.getD_eq_getElem?_getD]
  rcases Nat.lt_or_ge k m.keys.length with h | h
  · rw [List.getElem?_eq_getElem h]
    exact V.key k h
  · rw [List.getElem?_eq_none h]
    exact ⟨by decide, by decide⟩
theorem gath_set {m : Mz} (V : Valid m) : ∀ (l : List Int) (s : Int), 0 ≤ s ∧ s < 64 → (0 ≤ gath m l s ∧ gath m l s < 64) ∧ SubS s (gath m l s)
  | [], _, h => ⟨h, SubS.refl h⟩
  | x :: l, s, h => by
    have hk := key_set V x.toNat
    have ho := or_set h.1 h.2 hk.1 hk.2
    have ih := gath_set V l _ ho
    exact ⟨ih.1, (SubS.or h hk).trans h ho ih.1 ih.2⟩
/-- the colours behind a round -/
noncomputable def nextC (m : Mz) (s : Int) : Int := gath m (reachOf m 0 s) s
theorem nextC_set {m : Mz} (V : Valid m) {s : Int} (h : 0 ≤ s ∧ s < 64) : (0 ≤ nextC m s ∧ nextC m s < 64) ∧ SubS s (nextC m s) := gath_set V _ _ h
/-- more colours open no fewer doors -/
theorem open_more {m : Mz} (V : Valid m) {s t : Int} (hs : 0 ≤ s ∧ s < 64) (ht : 0 ≤ t ∧ t < 64) (h : SubS s t) : ∀ d ∈ m.doors, openTo s d = true → openTo t d = true := by
  intro d hd
  rw [open_both V hs.1 hs.2 d hd, open_both V ht.1 ht.2 d hd]
  intro ho
  obtain ⟨k, hk, rfl⟩ := List.mem_iff_getElem.1 hd
  obtain ⟨_, _, _, _, _, b, c⟩ := V.door k hk
  exact SubS.trans (s := m.doors[k].2.2) ⟨b, c⟩ hs ht ho h
theorem mem_reach {m : Mz} (V : Valid m) (s : Int) (y : Int) : y ∈ reachOf m 0 s ↔ Rch m.doors (openTo s) 0 y :=
  mem_rchL (fun z hz => by have := rch_node V ⟨Int.le_refl _, by have := V.size1; omega⟩ hz; have := V.size12; omega) y
theorem reach_node {m : Mz} (V : Valid m) {s y : Int} (h : y ∈ reachOf m 0 s) : 0 ≤ y ∧ y < m.size := rch_node V ⟨Int.le_refl _, by have := V.size1; omega⟩ ((mem_reach V s y).1 h)
theorem reach_more {m : Mz} (V : Valid m) {s t : Int} (hs : 0 ≤ s ∧ s < 64) (ht : 0 ≤ t ∧ t < 64) (h : SubS s t) {y : Int} (hy : y ∈ reachOf m 0 s) : y ∈ reachOf m 0 t :=
  (mem_reach V t y).2 (Rch.mono (open_more V hs ht h) ((mem_reach V s y).1 hy))
theorem reach_zero {m : Mz} (V : Valid m) (s : Int) : (0 : Int) ∈ reachOf m 0 s := (mem_reach V s 0).2 .refl
/-- the colours behind k rounds -/
noncomputable def it (m : Mz) (s : Int) : Nat → Int
  | 0 => s
  | k + 1 => nextC m (it m s k)
theorem it_set {m : Mz} (V : Valid m) {s : Int} (h : 0 ≤ s ∧ s < 64) : ∀ k, 0 ≤ it m s k ∧ it m s k < 64
  | 0 => h
  | k + 1 => (nextC_set V (it_set V h k)).1
theorem it_sub {m : Mz} (V : Valid m) {s : Int} (h : 0 ≤ s ∧ s < 64) (k : Nat) : SubS (it m s k) (it m s (k + 1)) := (nextC_set V (it_set V h k)).2
theorem it_le {m : Mz} (V : Valid m) {s : Int} (h : 0 ≤ s ∧ s < 64) (k : Nat) : it m s k ≤ it m s (k + 1) := (it_sub V h k).le (it_set V h k) (it_set V h (k + 1))
theorem it_more {m : Mz} (V : Valid m) {s : Int} (h : 0 ≤ s ∧ s < 64) (k : Nat) : ∀ j, SubS (it m s k) (it m s (k + j))
  | 0 => SubS.refl (it_set V h k)
  | j + 1 => (it_more V h k j).trans (it_set V h k) (it_set V h _) (it_set V h _) (it_sub V h (k + j))
theorem it_far {m : Mz} {s : Int} {k : Nat} (h : it m s (k + 1) = it m s k) : ∀ j, it m s (k + j) = it m s k
  | 0 => rfl
  | j + 1 => by
    show nextC m (it m s (k + j)) = _
    rw [it_far h j]
    exact h
/-- the last round that brings a colour is the k-th -/
def Stop (m : Mz) (s : Int) (k : Nat) : Prop := it m s (k + 1) = it m s k ∧ ∀ i, i < k → it m s (i + 1) ≠ it m s i
theorem it_grow {m : Mz} (V : Valid m) {s : Int} (h : 0 ≤ s ∧ s < 64) {k : Nat} (hk : ∀ i, i < k → it m s (i + 1) ≠ it m s i) : (k : Int) ≤ it m s k := by
  induction k with
  | zero => exact h.1
  | succ k ih =>
    have h1 := ih fun i hi => hk i (by omega)
    have h2 := it_le V h k
    have h3 := hk k (by omega)
    omega
theorem least_of {p : Nat → Prop} : ∀ k, p k → ∃ j, j ≤ k ∧ p j ∧ ∀ i, i < j → ¬ p i := by
  intro k
  induction k using Nat.strongRecOn with
  | ind k ih =>
    intro hk
    rcases Classical.em (∃ i, i < k ∧ p i) with ⟨i, hi, hp⟩ | hn
    · obtain ⟨j, h1, h2, h3⟩ := ih i hi hp
      exact ⟨j, by omega, h2, h3⟩
    · exact ⟨k, Nat.le_refl _, hk, fun i hi hp => hn ⟨i, hi, hp⟩⟩
theorem stop_ex {m : Mz} (V : Valid m) {s : Int} (h : 0 ≤ s ∧ s < 64) : ∃ k, k ≤ 64 ∧ Stop m s k := by
  rcases Classical.em (∃ k, k < 64 ∧ it m s (k + 1) = it m s k) with ⟨k, hk, he⟩ | hn
  · obtain ⟨j, h1, h2, h3⟩ := least_of (p := fun k => it m s (k + 1) = it m s k) k he
    exact ⟨j, by omega, h2, h3⟩
  · have := it_grow V h (k := 64) fun i hi he => hn ⟨i, hi, he⟩
    have := (it_set V h 64).2
    omega
noncomputable def lastK (m : Mz) (s : Int) : Nat := @dite _ (∃ k, k ≤ 64 ∧ Stop m s k) (Classical.propDecidable _) (fun h => Classical.choose h) fun _ => 0
theorem lastK_le (m : Mz) (s : Int) : lastK m s ≤ 64 := by
  unfold lastK
  split
  · rename_i h; exact (Classical.choose_spec h).1
  · omega
theorem lastK_stop {m : Mz} (V : Valid m) {s : Int} (h : 0 ≤ s ∧ s < 64) : Stop m s (lastK m s) := by
  unfold lastK
  rw [dif_pos (stop_ex V h)]
  exact (Classical.choose_spec (stop_ex V h)).2
/-- on the way: the next round brings nothing just at the last one -/
theorem last_iff {m : Mz} (V : Valid m) {s : Int} (h : 0 ≤ s ∧ s < 64) {k : Nat} (hk : k ≤ lastK m s) : it m s (k + 1) = it m s k ↔ k = lastK m s := by
  obtain ⟨h1, h2⟩ := lastK_stop V h
  constructor
  · intro he
    rcases Nat.lt_or_ge k (lastK m s) with hlt | hge
    · exact absurd he (h2 k hlt)
    · omega
  · rintro rfl
    exact h1
theorem it_last {m : Mz} (V : Valid m) {s : Int} (h : 0 ≤ s ∧ s < 64) (j : Nat) : it m s (lastK m s + j) = it m s (lastK m s) := it_far (lastK_stop V h).1 j
/-- the sets that one has at first and behind each round that brings a colour -/
noncomputable def setsTo (m : Mz) (s : Int) (k : Nat) : List Int := (List.range (k + 1)).map (it m s)
theorem setsTo_succ (m : Mz) (s : Int) (k : Nat) : setsTo m s (k + 1) = setsTo m s k ++ [it m s (k + 1)] := by unfold setsTo; rw [List.range_succ (n := k + 1), List.map_append]; rfl
theorem setsTo_len (m : Mz) (s : Int) (k : Nat) : (setsTo m s k).length = k + 1 := by unfold setsTo; simp
theorem setsTo_at {m : Mz} {s : Int} {k i : Nat} (h : i < k + 1) : (setsTo m s k)[i]? = some (it m s i) := by unfold setsTo; rw [List.getElem?_map, List.getElem?_range h]; rfl
/-- the set that one has at last -/
noncomputable def finC (m : Mz) (s : Int) : Int := it m s (lastK m s)
/-- the round in which a node is entered, of the first k rounds, or 0 -/
noncomputable def entTo (m : Mz) (s : Int) : Nat → Int → Nat
  | 0, _ => 0
  | k + 1, x => if entTo m s k x = 0 then (if x ∈ reachOf m 0 (it m s k) then k + 1 else 0) else entTo m s k x
theorem entTo_le (m : Mz) (s : Int) (x : Int) : ∀ k, entTo m s k x ≤ k
  | 0 => Nat.le_refl _
  | k + 1 => by
    have := entTo_le m s x k
    unfold entTo
    split
    · split <;> omega
    · omega
theorem entTo_zero {m : Mz} {s : Int} {x : Int} : ∀ {k : Nat}, entTo m s k x = 0 ↔ ∀ i, i < k → x ∉ reachOf m 0 (it m s i)
  | 0 => ⟨fun _ i hi => by omega, fun _ => rfl⟩
  | k + 1 => by
    have ih := entTo_zero (m := m) (s := s) (x := x) (k := k)
    unfold entTo
    constructor
    · intro h i hi
      split at h
      · rename_i h0
        split at h
        · omega
        · rename_i hn
          rcases Nat.lt_or_ge i k with hlt | hge
          · exact ih.1 h0 i hlt
          · obtain rfl : i = k := by omega
            exact hn
      · rename_i h0
        exact absurd h h0
    · intro h
      rw [if_pos (ih.2 fun i hi => h i (by omega)), if_neg (h k (by omega))]
/-- the first round that enters a node -/
theorem entTo_pos {m : Mz} {s : Int} {x : Int} {r : Nat} : ∀ {k : Nat}, entTo m s k x = r + 1 ↔ r < k ∧ x ∈ reachOf m 0 (it m s r) ∧ ∀ i, i < r → x ∉ reachOf m 0 (it m s i)
  | 0 => ⟨fun h => (by cases h), fun h => (by omega)⟩
  | k + 1 => by
    have ih := entTo_pos (m := m) (s := s) (x := x) (r := r) (k := k)
    have hz := entTo_zero (m := m) (s := s) (x := x) (k := k)
    unfold entTo
    constructor
    · intro h
      split at h
      · rename_i h0
        split at h
        · rename_i hm
          obtain rfl : k = r := by omega
          exact ⟨by omega, hm, hz.1 h0⟩
        · cases h
      · obtain ⟨a, b, c⟩ := ih.1 h
        exact ⟨by omega, b, c⟩
    · rintro ⟨a, b, c⟩
      rcases Nat.lt_or_ge r k with hlt | hge
      · rw [ih.2 ⟨hlt, b, c⟩, if_neg (by omega)]
      · obtain rfl : r = k := by omega
        rw [if_pos (hz.2 c), if_pos b]
/-- what is entered at all is entered with the colours that one has at last -/
theorem ent_last {m : Mz} (V : Valid m) {s : Int} (h : 0 ≤ s ∧ s < 64) (x : Int) : entTo m s (lastK m s + 1) x ≠ 0 ↔ x ∈ reachOf m 0 (finC m s) := by
  constructor
  · intro hne
    obtain ⟨r, hr⟩ : ∃ r, entTo m s (lastK m s + 1) x = r + 1 := ⟨entTo m s (lastK m s + 1) x - 1, by omega⟩
    obtain ⟨a, b, _⟩ := entTo_pos.1 hr
    obtain ⟨j, hj⟩ : ∃ j, lastK m s = r + j := ⟨lastK m s - r, by omega⟩
    unfold finC
    rw [hj]
    exact reach_more V (it_set V h _) (it_set V h _) (it_more V h r j) b
  · intro hm h0
    exact entTo_zero.1 h0 (lastK m s) (by omega) hm
noncomputable def nodeRounds (m : Mz) (s : Int) (k : Nat) : List Int := (List.range m.size.toNat).map fun x : Nat => ((entTo m s k (x : Int) : Nat) : Int)
theorem nodeRounds_len (m : Mz) (s : Int) (k : Nat) : (nodeRounds m s k).length = m.size.toNat := by unfold nodeRounds; simp

-- the program's pairs
/-- the number whose binary digits are the nodes of a list -/
def mk : List Int → Nat
  | [] => 0
  | x :: l => 2 ^ x.toNat ||| mk l
theorem digB_mk {l : List Int} (hl : ∀ x ∈ l, 0 ≤ x) (p : Nat) : digB (mk l) p = true ↔ (p : Int) ∈ l := by
  induction l with
  | nil => simp [mk, digB]
  | cons x l ih =>
    have hx := hl x (List.mem_cons_self ..)
    unfold mk
    rw [digB_or, Bool.or_eq_true, ih fun y hy => hl y (List.mem_cons_of_mem _ hy), digB_pow, decide_eq_true_iff, List.mem_cons]
    constructor
    · rintro (h | h)
      · exact .inl (by omega)
      · exact .inr h
    · rintro (h | h)
      · exact .inl (by omega)
      · exact .inr h
theorem mk_lt {l : List Int} (hl : ∀ x ∈ l, x < 12) : mk l < 4096 := by
  have h12 : (2 : Nat) ^ 12 = 4096 := rfl
  induction l with
  | nil => decide
  | cons x l ih =>
    have hx := hl x (List.mem_cons_self ..)
    unfold mk
    rw [← h12]
    exact Nat.or_lt_two_pow (Nat.pow_lt_pow_of_lt (by decide) (by omega)) (by rw [h12]; exact ih fun y hy => hl y (List.mem_cons_of_mem _ hy))
theorem mk_ext {l l' : List Int} (h0 : ∀ x ∈ l, 0 ≤ x) (h1 : ∀ x ∈ l', 0 ≤ x) (h : mk l = mk l') (y : Int) : y ∈ l ↔ y ∈ l' := by
  have key : ∀ p : Nat, (p : Int) ∈ l ↔ (p : Int) ∈ l' := fun p => by rw [← digB_mk h0, ← digB_mk h1, h]
  constructor
  · intro hy
    have := h0 y hy
    have e : ((y.toNat : Nat) : Int) = y := by omega
    have := (key y.toNat).1 (by rwa [e])
    rwa [e] at this
  · intro hy
    have := h1 y hy
    have e : ((y.toNat : Nat) : Int) = y := by omega
    have := (key y.toNat).2 (by rwa [e])
    rwa [e] at this
/-- a number below 4096 is told by its digits -/
theorem mk_digs {n : Nat} (h : n < 4096) : mk (digsTo n 12) = n := by
  refine Nat.eq_of_testBit_eq fun p => ?_
  rw [← digB_testBit, ← digB_testBit, Bool.eq_iff_iff, digB_mk (fun x hx => by obtain ⟨q, rfl, _⟩ := mem_digsTo.1 hx; omega), mem_digsTo]
  constructor
  · rintro ⟨q, hq, _, hd⟩
    obtain rfl : p = q := by omega
    exact hd
  · intro hd
    refine ⟨p, rfl, ?_, hd⟩
    rcases Nat.lt_or_ge p 12 with hlt | hge
    · exact hlt
    · rw [digB_lt (k := 12) (Nat.div_eq_of_lt h) hge] at hd
      cases hd
noncomputable def gn (m : Mz) (s : Int) : Nat → Nat
  | 0 => 0
  | k + 1 => mk (reachOf m 0 (it m s k))
theorem gn_lt {m : Mz} (V : Valid m) (s : Int) : ∀ k, gn m s k < 4096
  | 0 => by show (0 : Nat) < 4096; decide
  | k + 1 => mk_lt fun _ hx => by have := reach_node V hx; have := V.size12; omega
theorem digB_gn {m : Mz} (V : Valid m) (s : Int) (k p : Nat) : digB (gn m s (k + 1)) p = true ↔ (p : Int) ∈ reachOf m 0 (it m s k) := digB_mk (fun _ hx => (reach_node V hx).1) p
theorem gn_pos {m : Mz} (V : Valid m) (s : Int) (k : Nat) : gn m s (k + 1) ≠ 0 := by
  intro h
  have := (digB_gn V s k 0).2 (reach_zero V _)
  rw [h] at this
  simp [digB] at this
/-- where the program's pairs stay the same -/
noncomputable def lastG (m : Mz) (s : Int) : Nat := if gn m s (lastK m s + 1) = gn m s (lastK m s) then lastK m s else lastK m s + 1
theorem lastG_le (m : Mz) (s : Int) : lastG m s ≤ 65 := by
  have := lastK_le m s
  unfold lastG
  split <;> omega
theorem lastG_pos {m : Mz} (V : Valid m) (s : Int) : 0 < lastG m s := by
  unfold lastG
  split
  · rename_i h
    rcases Nat.eq_zero_or_pos (lastK m s) with h0 | h0
    · rw [h0] at h
      exact absurd h (gn_pos V s 0)
    · exact h0
  · omega
theorem lastG_iff {m : Mz} (V : Valid m) {s : Int} (h : 0 ≤ s ∧ s < 64) {k : Nat} (hk : k ≤ lastG m s) : (gn m s (k + 1) = gn m s k ∧ it m s (k + 1) = it m s k) ↔ k = lastG m s := by
  rcases Nat.lt_trichotomy k (lastK m s) with hlt | heq | hgt
  · have h1 := mt (last_iff V h (Nat.le_of_lt hlt)).1 (by omega)
    constructor
    · exact fun e => absurd e.2 h1
    · intro e
      unfold lastG at e
      split at e <;> omega
  · subst heq
    have h1 := (lastK_stop V h).1
    unfold lastG
    constructor
    · exact fun e => by rw [if_pos e.1]
    · intro e
      split at e
      · rename_i hg; exact ⟨hg, h1⟩
      · omega
  · have hg : lastG m s = lastK m s + 1 := by
      unfold lastG at hk ⊢
      split <;> rename_i hc
      · rw [if_pos hc] at hk; omega
      · rfl
    obtain rfl : k = lastK m s + 1 := by omega
    have e1 : it m s (lastK m s + 1) = it m s (lastK m s) := (lastK_stop V h).1
    have e2 : it m s (lastK m s + 1 + 1) = it m s (lastK m s + 1) := by
      show nextC m (it m s (lastK m s + 1)) = nextC m (it m s (lastK m s))
      rw [e1]
    exact ⟨fun _ => hg.symm, fun _ => ⟨by show mk (reachOf m 0 (it m s (lastK m s + 1))) = mk (reachOf m 0 (it m s (lastK m s))); rw [e1], e2⟩⟩
theorem it_lastG {m : Mz} (V : Valid m) {s : Int} (h : 0 ≤ s ∧ s < 64) : it m s (lastG m s) = finC m s := by
  unfold lastG finC
  split
  · rfl
  · exact (lastK_stop V h).1
theorem gn_lastG {m : Mz} (V : Valid m) {s : Int} (h : 0 ≤ s ∧ s < 64) : digsTo (gn m s (lastG m s)) 12 = reachOf m 0 (finC m s) := by
  have e : gn m s (lastG m s) = mk (reachOf m 0 (finC m s)) := by
    have := ((lastG_iff V h (Nat.le_refl _)).2 rfl).1
    rw [← this]
    show mk (reachOf m 0 (it m s (lastG m s))) = _
    rw [it_lastG V h]
  refine (digsTo_asc _ 12).ext ordI (rchL_asc _ _ _) fun y => ?_
  rw [mem_digsTo, e]
  constructor
  · rintro ⟨p, rfl, _, hp⟩
    exact (digB_mk (fun _ hx => (reach_node V hx).1) p).1 hp
  · intro hy
    have hn := reach_node V hy
    have := V.size12
    have ey : ((y.toNat : Nat) : Int) = y := by omega
    exact ⟨y.toNat, by omega, by omega, (digB_mk (fun _ hx => (reach_node V hx).1) y.toNat).2 (by rw [ey]; exact hy)⟩
/-- the rounds told by the pairs -/
theorem ent_lastG {m : Mz} (V : Valid m) (s x : Int) : entTo m s (lastG m s) x = entTo m s (lastK m s + 1) x := by
  unfold lastG
  split
  · rename_i hg
    obtain ⟨j, hj⟩ : ∃ j, lastK m s = j + 1 := by
      rcases Nat.eq_zero_or_pos (lastK m s) with h0 | h0
      · rw [h0] at hg
        exact absurd hg (gn_pos V s 0)
      · exact ⟨lastK m s - 1, by omega⟩
    have hx : x ∈ reachOf m 0 (it m s (lastK m s)) → x ∈ reachOf m 0 (it m s j) := by
      rw [hj] at hg ⊢
      exact (mk_ext (fun _ hx => (reach_node V hx).1) (fun _ hx => (reach_node V hx).1) hg x).1
    show _ = entTo m s (lastK m s + 1) x
    have hu : entTo m s (lastK m s + 1) x = if entTo m s (lastK m s) x = 0 then (if x ∈ reachOf m 0 (it m s (lastK m s)) then lastK m s + 1 else 0) else entTo m s (lastK m s) x := rfl
    rw [hu]
    split
    · rename_i h0
      rw [if_neg]
      · exact h0
      · intro hm
        exact entTo_zero.1 h0 j (by omega) (hx hm)
    · rfl
  · rfl
end M
end Go.Proofs.Ythgmkkkfhbjhoaa
