/-
  MATHEMATICS of acts, own to these proofs: which gates are open, to which nodes one can go, all acts at a visit, what is behind an act. No condition.
-/
import Derived.Test.YtdgfceiobpnchaaWkM
import Derived.Test.YtdgfceiobpnchaaReachMath
import Derived.Test.YtdgfceiobpnchaaOnesW
namespace Go.Proofs.Ytdgfceiobpnchaa
open Go.RowKit
namespace M
abbrev Vs := Int × Int
def pullA (m : Wk) (x : Int) : Int := m.pulls.getD x.toNat 0
theorem pullA_eq {m : Wk} {k : Nat} (h : k < m.pulls.length) : pullA m (k : Int) = m.pulls[k] := by unfold pullA; rw [List.getD_eq_getElem?_getD, Int.toNat_natCast, List.getElem?_eq_getElem h]; rfl
theorem pullA_set {m : Wk} (V : WV m) (x : Int) : 0 ≤ pullA m x ∧ pullA m x < 64 := by
  unfold pullA
  rw [List.getD_eq_getElem?_getD]
  rcases Nat.lt_or_ge x.toNat m.pulls.length with h | h
  · rw [List.getElem?_eq_getElem h]; exact V.pull _ h
  · rw [List.getElem?_eq_none h]; exact ⟨by decide, by decide⟩
/-- 0 or 1: whether the number of a set's levers that are down is odd -/
def parI (set lev : Int) : Int := many (bits .and .i64 set lev) % 2
def openG (g : Gt) (lev : Int) : Bool := parI g.2.2.1 lev == g.2.2.2
/-- where a gate leads to -/
def gto (s : Vs) (g : Gt) : List Int := if openG g s.2 then (if g.1 = s.1 then [g.2.1] else []) ++ (if g.2.1 = s.1 then [g.1] else []) else []
def goB (m : Wk) (s : Vs) (y : Int) : Bool := m.gates.any fun g => (gto s g).contains y
def goL (m : Wk) (s : Vs) : List Int := ((List.range 12).filter fun y : Nat => goB m s y).map fun y : Nat => (y : Int)
def pullL (m : Wk) (x : Int) : List Int := if pullA m x = 0 then [] else [-1]
def actsL (m : Wk) (s : Vs) : List Int := pullL m s.1 ++ goL m s
def doA (m : Wk) (s : Vs) (act : Int) : Vs := if act < 0 then (s.1, bits .xor .i64 s.2 (pullA m s.1)) else (act, s.2)
def nextW (m : Wk) (s : Vs) : List Vs := (actsL m s).map (doA m s)
def VsOk (m : Wk) (s : Vs) : Prop := 0 ≤ s.1 ∧ s.1 < m.size ∧ 0 ≤ s.2 ∧ s.2 < 64
def visitB (m : Wk) (x lev : Int) : Bool := worksB m && (nodeB m.size x && setB lev)
theorem mem_gto {s : Vs} {g : Gt} {y : Int} : y ∈ gto s g ↔ openG g s.2 = true ∧ (g.1 = s.1 ∧ g.2.1 = y ∨ g.2.1 = s.1 ∧ g.1 = y) := by
  unfold gto
  by_cases h : openG g s.2 = true
  · rw [if_pos h, List.mem_append]
    by_cases h1 : g.1 = s.1 <;> by_cases h2 : g.2.1 = s.1 <;> simp [h, h1, h2] <;> (constructor <;> (intro e; omega))
  · rw [if_neg h]; simp [h]
theorem goB_iff {m : Wk} {s : Vs} {y : Int} : goB m s y = true ↔ ∃ g ∈ m.gates, y ∈ gto s g := by
  unfold goB
  rw [List.any_eq_true]
  constructor
  · rintro ⟨g, h1, h2⟩; exact ⟨g, h1, List.contains_iff_mem.1 h2⟩
  · rintro ⟨g, h1, h2⟩; exact ⟨g, h1, List.contains_iff_mem.2 h2⟩
theorem gto_node {m : Wk} (V : WV m) {s : Vs} {g : Gt} (hg : g ∈ m.gates) {y : Int} (hy : y ∈ gto s g) : 0 ≤ y ∧ y < m.size := by
  obtain ⟨k, hk, rfl⟩ := List.mem_iff_getElem.1 hg
  obtain ⟨a, b, c, _⟩ := V.gate k hk
  obtain ⟨_, h⟩ := mem_gto.1 hy
  omega
theorem mem_goL {m : Wk} (V : WV m) {s : Vs} {y : Int} : y ∈ goL m s ↔ ∃ g ∈ m.gates, y ∈ gto s g := by
  have v12 := V.size12
  unfold goL
  rw [List.mem_map]
  constructor
  · rintro ⟨p, hp, rfl⟩
    rw [List.mem_filter] at hp
    exact goB_iff.1 hp.2
  · rintro ⟨g, hg, hy⟩
    have := gto_node V hg hy
    have e : ((y.toNat : Nat) : Int) = y := by omega
    refine ⟨y.toNat, ?_, e⟩
    rw [List.mem_filter, List.mem_range]
    exact ⟨by omega, by rw [e]; exact goB_iff.2 ⟨g, hg, hy⟩⟩
theorem goL_node {m : Wk} (V : WV m) {s : Vs} {y : Int} (h : y ∈ goL m s) : 0 ≤ y ∧ y < m.size := by
  obtain ⟨g, hg, hy⟩ := (mem_goL V).1 h
  exact gto_node V hg hy
theorem goL_asc (m : Wk) (s : Vs) : Asc ltI (goL m s) := by
  unfold goL Asc
  rw [List.pairwise_map]
  refine (List.Pairwise.filter _ List.pairwise_lt_range).imp ?_
  intro a b hab
  unfold ltI
  rw [decide_eq_true_iff]
  omega
theorem goL_len (m : Wk) (s : Vs) : (goL m s).length ≤ 12 := by
  unfold goL
  rw [List.length_map]
  refine Nat.le_trans (List.length_filter_le _ _) ?_
  simp
theorem goL_nat {m : Wk} {s : Vs} {y : Int} (h : y ∈ goL m s) : 0 ≤ y := by
  unfold goL at h
  obtain ⟨p, _, rfl⟩ := List.mem_map.1 h
  omega
theorem pullL_len (m : Wk) (x : Int) : (pullL m x).length ≤ 1 := by unfold pullL; split <;> simp
theorem pullL_no {m : Wk} {x : Int} (h : pullA m x = 0) : pullL m x = [] := if_pos h
theorem pullL_yes {m : Wk} {x : Int} (h : pullA m x ≠ 0) : pullL m x = [-1] := if_neg h
theorem pullL_asc (m : Wk) (x : Int) : Asc ltI (pullL m x) := by unfold pullL Asc; split <;> simp
theorem mem_pullL {m : Wk} {x a : Int} : a ∈ pullL m x ↔ a = -1 ∧ pullA m x ≠ 0 := by unfold pullL; split <;> simp_all
theorem actsL_asc (m : Wk) (s : Vs) : Asc ltI (actsL m s) := by
  unfold actsL
  have h1 := pullL_asc m s.1
  have h2 := goL_asc m s
  unfold Asc at *
  rw [List.pairwise_append]
  refine ⟨h1, h2, fun a ha b hb => ?_⟩
  obtain ⟨rfl, _⟩ := mem_pullL.1 ha
  have := goL_nat hb
  unfold ltI
  rw [decide_eq_true_iff]
  omega
theorem actsL_len (m : Wk) (s : Vs) : (actsL m s).length ≤ 13 := by
  have h1 := pullL_len m s.1
  have h2 := goL_len m s
  unfold actsL
  rw [List.length_append]
  omega
theorem mem_actsL {m : Wk} {s : Vs} {a : Int} : a ∈ actsL m s ↔ (a = -1 ∧ pullA m s.1 ≠ 0) ∨ a ∈ goL m s := by
  unfold actsL
  rw [List.mem_append, mem_pullL]
theorem actsL_rng {m : Wk} (V : WV m) {s : Vs} {a : Int} (h : a ∈ actsL m s) : -1 ≤ a ∧ a < m.size := by
  have := V.size1
  rcases mem_actsL.1 h with ⟨rfl, _⟩ | h
  · omega
  · have := goL_node V h; omega
theorem xor_nat (a b : Nat) (ha : a < 64) (hb : b < 64) : bits .xor .i64 (a : Int) (b : Int) = ((a ^^^ b : Nat) : Int) := by
  have h6 : (2 : Nat) ^ 6 = 64 := rfl
  have hx : a ^^^ b < 64 := by rw [← h6] at *; exact Nat.xor_lt_two_pow ha hb
  show IntKind.i64.wrap ((BitVec.ofInt 64 (a : Int) ^^^ BitVec.ofInt 64 (b : Int)).toNat : Int) = _
  rw [BitVec.ofInt_natCast, BitVec.ofInt_natCast, BitVec.toNat_xor, BitVec.toNat_ofNat, BitVec.toNat_ofNat, Nat.mod_eq_of_lt (by omega), Nat.mod_eq_of_lt (by omega), IntKind.wrap_i64]
  omega
theorem xor_lt64 {a b : Nat} (ha : a < 64) (hb : b < 64) : a ^^^ b < 64 := by
  have h6 : (2 : Nat) ^ 6 = 64 := rfl
  rw [← h6] at *
  exact Nat.xor_lt_two_pow ha hb
theorem xor_set {a b : Int} (h1 : 0 ≤ a) (h2 : a < 64) (h3 : 0 ≤ b) (h4 : b < 64) : 0 ≤ bits .xor .i64 a b ∧ bits .xor .i64 a b < 64 ∧ bits .xor .i64 (bits .xor .i64 a b) b = a := by
  obtain ⟨x, rfl⟩ : ∃ x : Nat, a = x := ⟨a.toNat, by omega⟩
  obtain ⟨y, rfl⟩ : ∃ y : Nat, b = y := ⟨b.toNat, by omega⟩
  have hx : x < 64 := by omega
  have hy : y < 64 := by omega
  have hz := xor_lt64 hx hy
  rw [xor_nat x y hx hy, xor_nat (x ^^^ y) y hz hy]
  refine ⟨by omega, by omega, ?_⟩
  rw [Nat.xor_assoc, Nat.xor_self, Nat.xor_zero]
theorem doA_ok {m : Wk} (V : WV m) {s : Vs} (h : VsOk m s) {a : Int} (ha : a ∈ actsL m s) : VsOk m (doA m s a) := by
  obtain ⟨h1, h2, h3, h4⟩ := h
  have hp := pullA_set V s.1
  have hx := xor_set h3 h4 hp.1 hp.2
  unfold doA
  split
  · exact ⟨h1, h2, hx.1, hx.2.1⟩
  · rename_i hn
    rcases mem_actsL.1 ha with ⟨rfl, _⟩ | ha
    · omega
    · have := goL_node V ha
      exact ⟨this.1, this.2, h3, h4⟩
theorem nextW_ok {m : Wk} (V : WV m) {s : Vs} (h : VsOk m s) {t : Vs} (ht : t ∈ nextW m s) : VsOk m t := by
  obtain ⟨a, ha, rfl⟩ := List.mem_map.1 ht
  exact doA_ok V h ha
theorem nextW_len (m : Wk) (s : Vs) : (nextW m s).length ≤ 13 := by
  unfold nextW
  rw [List.length_map]
  exact actsL_len m s
/-- what the model reckons: the gates one by one -/
noncomputable def accS (m : Wk) (s : Vs) (k : Nat) : List Int := putAll ltI (pullL m s.1) ((m.gates.take k).flatMap (gto s))
theorem accS_zero (m : Wk) (s : Vs) : accS m s 0 = pullL m s.1 := by unfold accS; simp [putAll]
theorem putAll_append {lt : Int → Int → Bool} (l a b : List Int) : putAll lt l (a ++ b) = putAll lt (putAll lt l a) b := by unfold putAll; rw [List.foldl_append]
theorem accS_succ {m : Wk} {s : Vs} {k : Nat} (h : k < m.gates.length) : accS m s (k + 1) = putAll ltI (accS m s k) (gto s m.gates[k]) := by
  unfold accS
  rw [List.take_succ_eq_append_getElem h, List.flatMap_append, putAll_append]
  simp
theorem accS_end {m : Wk} (V : WV m) (s : Vs) : accS m s m.gates.length = actsL m s := by
  unfold accS
  rw [List.take_length]
  refine putAll_eq ordI (pullL_asc m s.1) (actsL_asc m s) fun x => ?_
  unfold actsL
  rw [List.mem_append, mem_goL V, List.mem_flatMap]
theorem accS_len (m : Wk) (s : Vs) (k : Nat) (hk : m.gates.length ≤ 30) : (accS m s k).length ≤ 61 := by
  unfold accS
  have h1 := len_putAll_le (lt := ltI) (pullL m s.1) ((m.gates.take k).flatMap (gto s))
  have h2 := pullL_len m s.1
  have h3 : ∀ l : List Gt, (l.flatMap (gto s)).length ≤ 2 * l.length := by
    intro l
    induction l with
    | nil => simp
    | cons g l ih =>
      rw [List.flatMap_cons, List.length_append, List.length_cons]
      have : (gto s g).length ≤ 2 := by unfold gto; split <;> (try split) <;> (try split) <;> simp
      omega
  have h4 := h3 (m.gates.take k)
  have h5 : (m.gates.take k).length ≤ 30 := by rw [List.length_take]; omega
  omega
theorem accS_asc (m : Wk) (s : Vs) (k : Nat) : Asc ltI (accS m s k) := (pullL_asc m s.1).putAll ordI _
/-- what the program reckons: a digit for each node -/
def stepI (s : Vs) (acc : Nat) (g : Gt) : Nat := if openG g s.2 then (if g.1 = s.1 then acc ||| 2 ^ g.2.1.toNat else if g.2.1 = s.1 then acc ||| 2 ^ g.1.toNat else acc) else acc
def accI (m : Wk) (s : Vs) (k : Nat) : Nat := (m.gates.take k).foldl (stepI s) 0
theorem accI_succ {m : Wk} {s : Vs} {k : Nat} (h : k < m.gates.length) : accI m s (k + 1) = stepI s (accI m s k) m.gates[k] := by
  unfold accI; rw [List.take_succ_eq_append_getElem h, List.foldl_append, List.foldl_cons, List.foldl_nil]
theorem digB_stepI {s : Vs} {acc : Nat} {g : Gt} (_h0 : 0 ≤ g.1) (h1 : g.1 < g.2.1) (p : Nat) : digB (stepI s acc g) p = true ↔ digB acc p = true ∨ (p : Int) ∈ gto s g := by
  rw [mem_gto]
  unfold stepI
  by_cases ho : openG g s.2 = true
  · rw [if_pos ho]
    split
    · rename_i h
      rw [digB_or, Bool.or_eq_true, digB_pow, decide_eq_true_iff]
      simp only [ho, true_and]
      constructor
      · rintro (h' | h'); exact .inl h'; exact .inr (.inl ⟨h, by omega⟩)
      · rintro (h' | h'); exact .inl h'; exact .inr (by omega)
    · split
      · rename_i h h'
        rw [digB_or, Bool.or_eq_true, digB_pow, decide_eq_true_iff]
        simp only [ho, true_and]
        constructor
        · rintro (h2 | h2); exact .inl h2; exact .inr (.inr ⟨h', by omega⟩)
        · rintro (h2 | h2); exact .inl h2; exact .inr (by omega)
      · rename_i h h'
        simp only [ho, true_and]
        constructor
        · exact .inl
        · rintro (h2 | h2); exact h2; omega
  · rw [if_neg ho]
    simp [ho]
theorem or12_lt {a b : Nat} (ha : a < 4096) (hb : b < 4096) : a ||| b < 4096 := by
  have h12 : (2 : Nat) ^ 12 = 4096 := rfl
  rw [← h12] at *
  exact Nat.or_lt_two_pow ha hb
theorem pow12_lt {p : Nat} (h : p < 12) : 2 ^ p < 4096 := by
  have h12 : (2 : Nat) ^ 12 = 4096 := rfl
  rw [← h12]
  exact Nat.pow_lt_pow_right (by decide) h
theorem stepI_lt {s : Vs} {acc : Nat} {g : Gt} (ha : acc < 4096) (_h0 : 0 ≤ g.1) (h1 : g.1 < g.2.1) (h2 : g.2.1 < 12) : stepI s acc g < 4096 := by
  unfold stepI
  split
  · split
    · exact or12_lt ha (pow12_lt (by omega))
    · split
      · exact or12_lt ha (pow12_lt (by omega))
      · exact ha
  · exact ha
theorem accI_lt {m : Wk} (V : WV m) (s : Vs) : ∀ k, k ≤ m.gates.length → accI m s k < 4096
  | 0, _ => by unfold accI; simp
  | k + 1, h => by
    have v12 := V.size12
    rw [accI_succ (by omega)]
    obtain ⟨a, b, c, _⟩ := V.gate k (by omega)
    exact stepI_lt (accI_lt V s k (by omega)) a b (by omega)
theorem digB_accI {m : Wk} (V : WV m) (s : Vs) (p : Nat) : ∀ k, k ≤ m.gates.length → (digB (accI m s k) p = true ↔ ∃ g ∈ m.gates.take k, (p : Int) ∈ gto s g)
  | 0, _ => by simp [accI, digB]
  | k + 1, h => by
    obtain ⟨a, b, c, _⟩ := V.gate k (by omega)
    rw [accI_succ (by omega), digB_stepI a b, digB_accI V s p k (by omega), List.take_succ_eq_append_getElem (by omega)]
    simp only [List.mem_append, List.mem_singleton]
    constructor
    · rintro (⟨g, h1, h2⟩ | h2)
      · exact ⟨g, .inl h1, h2⟩
      · exact ⟨_, .inr rfl, h2⟩
    · rintro ⟨g, h1 | h1, h2⟩
      · exact .inl ⟨g, h1, h2⟩
      · subst h1; exact .inr h2
theorem accI_end {m : Wk} (V : WV m) (s : Vs) : digsTo (accI m s m.gates.length) 12 = goL m s :=
  (digsTo_asc _ 12).ext ordI (goL_asc m s) fun x => by
    have v12 := V.size12
    rw [mem_digsTo, mem_goL V]
    constructor
    · rintro ⟨p, rfl, _, h⟩
      have := (digB_accI V s p _ (Nat.le_refl _)).1 h
      rwa [List.take_length] at this
    · rintro ⟨g, hg, hx⟩
      have := gto_node V hg hx
      have e : ((x.toNat : Nat) : Int) = x := by omega
      exact ⟨x.toNat, by omega, by omega, (digB_accI V s _ _ (Nat.le_refl _)).2 ⟨g, by rw [List.take_length]; exact hg, by rw [e]; exact hx⟩⟩
/-- each act can be undone -/
theorem gto_back {s : Vs} {g : Gt} {y : Int} (h : y ∈ gto s g) : s.1 ∈ gto (y, s.2) g := by
  obtain ⟨h1, h2⟩ := mem_gto.1 h
  refine mem_gto.2 ⟨h1, ?_⟩
  show g.1 = y ∧ g.2.1 = s.1 ∨ g.2.1 = y ∧ g.1 = s.1
  omega
theorem nextW_back {m : Wk} (V : WV m) {s t : Vs} (hs : VsOk m s) (h : t ∈ nextW m s) : s ∈ nextW m t := by
  obtain ⟨a, ha, rfl⟩ := List.mem_map.1 h
  obtain ⟨h1, h2, h3, h4⟩ := hs
  have hp := pullA_set V s.1
  have hx := xor_set h3 h4 hp.1 hp.2
  rcases mem_actsL.1 ha with ⟨rfl, hne⟩ | hg
  · refine List.mem_map.2 ⟨-1, mem_actsL.2 (.inl ⟨rfl, hne⟩), ?_⟩
    show ((s.1, bits .xor .i64 (bits .xor .i64 s.2 (pullA m s.1)) (pullA m s.1)) : Vs) = s
    rw [hx.2.2]
  · have hn := goL_node V hg
    have ed : doA m s a = (a, s.2) := if_neg (by omega)
    rw [ed]
    refine List.mem_map.2 ⟨s.1, mem_actsL.2 (.inr ?_), ?_⟩
    · obtain ⟨g, h5, h6⟩ := (mem_goL V).1 hg
      exact (mem_goL V).2 ⟨g, h5, gto_back h6⟩
    · show doA m (a, s.2) s.1 = s
      unfold doA
      rw [if_neg (by omega)]
end M
end Go.Proofs.Ytdgfceiobpnchaa
