/-
  MATHEMATICS of works, own to these proofs: gates and pulls as lists of numbers, when works are valid, the order of gates. No condition.
-/
import Derived.Test.YtdgfceiobpnchaaPutMath
namespace Go.Proofs.Ytdgfceiobpnchaa
open Go.RowKit
namespace M

/-- a gate: two nodes, a set of levers and a number -/
abbrev Gt := Int × Int × Int × Int
def encG (d : Gt) : List Value := [.int .i64 d.1, .int .i64 d.2.1, .int .i64 d.2.2.1, .int .i64 d.2.2.2]
def encGs (l : List Gt) : List Value := l.flatMap encG
structure Wk where
  size : Int
  gates : List Gt
  pulls : List Int

theorem encGs_len (l : List Gt) : (encGs l).length = l.length * 4 := by
  unfold encGs; induction l with
  | nil => rfl
  | cons d l ih => simp [encG, ih]; omega
theorem encGs_cons (d : Gt) (l : List Gt) : encGs (d :: l) = encG d ++ encGs l := by simp [encGs]
theorem encGs_append (a b : List Gt) : encGs (a ++ b) = encGs a ++ encGs b := by simp [encGs]
theorem encGs_take (l : List Gt) (k : Nat) : encGs (l.take k) = (encGs l).take (k * 4) := by
  induction l generalizing k with
  | nil => simp [encGs]
  | cons d l ih =>
    cases k with
    | zero => simp [encGs]
    | succ k =>
      rw [List.take_succ_cons, encGs_cons, encGs_cons, ih, show (k + 1) * 4 = k * 4 + 4 by omega, List.take_append]
      simp [encG]
theorem encGs_drop (l : List Gt) (k : Nat) : encGs (l.drop k) = (encGs l).drop (k * 4) := by
  induction l generalizing k with
  | nil => simp [encGs]
  | cons d l ih =>
    cases k with
    | zero => simp [encGs]
    | succ k =>
      rw [List.drop_succ_cons, encGs_cons, ih, show (k + 1) * 4 = 4 + k * 4 by omega, ← List.drop_drop]
      simp [encG]
theorem encGs_at {l : List Gt} {k : Nat} (h : k < l.length) (j : Nat) (hj : j < 4) : (encGs l)[k * 4 + j]? = (encG l[k])[j]? := by
  induction l generalizing k with
  | nil => simp at h
  | cons d l ih =>
    rw [encGs_cons]
    cases k with
    | zero =>
      rw [Nat.zero_mul, Nat.zero_add, List.getElem?_append_left (by simp [encG]; omega)]
      rfl
    | succ k =>
      rw [List.getElem?_append_right (by simp [encG]; omega)]
      have e : (k + 1) * 4 + j - (encG d).length = k * 4 + j := by simp [encG]; omega
      rw [e, ih (by simpa using h)]
      simp
theorem encGs_at0 {l : List Gt} {k : Nat} (h : k < l.length) : (encGs l)[k * 4]? = some (.int .i64 l[k].1) := encGs_at h 0 (by omega)
theorem encGs_at1 {l : List Gt} {k : Nat} (h : k < l.length) : (encGs l)[k * 4 + 1]? = some (.int .i64 l[k].2.1) := encGs_at h 1 (by omega)
theorem encGs_at2 {l : List Gt} {k : Nat} (h : k < l.length) : (encGs l)[k * 4 + 2]? = some (.int .i64 l[k].2.2.1) := encGs_at h 2 (by omega)
theorem encGs_at3 {l : List Gt} {k : Nat} (h : k < l.length) : (encGs l)[k * 4 + 3]? = some (.int .i64 l[k].2.2.2) := encGs_at h 3 (by omega)
theorem encGs_inj : ∀ {a b : List Gt}, encGs a = encGs b → a = b
  | [], [], _ => rfl
  | [], _ :: _, h => by simp [encGs, encG] at h
  | _ :: _, [], h => by simp [encGs, encG] at h
  | x :: a, y :: b, h => by
    rw [encGs_cons, encGs_cons] at h
    simp only [encG, List.cons_append, List.nil_append, List.cons.injEq, Value.int.injEq, true_and] at h
    obtain ⟨h1, h2, h3, h4, h5⟩ := h
    rw [encGs_inj h5]
    congr 1
    exact Prod.ext h1 (Prod.ext h2 (Prod.ext h3 h4))

-- which numbers are gates
def ltG (d e : Gt) : Bool := decide (d.1 < e.1 ∨ d.1 = e.1 ∧ (d.2.1 < e.2.1 ∨ d.2.1 = e.2.1 ∧ (d.2.2.1 < e.2.2.1 ∨ d.2.2.1 = e.2.2.1 ∧ d.2.2.2 < e.2.2.2)))
def gateB (n : Int) (g : Gt) : Bool := decide (0 ≤ g.1 ∧ g.1 < g.2.1 ∧ g.2.1 < n ∧ 0 ≤ g.2.2.1 ∧ g.2.2.1 < 64 ∧ 0 ≤ g.2.2.2 ∧ g.2.2.2 ≤ 1)
/-- the gates from a place on: each is one, and they ascend -/
def stepG (n : Int) (l : List Gt) (k : Nat) : Bool := decide (∃ h : k < l.length, gateB n l[k] = true ∧ (0 < k → ltG (l.getD (k - 1) default) l[k] = true))
def gatesB (n : Int) (l : List Gt) : Bool := (List.range l.length).all (stepG n l)
def sizeW (m : Wk) : Bool := decide (1 ≤ m.size ∧ m.size ≤ 12)
def shapeW (m : Wk) : Bool := decide (1 ≤ m.size ∧ m.size ≤ 12 ∧ m.gates.length ≤ 30 ∧ (m.pulls.length : Int) = m.size)
def worksB (m : Wk) : Bool := shapeW m && gatesB m.size m.gates && keysB m.pulls
theorem stepG_iff {n : Int} {l : List Gt} {k : Nat} (h : k < l.length) : stepG n l k = true ↔ gateB n l[k] = true ∧ (0 < k → ltG (l.getD (k - 1) default) l[k] = true) := by
  unfold stepG
  rw [decide_eq_true_iff]
  exact ⟨fun ⟨_, h⟩ => h, fun h' => ⟨h, h'⟩⟩
/-- what valid works are -/
structure WV (m : Wk) : Prop where
  size1 : 1 ≤ m.size
  size12 : m.size ≤ 12
  few : m.gates.length ≤ 30
  pullsLen : (m.pulls.length : Int) = m.size
  gate : ∀ k (h : k < m.gates.length), 0 ≤ m.gates[k].1 ∧ m.gates[k].1 < m.gates[k].2.1 ∧ m.gates[k].2.1 < m.size ∧ 0 ≤ m.gates[k].2.2.1 ∧ m.gates[k].2.2.1 < 64 ∧ 0 ≤ m.gates[k].2.2.2 ∧ m.gates[k].2.2.2 ≤ 1
  sorted : ∀ k (h : k + 1 < m.gates.length), ltG m.gates[k] m.gates[k + 1] = true
  pull : ∀ k (h : k < m.pulls.length), 0 ≤ m.pulls[k] ∧ m.pulls[k] < 64
theorem wv_of {m : Wk} (h : worksB m = true) : WV m := by
  unfold worksB at h
  rw [Bool.and_eq_true, Bool.and_eq_true] at h
  obtain ⟨⟨h1, h2⟩, h3⟩ := h
  unfold shapeW at h1
  rw [decide_eq_true_iff] at h1
  have hd := all_range_take.1 h2
  refine ⟨h1.1, h1.2.1, h1.2.2.1, h1.2.2.2, fun k hk => ?_, fun k hk => ?_, fun k hk => ?_⟩
  · have := ((stepG_iff hk).1 (hd k hk)).1
    unfold gateB at this
    exact decide_eq_true_iff.1 this
  · have := ((stepG_iff hk).1 (hd (k + 1) hk)).2 (by omega)
    rw [Nat.add_sub_cancel, List.getD_eq_getElem?_getD, List.getElem?_eq_getElem (by omega)] at this
    exact this
  · have := keysB_iff.1 h3 k hk
    unfold setB at this
    exact decide_eq_true_iff.1 this
theorem of_wv {m : Wk} (h : WV m) : worksB m = true := by
  unfold worksB
  rw [Bool.and_eq_true, Bool.and_eq_true]
  refine ⟨⟨?_, ?_⟩, ?_⟩
  · unfold shapeW
    exact decide_eq_true_iff.2 ⟨h.size1, h.size12, h.few, h.pullsLen⟩
  · refine all_range_take.2 fun k hk => (stepG_iff hk).2 ⟨?_, fun h0 => ?_⟩
    · unfold gateB
      exact decide_eq_true_iff.2 (h.gate k hk)
    · obtain ⟨j, rfl⟩ : ∃ j, k = j + 1 := ⟨k - 1, by omega⟩
      rw [Nat.add_sub_cancel, List.getD_eq_getElem?_getD, List.getElem?_eq_getElem (by omega)]
      exact h.sorted j hk
  · refine keysB_iff.2 fun k hk => ?_
    unfold setB
    exact decide_eq_true_iff.2 (h.pull k hk)
theorem ltG_irrefl (d : Gt) : ltG d d = false := by unfold ltG; simp
theorem ltG_trans {a b c : Gt} (h1 : ltG a b = true) (h2 : ltG b c = true) : ltG a c = true := by
  unfold ltG at *; simp only [decide_eq_true_eq] at *; omega
theorem ltG_tri {a b : Gt} (h1 : ltG a b = false) (h2 : ltG b a = false) : a = b := by
  obtain ⟨a1, a2, a3, a4⟩ := a
  obtain ⟨b1, b2, b3, b4⟩ := b
  unfold ltG at *; simp only [decide_eq_false_iff_not] at *
  have e1 : a1 = b1 := by omega
  have e2 : a2 = b2 := by omega
  have e3 : a3 = b3 := by omega
  have e4 : a4 = b4 := by omega
  rw [e1, e2, e3, e4]
theorem stepG_no1 {n : Int} {l : List Gt} {k : Nat} (h : k < l.length) (hd : gateB n l[k] = false) : gatesB n l = false := by
  refine all_range_no h ?_
  rw [Bool.eq_false_iff]
  intro hs
  have := ((stepG_iff h).1 hs).1
  rw [hd] at this
  cases this
theorem stepG_no2 {n : Int} {l : List Gt} {k : Nat} (h : k < l.length) (h0 : 0 < k) (hd : ltG (l.getD (k - 1) default) l[k] = false) : gatesB n l = false := by
  refine all_range_no h ?_
  rw [Bool.eq_false_iff]
  intro hs
  have := ((stepG_iff h).1 hs).2 h0
  rw [hd] at this
  cases this
theorem ordG : Ord ltG := ⟨ltG_irrefl, ltG_trans, ltG_tri⟩
theorem WV.asc {m : Wk} (h : WV m) : Asc ltG m.gates := asc_of_sorted ordG h.sorted
end M
end Go.Proofs.Ytdgfceiobpnchaa
