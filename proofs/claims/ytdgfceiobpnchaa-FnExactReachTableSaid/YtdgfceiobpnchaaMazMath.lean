/-
  MATHEMATICS of mazes, own to these proofs: doors and keys as lists of numbers, when a maze is valid, the order of doors. No condition.
-/
import Derived.WalkKit
namespace Go.Proofs.Ytdgfceiobpnchaa
open Go.RowKit
namespace M

/-- a door: two nodes and a need -/
abbrev Dr := Int × Int × Int
def encD (d : Dr) : List Value := [.int .i64 d.1, .int .i64 d.2.1, .int .i64 d.2.2]
def encDs (l : List Dr) : List Value := l.flatMap encD
def encIs (l : List Int) : List Value := l.map (Value.int .i64)
structure Mz where
  size : Int
  doors : List Dr
  keys : List Int

theorem encIs_len (l : List Int) : (encIs l).length = l.length := by simp [encIs]
theorem encIs_at {l : List Int} {k : Nat} (h : k < l.length) : (encIs l)[k]? = some (.int .i64 l[k]) := by
  unfold encIs; rw [List.getElem?_map, List.getElem?_eq_getElem h]; rfl
theorem encDs_len (l : List Dr) : (encDs l).length = l.length * 3 := by
  unfold encDs; induction l with
  | nil => rfl
  | cons d l ih => simp [encD, ih]; omega
theorem encDs_cons (d : Dr) (l : List Dr) : encDs (d :: l) = encD d ++ encDs l := by simp [encDs]
theorem encDs_append (a b : List Dr) : encDs (a ++ b) = encDs a ++ encDs b := by simp [encDs]
theorem encIs_append (a b : List Int) : encIs (a ++ b) = encIs a ++ encIs b := by simp [encIs]
theorem encDs_take (l : List Dr) (k : Nat) : encDs (l.take k) = (encDs l).take (k * 3) := by
  induction l generalizing k with
  | nil => simp [encDs]
  | cons d l ih =>
    cases k with
    | zero => simp [encDs]
    | succ k =>
      rw [List.take_succ_cons, encDs_cons, encDs_cons, ih, show (k + 1) * 3 = k * 3 + 3 by omega, List.take_append]
      simp [encD]
theorem encDs_drop (l : List Dr) (k : Nat) : encDs (l.drop k) = (encDs l).drop (k * 3) := by
  induction l generalizing k with
  | nil => simp [encDs]
  | cons d l ih =>
    cases k with
    | zero => simp [encDs]
    | succ k =>
      rw [List.drop_succ_cons, encDs_cons, ih, show (k + 1) * 3 = 3 + k * 3 by omega, ← List.drop_drop]
      simp [encD]
theorem encDs_at {l : List Dr} {k : Nat} (h : k < l.length) (j : Nat) (hj : j < 3) : (encDs l)[k * 3 + j]? = (encD l[k])[j]? := by
  induction l generalizing k with
  | nil => simp at h
  | cons d l ih =>
    rw [encDs_cons]
    cases k with
    | zero =>
      rw [Nat.zero_mul, Nat.zero_add, List.getElem?_append_left (by simp [encD]; omega)]
      rfl
    | succ k =>
      rw [List.getElem?_append_right (by simp [encD]; omega)]
      have e : (k + 1) * 3 + j - (encD d).length = k * 3 + j := by simp [encD]; omega
      rw [e, ih (by simpa using h)]
      simp
theorem encDs_at0 {l : List Dr} {k : Nat} (h : k < l.length) : (encDs l)[k * 3]? = some (.int .i64 l[k].1) := encDs_at h 0 (by omega)
theorem encDs_at1 {l : List Dr} {k : Nat} (h : k < l.length) : (encDs l)[k * 3 + 1]? = some (.int .i64 l[k].2.1) := encDs_at h 1 (by omega)
theorem encDs_at2 {l : List Dr} {k : Nat} (h : k < l.length) : (encDs l)[k * 3 + 2]? = some (.int .i64 l[k].2.2) := encDs_at h 2 (by omega)
theorem encDs_inj : ∀ {a b : List Dr}, encDs a = encDs b → a = b
  | [], [], _ => rfl
  | [], _ :: _, h => by simp [encDs, encD] at h
  | _ :: _, [], h => by simp [encDs, encD] at h
  | x :: a, y :: b, h => by
    rw [encDs_cons, encDs_cons] at h
    simp only [encD, List.cons_append, List.nil_append, List.cons.injEq, Value.int.injEq, true_and] at h
    obtain ⟨h1, h2, h3, h4⟩ := h
    rw [encDs_inj h4]
    congr 1
    exact Prod.ext h1 (Prod.ext h2 h3)

-- which numbers are nodes, sets, doors
def inB (x a b : Int) : Bool := decide (a ≤ x ∧ x ≤ b)
def setB (s : Int) : Bool := decide (0 ≤ s ∧ s < 64)
def nodeB (n x : Int) : Bool := decide (0 ≤ x ∧ x < n)
def ltD (d e : Dr) : Bool := decide (d.1 < e.1 ∨ d.1 = e.1 ∧ (d.2.1 < e.2.1 ∨ d.2.1 = e.2.1 ∧ d.2.2 < e.2.2))
def doorB (n : Int) (d : Dr) : Bool := decide (0 ≤ d.1 ∧ d.1 < n ∧ 0 ≤ d.2.1 ∧ d.2.1 < n ∧ d.1 < d.2.1 ∧ 0 ≤ d.2.2 ∧ d.2.2 < 64)
def keysB (l : List Int) : Bool := l.all setB
/-- the doors from a place on: each is one, and they ascend -/
def stepB (n : Int) (l : List Dr) (k : Nat) : Bool := decide (∃ h : k < l.length, doorB n l[k] = true ∧ (0 < k → ltD (l.getD (k - 1) default) l[k] = true))
def doorsB (n : Int) (l : List Dr) : Bool := (List.range l.length).all (stepB n l)
def sizeB (m : Mz) : Bool := decide (1 ≤ m.size ∧ m.size ≤ 12)
def shapeB (m : Mz) : Bool := decide (1 ≤ m.size ∧ m.size ≤ 12 ∧ m.doors.length ≤ 30 ∧ (m.keys.length : Int) = m.size)
def mazeB (m : Mz) : Bool := shapeB m && doorsB m.size m.doors && keysB m.keys

theorem stepB_iff {n : Int} {l : List Dr} {k : Nat} (h : k < l.length) : stepB n l k = true ↔ doorB n l[k] = true ∧ (0 < k → ltD (l.getD (k - 1) default) l[k] = true) := by
  unfold stepB
  rw [decide_eq_true_iff]
  exact ⟨fun ⟨_, h⟩ => h, fun h' => ⟨h, h'⟩⟩
theorem all_range_take {n : Nat} {f : Nat → Bool} : (List.range n).all f = true ↔ ∀ k, k < n → f k = true := by
  rw [List.all_eq_true]
  simp
theorem all_range_no {n k : Nat} {f : Nat → Bool} (hk : k < n) (hf : f k = false) : (List.range n).all f = false := by
  rw [Bool.eq_false_iff]
  intro h
  have := all_range_take.1 h k hk
  rw [hf] at this
  cases this
theorem keysB_iff {l : List Int} : keysB l = true ↔ ∀ k (h : k < l.length), setB l[k] = true := by
  unfold keysB
  rw [List.all_eq_true]
  constructor
  · exact fun h k hk => h _ (List.getElem_mem hk)
  · intro h x hx
    obtain ⟨k, hk, rfl⟩ := List.mem_iff_getElem.1 hx
    exact h k hk
theorem keysB_no {l : List Int} {k : Nat} (h : k < l.length) (hf : setB l[k] = false) : keysB l = false := by
  rw [Bool.eq_false_iff]
  intro h'
  have := keysB_iff.1 h' k h
  rw [hf] at this
  cases this

/-- what a valid maze is -/
structure Valid (m : Mz) : Prop where
  size1 : 1 ≤ m.size
  size12 : m.size ≤ 12
  few : m.doors.length ≤ 30
  keysLen : (m.keys.length : Int) = m.size
  door : ∀ k (h : k < m.doors.length), 0 ≤ m.doors[k].1 ∧ m.doors[k].1 < m.size ∧ 0 ≤ m.doors[k].2.1 ∧ m.doors[k].2.1 < m.size ∧ m.doors[k].1 < m.doors[k].2.1 ∧ 0 ≤ m.doors[k].2.2 ∧ m.doors[k].2.2 < 64
  sorted : ∀ k (h : k + 1 < m.doors.length), ltD m.doors[k] m.doors[k + 1] = true
  key : ∀ k (h : k < m.keys.length), 0 ≤ m.keys[k] ∧ m.keys[k] < 64

theorem valid_of {m : Mz} (h : mazeB m = true) : Valid m := by
  unfold mazeB at h
  rw [Bool.and_eq_true, Bool.and_eq_true] at h
  obtain ⟨⟨h1, h2⟩, h3⟩ := h
  unfold shapeB at h1
  rw [decide_eq_true_iff] at h1
  have hd := all_range_take.1 h2
  refine ⟨h1.1, h1.2.1, h1.2.2.1, h1.2.2.2, fun k hk => ?_, fun k hk => ?_, fun k hk => ?_⟩
  · have := ((stepB_iff hk).1 (hd k hk)).1
    unfold doorB at this
    exact decide_eq_true_iff.1 this
  · have := ((stepB_iff hk).1 (hd (k + 1) hk)).2 (by omega)
    rw [Nat.add_sub_cancel, List.getD_eq_getElem?_getD, List.getElem?_eq_getElem (by omega)] at this
    exact this
  · have := keysB_iff.1 h3 k hk
    unfold setB at this
    exact decide_eq_true_iff.1 this
theorem of_valid {m : Mz} (h : Valid m) : mazeB m = true := by
  unfold mazeB
  rw [Bool.and_eq_true, Bool.and_eq_true]
  refine ⟨⟨?_, ?_⟩, ?_⟩
  · unfold shapeB
    exact decide_eq_true_iff.2 ⟨h.size1, h.size12, h.few, h.keysLen⟩
  · refine all_range_take.2 fun k hk => (stepB_iff hk).2 ⟨?_, fun h0 => ?_⟩
    · unfold doorB
      exact decide_eq_true_iff.2 (h.door k hk)
    · obtain ⟨j, rfl⟩ : ∃ j, k = j + 1 := ⟨k - 1, by omega⟩
      rw [Nat.add_sub_cancel, List.getD_eq_getElem?_getD, List.getElem?_eq_getElem (by omega)]
      exact h.sorted j hk
  · refine keysB_iff.2 fun k hk => ?_
    unfold setB
    exact decide_eq_true_iff.2 (h.key k hk)

theorem ltD_irrefl (d : Dr) : ltD d d = false := by unfold ltD; simp
theorem ltD_trans {a b c : Dr} (h1 : ltD a b = true) (h2 : ltD b c = true) : ltD a c = true := by
  unfold ltD at *; simp only [decide_eq_true_eq] at *; omega
theorem ltD_tri {a b : Dr} (h1 : ltD a b = false) (h2 : ltD b a = false) : a = b := by
  obtain ⟨a1, a2, a3⟩ := a
  obtain ⟨b1, b2, b3⟩ := b
  unfold ltD at *; simp only [decide_eq_false_iff_not] at *
  have e1 : a1 = b1 := by omega
  have e2 : a2 = b2 := by omega
  have e3 : a3 = b3 := by omega
  rw [e1, e2, e3]
end M
end Go.Proofs.Ytdgfceiobpnchaa
