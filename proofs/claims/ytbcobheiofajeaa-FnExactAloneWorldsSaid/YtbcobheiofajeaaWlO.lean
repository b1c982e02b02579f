/-
  WORLDS in memory: a slice of mazes and a slice of slices of numbers; how worlds that came in read. No condition of its own.
-/
import Derived.Test.YtbcobheiofajeaaWAMem
import Derived.Test.YtbcobheiofajeaaWldM
import Derived.Test.YtbcobheiofajeaaWCOwnMaz2
namespace Go.Proofs.Ytbcobheiofajeaa
open Go.ChangeShapes Go.WideShapes Go.ChangeAt Go.RowKit
open Go.ChangeMaps (open_string shut_string)
namespace C
/-- a maze and its slices' places and rooms; a list of owners and its slice's place and room -/
abbrev Rm := M.Mz × Option Addr × Nat × Option Addr × Nat
abbrev Ro := List Int × Option Addr × Nat
def encM1 (p : Rm) : List Value := [.int .i64 p.1.size, .slice p.2.1 p.1.doors.length p.2.2.1, .slice p.2.2.2.1 p.1.keys.length p.2.2.2.2]
def encMs (L : List Rm) : List Value := L.flatMap encM1
def encO1 (o : Ro) : Value := .slice o.2.1 o.1.length o.2.2
def encOs (O : List Ro) : List Value := O.map encO1
theorem encMs_len (L : List Rm) : (encMs L).length = L.length * 3 := by
  unfold encMs; induction L with
  | nil => rfl
  | cons d l ih => simp [encM1, ih]; omega
theorem encMs_cons (p : Rm) (L : List Rm) : encMs (p :: L) = encM1 p ++ encMs L := by simp [encMs]
theorem encMs_append (a b : List Rm) : encMs (a ++ b) = encMs a ++ encMs b := by simp [encMs]
theorem encMs_one (p : Rm) : encMs [p] = encM1 p := by simp [encMs]
theorem encMs_at {L : List Rm} {k : Nat} (h : k < L.length) (j : Nat) (hj : j < 3) : (encMs L)[k * 3 + j]? = (encM1 L[k])[j]? := by
  induction L generalizing k with
  | nil => simp at h
  | cons d l ih =>
    rw [encMs_cons]
    cases k with
    | zero =>
      rw [Nat.zero_mul, Nat.zero_add, List.getElem?_append_left (by simp [encM1]; omega)]
      rfl
    | succ k =>
      rw [List.getElem?_append_right (by simp [encM1]; omega)]
      have e : (k + 1) * 3 + j - (encM1 d).length = k * 3 + j := by simp [encM1]; omega
      rw [e, ih (by simpa using h)]
      simp
theorem encMs_at0 {L : List Rm} {k : Nat} (h : k < L.length) : (encMs L)[k * 3]? = some (.int .i64 L[k].1.size) := encMs_at h 0 (by omega)
theorem encMs_at1 {L : List Rm} {k : Nat} (h : k < L.length) : (encMs L)[k * 3 + 1]? = some (.slice L[k].2.1 L[k].1.doors.length L[k].2.2.1) := encMs_at h 1 (by omega)
theorem encMs_at2 {L : List Rm} {k : Nat} (h : k < L.length) : (encMs L)[k * 3 + 2]? = some (.slice L[k].2.2.2.1 L[k].1.keys.length L[k].2.2.2.2) := encMs_at h 2 (by omega)
theorem encOs_len (O : List Ro) : (encOs O).length = O.length := by simp [encOs]
theorem encOs_at {O : List Ro} {k : Nat} (h : k < O.length) : (encOs O)[k]? = some (.slice O[k].2.1 O[k].1.length O[k].2.2) := by
  unfold encOs; rw [List.getElem?_map, List.getElem?_eq_getElem h]; rfl
theorem encOs_append (a b : List Ro) : encOs (a ++ b) = encOs a ++ encOs b := by simp [encOs]
abbrev MzR (lo hi : Nat) (w : World) (p : Rm) : Prop := MzIn lo hi w p.1 p.2.1 p.2.2.1 p.2.2.2.1 p.2.2.2.2
abbrev MzW (lo hi : Nat) (w : World) (p : Rm) : Prop := MzOwn lo hi w p.1 p.2.1 p.2.2.1 p.2.2.2.1 p.2.2.2.2
structure OwR (lo hi : Nat) (w : World) (o : Ro) : Prop where
  row : RowIn lo hi w o.2.1 (M.encIs o.1)
  c1 : o.1.length ≤ o.2.2
  c2 : o.2.2 ≤ 9223372036854775807
structure OwW (lo hi : Nat) (w : World) (o : Ro) : Prop where
  row : OwnAt lo hi w 3 o.2.1 (M.encIs o.1)
  c1 : o.1.length ≤ o.2.2
  c2 : o.2.2 ≤ 9223372036854775807
/-- worlds in memory, with all their rows named -/
structure WlRow (lo hi : Nat) (w : World) (m : M.Wl) (a : Option Addr) (b : Option Addr) (L : List Rm) (O : List Ro) : Prop where
  ms : m.mazes = L.map (·.1)
  os : m.owners = O.map (·.1)
  mazes : RowIn lo hi w a (encMs L)
  owners : RowIn lo hi w b (encOs O)
  maze : ∀ p ∈ L, MzR lo hi w p
  owner : ∀ o ∈ O, OwR lo hi w o
structure WlIn (lo hi : Nat) (w : World) (m : M.Wl) (a : Option Addr) (c : Nat) (b : Option Addr) (d : Nat) : Prop where
  rows : ∃ L O, WlRow lo hi w m a b L O
  c1 : m.mazes.length ≤ c
  c2 : c ≤ 9223372036854775807
  d1 : m.owners.length ≤ d
  d2 : d ≤ 9223372036854775807
/-- two ranges that share no block -/
def Off (x y : Nat × Nat) : Prop := x.2 ≤ y.1 ∨ y.2 ≤ x.1
theorem Off.symm {x y : Nat × Nat} (h : Off x y) : Off y x := Or.symm h
/-- mazes and lists of owners that may be written, each in a range of its own -/
structure WsW (lo hi : Nat) (w : World) (L : List Rm) (O : List Ro) (RM RO : Nat → Nat × Nat) : Prop where
  maze : ∀ (i : Nat) (p : Rm), L[i]? = some p → MzW (RM i).1 (RM i).2 w p ∧ lo ≤ (RM i).1 ∧ (RM i).2 ≤ hi
  owner : ∀ (i : Nat) (o : Ro), O[i]? = some o → OwW (RO i).1 (RO i).2 w o ∧ lo ≤ (RO i).1 ∧ (RO i).2 ≤ hi
  offM : ∀ i j, i < L.length → j < L.length → i ≠ j → Off (RM i) (RM j)
  offO : ∀ i j, i < O.length → j < O.length → i ≠ j → Off (RO i) (RO j)
  off : ∀ i j, i < L.length → j < O.length → Off (RM i) (RO j)
structure WlRowW (lo hi : Nat) (w : World) (m : M.Wl) (a : Option Addr) (b : Option Addr) (L : List Rm) (O : List Ro) (RM RO : Nat → Nat × Nat) : Prop where
  ms : m.mazes = L.map (·.1)
  os : m.owners = O.map (·.1)
  mazes : OwnAt lo hi w 55 a (encMs L)
  owners : OwnAt lo hi w 39 b (encOs O)
  ws : WsW lo hi w L O RM RO
structure WlOwn (lo hi : Nat) (w : World) (m : M.Wl) (a : Option Addr) (c : Nat) (b : Option Addr) (d : Nat) : Prop where
  rows : ∃ L O RM RO, WlRowW lo hi w m a b L O RM RO
  c1 : m.mazes.length ≤ c
  c2 : c ≤ 9223372036854775807
  d1 : m.owners.length ≤ d
  d2 : d ≤ 9223372036854775807
section
variable {lo hi lo' hi' : Nat} {w w' : World} {m : M.Wl} {a b : Option Addr} {c d : Nat} {L : List Rm} {O : List Ro} {RM RO : Nat → Nat × Nat}
theorem OwR.turned {o : Ro} (h : OwR lo hi w o) (t : Turned lo' hi' w w') (hz : hi ≤ w.heap.size) (hd : hi ≤ lo' ∨ hi' ≤ lo) : OwR lo hi w' o := ⟨h.row.turned t hz hd, h.c1, h.c2⟩
theorem OwW.turned {o : Ro} (h : OwW lo hi w o) (t : Turned lo' hi' w w') (hz : hi ≤ w.heap.size) (hd : hi ≤ lo' ∨ hi' ≤ lo) : OwW lo hi w' o := ⟨h.row.turned t hz hd, h.c1, h.c2⟩
theorem WlRow.turned (h : WlRow lo hi w m a b L O) (t : Turned lo' hi' w w') (hz : hi ≤ w.heap.size) (hd : hi ≤ lo' ∨ hi' ≤ lo) : WlRow lo hi w' m a b L O :=
  ⟨h.ms, h.os, h.mazes.turned t hz hd, h.owners.turned t hz hd, fun p hp => (h.maze p hp).turned t hz hd, fun o ho => (h.owner o ho).turned t hz hd⟩
theorem WlRow.below (h : WlRow lo hi w m a b L O) (t : Below w.heap.size w w') (hz : hi ≤ w.heap.size) : WlRow lo hi w' m a b L O := h.turned (Turned.of_below t hi hi) hz (.inl (Nat.le_refl _))
theorem WlRow.mono (h : WlRow lo hi w m a b L O) (h1 : lo' ≤ lo) (h2 : hi ≤ hi') : WlRow lo' hi' w m a b L O :=
  ⟨h.ms, h.os, h.mazes.mono h1 h2, h.owners.mono h1 h2, fun p hp => (h.maze p hp).mono h1 h2, fun o ho => ⟨(h.owner o ho).row.mono h1 h2, (h.owner o ho).c1, (h.owner o ho).c2⟩⟩
theorem WlIn.turned (h : WlIn lo hi w m a c b d) (t : Turned lo' hi' w w') (hz : hi ≤ w.heap.size) (hd : hi ≤ lo' ∨ hi' ≤ lo) : WlIn lo hi w' m a c b d := by
  obtain ⟨⟨L, O, r⟩, h1, h2, h3, h4⟩ := h
  exact ⟨⟨L, O, r.turned t hz hd⟩, h1, h2, h3, h4⟩
theorem WlIn.below (h : WlIn lo hi w m a c b d) (t : Below w.heap.size w w') (hz : hi ≤ w.heap.size) : WlIn lo hi w' m a c b d := h.turned (Turned.of_below t hi hi) hz (.inl (Nat.le_refl _))
theorem WlIn.mono (h : WlIn lo hi w m a c b d) (h1 : lo' ≤ lo) (h2 : hi ≤ hi') : WlIn lo' hi' w m a c b d := by
  obtain ⟨⟨L, O, r⟩, q1, q2, q3, q4⟩ := h
  exact ⟨⟨L, O, r.mono h1 h2⟩, q1, q2, q3, q4⟩
theorem WsW.turned (h : WsW lo hi w L O RM RO) (t : Turned lo' hi' w w') (hz : hi ≤ w.heap.size) (hd : hi ≤ lo' ∨ hi' ≤ lo) : WsW lo hi w' L O RM RO :=
  ⟨fun i p hp => by
    obtain ⟨h1, h2, h3⟩ := h.maze i p hp
    exact ⟨h1.turned t (by omega) (by omega), h2, h3⟩, fun i o ho => by
    obtain ⟨h1, h2, h3⟩ := h.owner i o ho
    exact ⟨h1.turned t (by omega) (by omega), h2, h3⟩, h.offM, h.offO, h.off⟩
theorem WsW.below (h : WsW lo hi w L O RM RO) (t : Below w.heap.size w w') (hz : hi ≤ w.heap.size) : WsW lo hi w' L O RM RO := h.turned (Turned.of_below t hi hi) hz (.inl (Nat.le_refl _))
theorem WsW.mono (h : WsW lo hi w L O RM RO) (h1 : lo' ≤ lo) (h2 : hi ≤ hi') : WsW lo' hi' w L O RM RO :=
  ⟨fun i p hp => by
    obtain ⟨q1, q2, q3⟩ := h.maze i p hp
    exact ⟨q1, by omega, by omega⟩, fun i o ho => by
    obtain ⟨q1, q2, q3⟩ := h.owner i o ho
    exact ⟨q1, by omega, by omega⟩, h.offM, h.offO, h.off⟩
theorem WsW.nil (lo hi : Nat) (w : World) (RM RO : Nat → Nat × Nat) : WsW lo hi w [] [] RM RO := ⟨fun i p h => (by simp at h), fun i o h => (by simp at h), fun i j h => absurd h (Nat.not_lt_zero _), fun i j h => absurd h (Nat.not_lt_zero _), fun i j h => absurd h (Nat.not_lt_zero _)⟩
theorem snoc_at {α : Type} {l : List α} {x y : α} {i : Nat} (h : (l ++ [x])[i]? = some y) : (i < l.length ∧ l[i]? = some y) ∨ (i = l.length ∧ y = x) := by
  rcases Nat.lt_or_ge i l.length with hi | hi
  · rw [List.getElem?_append_left hi] at h
    exact .inl ⟨hi, h⟩
  · have e : i = l.length := by
      have := (List.getElem?_eq_some_iff.1 h).1
      rw [List.length_append, List.length_singleton] at this
      omega
    subst e
    rw [List.getElem?_append_right (Nat.le_refl _), Nat.sub_self] at h
    simp at h
    exact .inr ⟨rfl, h.symm⟩
/-- one maze more, behind all that is there -/
theorem WsW.pushM (h : WsW lo hi w L O RM RO) {p : Rm} {l' h' : Nat} (hp : MzW l' h' w p) (h1 : hi ≤ l') (h0 : lo ≤ l') (h2 : h' ≤ hi') (h3 : hi ≤ hi') : WsW lo hi' w (L ++ [p]) O (fun i => if i = L.length then (l', h') else RM i) RO := by
  have hM : ∀ i, i < L.length → (RM i).2 ≤ hi := fun i hi' => (h.maze i _ (List.getElem?_eq_getElem hi')).2.2
  have hO : ∀ i, i < O.length → (RO i).2 ≤ hi := fun i hi' => (h.owner i _ (List.getElem?_eq_getElem hi')).2.2
  refine ⟨fun i q hq => ?_, fun i o ho => by
    obtain ⟨q1, q2, q3⟩ := h.owner i o ho
    exact ⟨q1, q2, by omega⟩, fun i j hi2 hj2 hne => ?_, h.offO, fun i j hi2 hj2 => ?_⟩
  · rcases snoc_at hq with ⟨hi2, hq2⟩ | ⟨rfl, rfl⟩
    · obtain ⟨q1, q2, q3⟩ := h.maze i q hq2
      show MzW (if i = L.length then (l', h') else RM i).1 (if i = L.length then (l', h') else RM i).2 w q ∧ lo ≤ (if i = L.length then (l', h') else RM i).1 ∧ (if i = L.length then (l', h') else RM i).2 ≤ hi'
      rw [if_neg (by omega)]
      exact ⟨q1, q2, by omega⟩
    · show MzW (if L.length = L.length then (l', h') else RM L.length).1 (if L.length = L.length then (l', h') else RM L.length).2 w q ∧ lo ≤ (if L.length = L.length then (l', h') else RM L.length).1 ∧ (if L.length = L.length then (l', h') else RM L.length).2 ≤ hi'
      rw [if_pos rfl]
      exact ⟨hp, h0, h2⟩
  · rw [List.length_append, List.length_singleton] at hi2 hj2
    show Off (if i = L.length then (l', h') else RM i) (if j = L.length then (l', h') else RM j)
    by_cases e1 : i = L.length <;> by_cases e2 : j = L.length
    · omega
    · rw [if_pos e1, if_neg e2]
      have := hM j (by omega)
      exact .inr (by show (RM j).2 ≤ l'; omega)
    · rw [if_neg e1, if_pos e2]
      have := hM i (by omega)
      exact .inl (by show (RM i).2 ≤ l'; omega)
    · rw [if_neg e1, if_neg e2]
      exact h.offM i j (by omega) (by omega) hne
  · rw [List.length_append, List.length_singleton] at hi2
    show Off (if i = L.length then (l', h') else RM i) (RO j)
    by_cases e1 : i = L.length
    · rw [if_pos e1]
      have := hO j hj2
      exact .inr (by show (RO j).2 ≤ l'; omega)
    · rw [if_neg e1]
      exact h.off i j (by omega) hj2
/-- one list of owners more, behind all that is there -/
theorem WsW.pushO (h : WsW lo hi w L O RM RO) {p : Ro} {l' h' : Nat} (hp : OwW l' h' w p) (h1 : hi ≤ l') (h0 : lo ≤ l') (h2 : h' ≤ hi') (h3 : hi ≤ hi') : WsW lo hi' w L (O ++ [p]) RM (fun i => if i = O.length then (l', h') else RO i) := by
  have hM : ∀ i, i < L.length → (RM i).2 ≤ hi := fun i hi' => (h.maze i _ (List.getElem?_eq_getElem hi')).2.2
  have hO : ∀ i, i < O.length → (RO i).2 ≤ hi := fun i hi' => (h.owner i _ (List.getElem?_eq_getElem hi')).2.2
  refine ⟨fun i o ho => by
    obtain ⟨q1, q2, q3⟩ := h.maze i o ho
    exact ⟨q1, q2, by omega⟩, fun i q hq => ?_, h.offM, fun i j hi2 hj2 hne => ?_, fun i j hi2 hj2 => ?_⟩
  · rcases snoc_at hq with ⟨hi2, hq2⟩ | ⟨rfl, rfl⟩
    · obtain ⟨q1, q2, q3⟩ := h.owner i q hq2
      show OwW (if i = O.length then (l', h') else RO i).1 (if i = O.length then (l', h') else RO i).2 w q ∧ lo ≤ (if i = O.length then (l', h') else RO i).1 ∧ (if i = O.length then (l', h') else RO i).2 ≤ hi'
      rw [if_neg (by omega)]
      exact ⟨q1, q2, by omega⟩
    · show OwW (if O.length = O.length then (l', h') else RO O.length).1 (if O.length = O.length then (l', h') else RO O.length).2 w q ∧ lo ≤ (if O.length = O.length then (l', h') else RO O.length).1 ∧ (if O.length = O.length then (l', h') else RO O.length).2 ≤ hi'
      rw [if_pos rfl]
      exact ⟨hp, h0, h2⟩
  · rw [List.length_append, List.length_singleton] at hi2 hj2
    show Off (if i = O.length then (l', h') else RO i) (if j = O.length then (l', h') else RO j)
    by_cases e1 : i = O.length <;> by_cases e2 : j = O.length
    · omega
    · rw [if_pos e1, if_neg e2]
      have := hO j (by omega)
      exact .inr (by show (RO j).2 ≤ l'; omega)
    · rw [if_neg e1, if_pos e2]
      have := hO i (by omega)
      exact .inl (by show (RO i).2 ≤ l'; omega)
    · rw [if_neg e1, if_neg e2]
      exact h.offO i j (by omega) (by omega) hne
  · rw [List.length_append, List.length_singleton] at hj2
    show Off (RM i) (if j = O.length then (l', h') else RO j)
    by_cases e1 : j = O.length
    · rw [if_pos e1]
      have := hM i hi2
      exact .inl (by show (RM i).2 ≤ l'; omega)
    · rw [if_neg e1]
      exact h.off i j hi2 (by omega)
theorem WsW.join {lo1 hi1 : Nat} (h : WsW lo hi w L [] RM RO) {RM' : Nat → Nat × Nat} {RO' : Nat → Nat × Nat} (h' : WsW lo1 hi1 w [] O RM' RO') (hd : hi ≤ lo1 ∨ hi1 ≤ lo) (hl1 : lo' ≤ lo) (hl2 : lo' ≤ lo1) (hh1 : hi ≤ hi') (hh2 : hi1 ≤ hi') : WsW lo' hi' w L O RM RO' :=
  ⟨fun i p hp => by
    obtain ⟨q1, q2, q3⟩ := h.maze i p hp
    exact ⟨q1, by omega, by omega⟩, fun i o ho => by
    obtain ⟨q1, q2, q3⟩ := h'.owner i o ho
    exact ⟨q1, by omega, by omega⟩, h.offM, h'.offO, fun i j hi2 hj2 => by
    have q := (h.maze i _ (List.getElem?_eq_getElem hi2)).2
    have q' := (h'.owner j _ (List.getElem?_eq_getElem hj2)).2
    show (RM i).2 ≤ (RO' j).1 ∨ (RO' j).2 ≤ (RM i).1
    omega⟩
theorem WlRowW.turned (h : WlRowW lo hi w m a b L O RM RO) (t : Turned lo' hi' w w') (hz : hi ≤ w.heap.size) (hd : hi ≤ lo' ∨ hi' ≤ lo) : WlRowW lo hi w' m a b L O RM RO :=
  ⟨h.ms, h.os, h.mazes.turned t hz hd, h.owners.turned t hz hd, h.ws.turned t hz hd⟩
theorem WlRowW.mono (h : WlRowW lo hi w m a b L O RM RO) (h1 : lo' ≤ lo) (h2 : hi ≤ hi') : WlRowW lo' hi' w m a b L O RM RO :=
  ⟨h.ms, h.os, h.mazes.mono h1 h2, h.owners.mono h1 h2, h.ws.mono h1 h2⟩
theorem WlRowW.row (h : WlRowW lo hi w m a b L O RM RO) : WlRow lo hi w m a b L O :=
  ⟨h.ms, h.os, h.mazes.row, h.owners.row, fun p hp => by
    obtain ⟨i, hi', rfl⟩ := List.mem_iff_getElem.1 hp
    obtain ⟨q1, q2, q3⟩ := h.ws.maze i _ (List.getElem?_eq_getElem hi')
    exact q1.mz.mono q2 q3, fun o ho => by
    obtain ⟨i, hi', rfl⟩ := List.mem_iff_getElem.1 ho
    obtain ⟨q1, q2, q3⟩ := h.ws.owner i _ (List.getElem?_eq_getElem hi')
    exact ⟨q1.row.row.mono q2 q3, q1.c1, q1.c2⟩⟩
theorem WlOwn.turned (h : WlOwn lo hi w m a c b d) (t : Turned lo' hi' w w') (hz : hi ≤ w.heap.size) (hd : hi ≤ lo' ∨ hi' ≤ lo) : WlOwn lo hi w' m a c b d := by
  obtain ⟨⟨L, O, RM, RO, r⟩, q1, q2, q3, q4⟩ := h
  exact ⟨⟨L, O, RM, RO, r.turned t hz hd⟩, q1, q2, q3, q4⟩
theorem WlOwn.below (h : WlOwn lo hi w m a c b d) (t : Below w.heap.size w w') (hz : hi ≤ w.heap.size) : WlOwn lo hi w' m a c b d := h.turned (Turned.of_below t hi hi) hz (.inl (Nat.le_refl _))
theorem WlOwn.mono (h : WlOwn lo hi w m a c b d) (h1 : lo' ≤ lo) (h2 : hi ≤ hi') : WlOwn lo' hi' w m a c b d := by
  obtain ⟨⟨L, O, RM, RO, r⟩, q1, q2, q3, q4⟩ := h
  exact ⟨⟨L, O, RM, RO, r.mono h1 h2⟩, q1, q2, q3, q4⟩
theorem WlOwn.mz (h : WlOwn lo hi w m a c b d) : WlIn lo hi w m a c b d := by
  obtain ⟨⟨L, O, RM, RO, r⟩, q1, q2, q3, q4⟩ := h
  exact ⟨⟨L, O, r.row⟩, q1, q2, q3, q4⟩
theorem WlRow.lenM (h : WlRow lo hi w m a b L O) : L.length = m.mazes.length := by rw [h.ms, List.length_map]
theorem WlRow.lenO (h : WlRow lo hi w m a b L O) : O.length = m.owners.length := by rw [h.os, List.length_map]
theorem WlRow.wm (h : WlRow lo hi w m a b L O) {i : Nat} (hi' : i < L.length) : M.wm m i = L[i].1 := by
  unfold M.wm
  rw [h.ms, List.getD_eq_getElem?_getD, List.getElem?_map, List.getElem?_eq_getElem hi']
  rfl
theorem WlRow.wo (h : WlRow lo hi w m a b L O) {i : Nat} (hi' : i < O.length) : M.wo m i = O[i].1 := by
  unfold M.wo
  rw [h.os, List.getD_eq_getElem?_getD, List.getElem?_map, List.getElem?_eq_getElem hi']
  rfl
end
noncomputable def wl0 : M.Wl := ⟨[], []⟩
theorem WlOwn.zero (lo hi : Nat) (w : World) : WlOwn lo hi w wl0 none 0 none 0 :=
  ⟨⟨[], [], fun _ => (0, 0), fun _ => (0, 0), rfl, rfl, OwnAt.nil _ _ _ _ _, OwnAt.nil _ _ _ _ _, WsW.nil _ _ _ _ _⟩, Nat.le_refl _, by omega, Nat.le_refl _, by omega⟩
section
variable {H : Type} {enc : TypeId × Value → H} {w : World} {B : Nat} {sp : Nat → Bool} {hd : Bool}
set_option maxRecDepth 4000 in
theorem slice_form_ds {fuel : Nat} {v : Value} {x : DataW H × List MemPlace} (h1 : DataW.trod enc Try.prog w B sp hd fuel 49 [v] = some x) : ∃ a l c, v = .slice a l c := by
  rcases Go.Deep.open_slice Try.underlying49 h1 with ⟨hcs, _⟩ | ⟨x, l, c, m, n, D, Pl, hcs, _⟩
  · exact ⟨_, _, _, by simpa using hcs⟩
  · exact ⟨_, _, _, by simpa using hcs⟩
set_option maxRecDepth 4000 in
theorem slice_form_is {fuel : Nat} {v : Value} {x : DataW H × List MemPlace} (h1 : DataW.trod enc Try.prog w B sp hd fuel 39 [v] = some x) : ∃ a l c, v = .slice a l c := by
  rcases Go.Deep.open_slice Try.underlying39 h1 with ⟨hcs, _⟩ | ⟨x, l, c, m, n, D, Pl, hcs, _⟩
  · exact ⟨_, _, _, by simpa using hcs⟩
  · exact ⟨_, _, _, by simpa using hcs⟩
set_option maxRecDepth 4000 in
theorem maze_cells {fuel : Nat} {cs : List Value} {x : DataW H × List MemPlace} (hl3 : cs.length = 3) (hf : DataW.trod enc Try.prog w B sp hd fuel 51 cs = some x) : ∃ p : Rm, cs = encM1 p ∧ MzR 0 w.heap.size w p := by
  match cs, hl3 with
  | [v0, v1, v2], _ =>
    obtain ⟨y0, y1, y2, n, _, _, h0, h1, h2⟩ := Go.Deep.trod_struct3 Try.underlying51 hf
    have e0 : Try.prog.cellsOf 3 = 1 := by kernel_rfl
    have e1 : Try.prog.cellsOf 49 = 1 := by kernel_rfl
    have e2 : Try.prog.cellsOf 39 = 1 := by kernel_rfl
    have h0' : DataW.trod enc Try.prog w B sp hd n 3 [v0] = some y0 := by simpa [e0] using h0
    have h1' : DataW.trod enc Try.prog w B sp hd n 49 [v1] = some y1 := by simpa [e1] using h1
    have h2' : DataW.trod enc Try.prog w B sp hd n 39 [v2] = some y2 := by simpa [e2] using h2
    obtain ⟨z, hz, _⟩ := Go.DataW.trod_int Try.underlying3 h0'
    have hz' : v0 = .int .i64 z := by simpa using hz
    subst hz'
    obtain ⟨a, l, c, rfl⟩ := slice_form_ds h1'
    obtain ⟨b, k, d, rfl⟩ := slice_form_is h2'
    obtain ⟨ds, rfl, r1, c1, c2⟩ := open_doors_at h1'
    obtain ⟨ks, rfl, r2, d1, d2, _⟩ := open_ints_at h2'
    unfold maxLen at c2 d2
    exact ⟨(⟨z, ds, ks⟩, a, c, b, d), rfl, ⟨r1, r2, c1, by omega, d1, by omega⟩⟩
set_option maxRecDepth 4000 in
theorem open_mazes_at {a : Option Addr} {len cap : Nat} {x : DataW H × List MemPlace} {fuel : Nat}
    (hf : DataW.trod enc Try.prog w B sp hd fuel 22 [.slice a len cap] = some x) : ∃ L : List Rm, len = L.length ∧ RowIn 0 w.heap.size w a (encMs L) ∧ L.length ≤ cap ∧ cap ≤ maxLen ∧ ∀ p ∈ L, MzR 0 w.heap.size w p := by
  have hc : Try.prog.cellsOf 51 = 3 := by kernel_rfl
  rcases Go.Deep.open_slice Try.underlying22 hf with ⟨hcs, _⟩ | ⟨x, l, c, m, n, D, Pl, hcs, _, hl, hm, hmm, _, hi⟩
  · simp at hcs
    obtain ⟨rfl, rfl, rfl⟩ := hcs
    exact ⟨[], rfl, .inl rfl, Nat.zero_le _, Nat.zero_le _, fun p hp => by cases hp⟩
  · simp at hcs
    obtain ⟨rfl, rfl, rfl⟩ := hcs
    have hlm : len ≤ m := by rw [hmm]; split <;> omega
    have hd : ∀ i, ∃ p : Rm, i < len → w.cells? B (x.add (i * 3)) 3 = some (encM1 p) ∧ MzR 0 w.heap.size w p := by
      intro i
      by_cases h : i < len
      · obtain ⟨cs', h1, h2⟩ := hi i (by omega)
        rw [hc] at h1
        obtain ⟨_, hl3, _⟩ := World.cells?_some h1
        obtain ⟨p, rfl, hp⟩ := maze_cells hl3 h2
        exact ⟨p, fun _ => ⟨h1, hp⟩⟩
      · exact ⟨(mz0, none, 0, none, 0), fun h' => absurd h' h⟩
    let f : Nat → Rm := fun i => Classical.choose (hd i)
    have hf' : ∀ i, i < len → w.cells? B (x.add (i * 3)) 3 = some (encM1 (f i)) ∧ MzR 0 w.heap.size w (f i) := fun i => Classical.choose_spec (hd i)
    refine ⟨(List.range len).map f, by simp, row_of fun i u hu => ?_, by simp; omega, hm, fun p hp => ?_⟩
    · have hil : i < len * 3 := by
        have := (List.getElem?_eq_some_iff.1 hu).1
        rw [encMs_len] at this
        simpa using this
      have hk : i / 3 < len := by omega
      have hij : i / 3 * 3 + i % 3 = i := by omega
      have he := encMs_at (L := (List.range len).map f) (k := i / 3) (by simpa using hk) (i % 3) (by omega)
      rw [hij, hu] at he
      simp only [List.getElem_map, List.getElem_range] at he
      obtain ⟨_, hcl, hat⟩ := World.cells?_some (hf' _ hk).1
      have h3 := hat (i % 3) (by omega)
      rw [add_add, hij] at h3
      rw [h3]
      exact he.symm
    · obtain ⟨i, hi', rfl⟩ := List.mem_map.1 hp
      exact (hf' i (List.mem_range.1 hi')).2
set_option maxRecDepth 4000 in
theorem open_owners_at {a : Option Addr} {len cap : Nat} {x : DataW H × List MemPlace} {fuel : Nat}
    (hf : DataW.trod enc Try.prog w B sp hd fuel 23 [.slice a len cap] = some x) : ∃ O : List Ro, len = O.length ∧ RowIn 0 w.heap.size w a (encOs O) ∧ O.length ≤ cap ∧ cap ≤ maxLen ∧ ∀ o ∈ O, OwR 0 w.heap.size w o := by
  rcases Go.Deep.open_slice1 Try.underlying23 (by kernel_rfl) hf with ⟨hcs, _⟩ | ⟨x, l, c, m, n, V, D, Pl, hcs, _, hl, hm, hmm, _, hi⟩
  · simp at hcs
    obtain ⟨rfl, rfl, rfl⟩ := hcs
    exact ⟨[], rfl, .inl rfl, Nat.zero_le _, Nat.zero_le _, fun p hp => by cases hp⟩
  · simp at hcs
    obtain ⟨rfl, rfl, rfl⟩ := hcs
    have hlm : len ≤ m := by rw [hmm]; split <;> omega
    have hd : ∀ i, ∃ o : Ro, i < len → w.cell? (x.add i) = some (encO1 o) ∧ OwR 0 w.heap.size w o := by
      intro i
      by_cases h : i < len
      · obtain ⟨h1, h2⟩ := hi i (by omega)
        obtain ⟨b, k, d, hv⟩ := slice_form_is h2
        rw [hv] at h1 h2
        obtain ⟨ks, rfl, r2, d1, d2, _⟩ := open_ints_at h2
        unfold maxLen at d2
        exact ⟨(ks, b, d), fun _ => ⟨h1, ⟨r2, d1, by omega⟩⟩⟩
      · exact ⟨([], none, 0), fun h' => absurd h' h⟩
    let f : Nat → Ro := fun i => Classical.choose (hd i)
    have hf' : ∀ i, i < len → w.cell? (x.add i) = some (encO1 (f i)) ∧ OwR 0 w.heap.size w (f i) := fun i => Classical.choose_spec (hd i)
    refine ⟨(List.range len).map f, by simp, row_of fun i u hu => ?_, by simp; omega, hm, fun p hp => ?_⟩
    · have hil : i < len := by
        have := (List.getElem?_eq_some_iff.1 hu).1
        rw [encOs_len] at this
        simpa using this
      unfold encOs at hu
      rw [List.map_map, List.getElem?_map, List.getElem?_range hil] at hu
      rw [(hf' _ hil).1]
      simpa using hu
    · obtain ⟨i, hi', rfl⟩ := List.mem_map.1 hp
      exact (hf' i (List.mem_range.1 hi')).2
set_option maxRecDepth 4000 in
theorem open_worlds {v : Value} {x : DataW H} {p : List MemPlace} {r : Reach} {b0 : Nat} (hv : Value.okWide Try.prog w r b0 25 v)
    (h : DataW.Trod enc Try.prog w B sp hd 25 v x p) : ∃ (m : M.Wl) (a : Option Addr) (c : Nat) (b : Option Addr) (d : Nat), v = .agg #[.slice a m.mazes.length c, .slice b m.owners.length d] ∧ WlIn 0 w.heap.size w m a c b d := by
  obtain ⟨v0, v1, y0, y1, n, rfl, _, _, h0, h1⟩ := Go.Joins.open_agg2 Try.underlying25 (by kernel_rfl) (by kernel_rfl) hv h
  have h0' : DataW.trod enc Try.prog w B sp hd n 22 [v0] = some y0 := h0
  have h1' : DataW.trod enc Try.prog w B sp hd n 23 [v1] = some y1 := h1
  have e1 : ∃ a l c, v0 = .slice a l c := by
    rcases Go.Deep.open_slice Try.underlying22 h0' with ⟨hcs, _⟩ | ⟨x, l, c, m, n, D, Pl, hcs, _⟩
    · exact ⟨_, _, _, by simpa using hcs⟩
    · exact ⟨_, _, _, by simpa using hcs⟩
  have e2 : ∃ a l c, v1 = .slice a l c := by
    rcases Go.Deep.open_slice Try.underlying23 h1' with ⟨hcs, _⟩ | ⟨x, l, c, m, n, D, Pl, hcs, _⟩
    · exact ⟨_, _, _, by simpa using hcs⟩
    · exact ⟨_, _, _, by simpa using hcs⟩
  obtain ⟨a, l, c, rfl⟩ := e1
  obtain ⟨b, k, d, rfl⟩ := e2
  obtain ⟨L, rfl, r1, c1, c2, hm⟩ := open_mazes_at h0'
  obtain ⟨O, rfl, r2, d1, d2, ho⟩ := open_owners_at h1'
  unfold maxLen at c2 d2
  exact ⟨⟨L.map (·.1), O.map (·.1)⟩, a, c, b, d, by simp only [List.length_map], ⟨L, O, rfl, rfl, r1, r2, hm, ho⟩, by simpa using c1, by omega, by simpa using d1, by omega⟩
end
end C
end Go.Proofs.Ytbcobheiofajeaa
