/-
  CONTRACTS of the laws' own helpers over worlds: markWorlds writes rising numbers, heldWorlds finds them. Condition: each maze and each list of owners lies in a range of its own; at most 1048576 mazes, doors, keys and owners in all.
-/
import Derived.Test.YtbcobheiofajeaaWlE
namespace Go.Proofs.Ytbcobheiofajeaa
open Go.RowKit
namespace C
set_option linter.unusedVariables false
set_option maxHeartbeats 1600000
set_option maxRecDepth 20000
/-- all of a maze's row but its size -/
def shR (p : Rm) : List M.Dr × List Int × Option Addr × Nat × Option Addr × Nat := (p.1.doors, p.1.keys, p.2)
def mkR (p : Rm) : Nat := M.mkM1 p.1
structure WsRaw (lo hi : Nat) (w : World) (a b : Option Addr) (L : List Rm) (O : List Ro) (D K Q : Nat → List Value) (RM RO : Nat → Nat × Nat) : Prop where
  outA : OwnAt lo hi w 55 a (encMs L)
  outB : OwnAt lo hi w 39 b (encOs O)
  mz : ∀ (i : Nat) (p : Rm), L[i]? = some p → OwnAt (RM i).1 (RM i).2 w 103 p.2.1 (D i) ∧ (D i).length = p.1.doors.length * 3 ∧ OwnAt (RM i).1 (RM i).2 w 3 p.2.2.2.1 (K i) ∧ (K i).length = p.1.keys.length ∧ lo ≤ (RM i).1 ∧ (RM i).2 ≤ hi
  ow : ∀ (i : Nat) (o : Ro), O[i]? = some o → OwnAt (RO i).1 (RO i).2 w 3 o.2.1 (Q i) ∧ (Q i).length = o.1.length ∧ lo ≤ (RO i).1 ∧ (RO i).2 ≤ hi
  offM : ∀ i j, i < L.length → j < L.length → i ≠ j → Off (RM i) (RM j)
  offO : ∀ i j, i < O.length → j < O.length → i ≠ j → Off (RO i) (RO j)
  off : ∀ i j, i < L.length → j < O.length → Off (RM i) (RO j)
section
variable {lo hi lo' hi' : Nat} {w w' : World} {a b : Option Addr} {L L' : List Rm} {O : List Ro} {D K Q : Nat → List Value} {RM RO : Nat → Nat × Nat}
theorem WsRaw.turned (h : WsRaw lo hi w a b L O D K Q RM RO) (t : Turned lo' hi' w w') (hz : hi ≤ w.heap.size) (hd : hi ≤ lo' ∨ hi' ≤ lo) : WsRaw lo hi w' a b L O D K Q RM RO :=
  ⟨h.outA.turned t hz hd, h.outB.turned t hz hd, fun i p hp => by
    obtain ⟨q1, q2, q3, q4, q5, q6⟩ := h.mz i p hp
    exact ⟨q1.turned t (by omega) (by omega), q2, q3.turned t (by omega) (by omega), q4, q5, q6⟩, fun i p hp => by
    obtain ⟨q1, q2, q3, q4⟩ := h.ow i p hp
    exact ⟨q1.turned t (by omega) (by omega), q2, q3, q4⟩, h.offM, h.offO, h.off⟩
theorem WsRaw.of (hA : OwnAt lo hi w 55 a (encMs L)) (hB : OwnAt lo hi w 39 b (encOs O)) (h : WsW lo hi w L O RM RO) : WsRaw lo hi w a b L O (fun i => M.encDs (L.getD i (mz0, none, 0, none, 0)).1.doors) (fun i => M.encIs (L.getD i (mz0, none, 0, none, 0)).1.keys) (fun i => M.encIs (O.getD i ([], none, 0)).1) RM RO :=
  ⟨hA, hB, fun i p hp => by
    obtain ⟨q1, q2, q3⟩ := h.maze i p hp
    rw [List.getD_eq_getElem?_getD, hp]
    exact ⟨q1.doors, M.encDs_len _, q1.keys, M.encIs_len _, q2, q3⟩, fun i o ho => by
    obtain ⟨q1, q2, q3⟩ := h.owner i o ho
    rw [List.getD_eq_getElem?_getD, ho]
    exact ⟨q1.row, M.encIs_len _, q2, q3⟩, h.offM, h.offO, h.off⟩
theorem tne1 : 55 ≠ 39 := by decide
theorem tne2 : 55 ≠ 103 := by decide
theorem tne3 : 55 ≠ 3 := by decide
theorem tne4 : 39 ≠ 103 := by decide
theorem tne5 : 39 ≠ 3 := by decide
theorem encMs_size {k : Nat} (hk : k < L.length) {q : Rm} (hq : shR q = shR L[k]) : (encMs L).set (k * 3) (.int .i64 q.1.size) = encMs (L.set k q) := by
  refine List.ext_getElem? fun i => ?_
  rcases Nat.lt_or_ge i (L.length * 3) with hi | hi
  · have hik : i / 3 < L.length := by omega
    have hij : i / 3 * 3 + i % 3 = i := by omega
    have e1 := encMs_at (L := L.set k q) (k := i / 3) (by rw [List.length_set]; exact hik) (i % 3) (by omega)
    have e2 := encMs_at (L := L) (k := i / 3) hik (i % 3) (by omega)
    rw [hij] at e1 e2
    rw [e1, List.getElem?_set]
    have hq1 : q.1.doors = L[k].1.doors := congrArg (·.1) hq
    have hq2 : q.1.keys = L[k].1.keys := congrArg (·.2.1) hq
    have hq3 : q.2 = L[k].2 := congrArg (·.2.2) hq
    by_cases e : k = i / 3
    · subst e
      rw [List.getElem_set_self]
      by_cases e3 : i / 3 * 3 = i
      · rw [if_pos e3, if_pos (by rw [encMs_len]; omega)]
        have : i % 3 = 0 := by omega
        rw [this]; rfl
      · rw [if_neg e3, e2]
        unfold encM1
        rw [hq1, hq2, hq3]
        rcases (by omega : i % 3 = 1 ∨ i % 3 = 2) with e4 | e4 <;> rw [e4] <;> rfl
    · rw [if_neg (by omega), e2]
      rw [List.getElem_set_ne (by omega)]
  · rw [List.getElem?_eq_none (by rw [List.length_set, encMs_len]; exact hi), List.getElem?_eq_none (by rw [encMs_len, List.length_set]; exact hi)]
/-- one size is another now -/
theorem WsRaw.setS (h : WsRaw lo hi w a b L O D K Q RM RO) {k g off : Nat} (hk : k < L.length) (ha : a = some ⟨g, off, none⟩) {q : Rm} (hq : shR q = shR L[k]) (j : Nat) (hj : j = off + k * 3) : WsRaw lo hi (w.setCell ⟨g, j, none⟩ (.int .i64 q.1.size)) a b (L.set k q) O D K Q RM RO ∧ Turned lo hi w (w.setCell ⟨g, j, none⟩ (.int .i64 q.1.size)) := by
  subst hj
  have hA := h.outA.set_ ha (k * 3) (.int .i64 q.1.size)
  rw [encMs_size hk hq] at hA
  have hty : ∀ cur V f, w.heap[g]? = some (.cells cur V f) → V = 55 := by
    rcases h.outA with e | ⟨g', o', cur', e, h1, h2, hh, hc⟩
    · have := congrArg List.length e
      rw [encMs_len] at this
      have h0 : L.length * 3 = 0 := this
      omega
    · rw [ha] at e
      injection e with e
      injection e with e1 e2 _
      subst e1
      intro cur V f hf
      rw [hh] at hf
      injection hf with hf
      injection hf with _ e3
      exact e3.symm
  have hgr : lo ≤ g ∧ g < hi := by
    rcases h.outA with e | ⟨g', o', cur', e, h1, h2, hh, hc⟩
    · have := congrArg List.length e
      rw [encMs_len] at this
      have h0 : L.length * 3 = 0 := this
      omega
    · rw [ha] at e
      injection e with e
      injection e with e1 e2 _
      subst e1
      exact ⟨h1, h2⟩
  have t : Turned g (g + 1) w (w.setCell ⟨g, off + k * 3, none⟩ (.int .i64 q.1.size)) := Turned.setCell _ _ _ _ (Nat.le_refl _) (Nat.lt_succ_self _)
  have ne : ∀ T, 55 ≠ T → ∀ cur V f, w.heap[g]? = some (.cells cur V f) → V ≠ T := fun T hT cur V f hf => by rw [hty _ _ _ hf]; exact hT
  have hq1 : q.1.doors = L[k].1.doors := congrArg (·.1) hq
  have hq2 : q.1.keys = L[k].1.keys := congrArg (·.2.1) hq
  have hq3 : q.2 = L[k].2 := congrArg (·.2.2) hq
  refine ⟨⟨hA, h.outB.other t (ne _ tne1), fun i p hp => ?_, fun i o ho => ?_, by rw [List.length_set]; exact h.offM, h.offO, by rw [List.length_set]; exact h.off⟩, t.mono hgr.1 hgr.2⟩
  · by_cases e : k = i
    · subst e
      rw [List.getElem?_set_self hk] at hp
      injection hp with hp
      subst hp
      obtain ⟨q1, q2, q3, q4, q5, q6⟩ := h.mz k _ (List.getElem?_eq_getElem hk)
      rw [hq1, hq2, hq3]
      exact ⟨q1.other t (ne _ tne2), q2, q3.other t (ne _ tne3), q4, q5, q6⟩
    · rw [List.getElem?_set_ne e] at hp
      obtain ⟨q1, q2, q3, q4, q5, q6⟩ := h.mz i _ hp
      exact ⟨q1.other t (ne _ tne2), q2, q3.other t (ne _ tne3), q4, q5, q6⟩
  · obtain ⟨q1, q2, q3, q4⟩ := h.ow i _ ho
    exact ⟨q1.other t (ne _ tne3), q2, q3, q4⟩
theorem Off.turn {x y : Nat × Nat} (h : Off x y) {T : TypeId} {r : Option Addr} {xs : List Value} (ho : OwnAt x.1 x.2 w T r xs) (t : Turned y.1 y.2 w w') : OwnAt x.1 x.2 w' T r xs := by
  rcases ho with e | ⟨g, off, cur, e, h1, h2, hh, hc⟩
  · exact .inl e
  · refine .inr ⟨g, off, cur, e, h1, h2, (t.block g (heap_lt hh) ?_).trans hh, hc⟩
    have : x.2 ≤ y.1 ∨ y.2 ≤ x.1 := h
    omega
/-- one maze's doors are written -/
theorem WsRaw.setD (h : WsRaw lo hi w a b L O D K Q RM RO) {k g : Nat} {p : Rm} (hp : L[k]? = some p) {Y : List Value} (hY : Y.length = p.1.doors.length * 3) (t : Turned g (g + 1) w w') (hr : Turned (RM k).1 (RM k).2 w w') (ho : OwnAt (RM k).1 (RM k).2 w' 103 p.2.1 Y) (hty : ∀ cur V f, w.heap[g]? = some (.cells cur V f) → V = 103) : WsRaw lo hi w' a b L O (fun i => if i = k then Y else D i) K Q RM RO ∧ Turned lo hi w w' := by
  have hk := (List.getElem?_eq_some_iff.1 hp).1
  have ne : ∀ T, 103 ≠ T → ∀ cur V f, w.heap[g]? = some (.cells cur V f) → V ≠ T := fun T hT cur V f hf => by rw [hty _ _ _ hf]; exact hT
  obtain ⟨_, _, _, _, z5, z6⟩ := h.mz k _ hp
  refine ⟨⟨h.outA.other t (ne _ tne2.symm), h.outB.other t (ne _ tne4.symm), fun i p' hp' => ?_, fun i o ho' => ?_, h.offM, h.offO, h.off⟩, hr.mono z5 z6⟩
  · by_cases e : i = k
    · subst e
      rw [hp] at hp'
      injection hp' with hp'
      subst hp'
      obtain ⟨q1, q2, q3, q4, q5, q6⟩ := h.mz i _ hp
      rw [if_pos rfl]
      exact ⟨ho, hY, q3.other t (ne _ tne), q4, q5, q6⟩
    · rw [if_neg e]
      obtain ⟨q1, q2, q3, q4, q5, q6⟩ := h.mz i _ hp'
      have hoff := h.offM i k (List.getElem?_eq_some_iff.1 hp').1 hk e
      exact ⟨hoff.turn q1 hr, q2, hoff.turn q3 hr, q4, q5, q6⟩
  · obtain ⟨q1, q2, q3, q4⟩ := h.ow i _ ho'
    exact ⟨(h.off k i hk (List.getElem?_eq_some_iff.1 ho').1).symm.turn q1 hr, q2, q3, q4⟩
/-- one maze's keys are written -/
theorem WsRaw.setK (h : WsRaw lo hi w a b L O D K Q RM RO) {k g : Nat} {p : Rm} (hp : L[k]? = some p) {Y : List Value} (hY : Y.length = p.1.keys.length) (t : Turned g (g + 1) w w') (hr : Turned (RM k).1 (RM k).2 w w') (ho : OwnAt (RM k).1 (RM k).2 w' 3 p.2.2.2.1 Y) (hty : ∀ cur V f, w.heap[g]? = some (.cells cur V f) → V = 3) : WsRaw lo hi w' a b L O D (fun i => if i = k then Y else K i) Q RM RO ∧ Turned lo hi w w' := by
  have hk := (List.getElem?_eq_some_iff.1 hp).1
  have ne : ∀ T, 3 ≠ T → ∀ cur V f, w.heap[g]? = some (.cells cur V f) → V ≠ T := fun T hT cur V f hf => by rw [hty _ _ _ hf]; exact hT
  obtain ⟨_, _, _, _, z5, z6⟩ := h.mz k _ hp
  refine ⟨⟨h.outA.other t (ne _ tne3.symm), h.outB.other t (ne _ tne5.symm), fun i p' hp' => ?_, fun i o ho' => ?_, h.offM, h.offO, h.off⟩, hr.mono z5 z6⟩
  · by_cases e : i = k
    · subst e
      rw [hp] at hp'
      injection hp' with hp'
      subst hp'
      obtain ⟨q1, q2, q3, q4, q5, q6⟩ := h.mz i _ hp
      rw [if_pos rfl]
      exact ⟨q1.other t (ne _ tne.symm), q2, ho, hY, q5, q6⟩
    · rw [if_neg e]
      obtain ⟨q1, q2, q3, q4, q5, q6⟩ := h.mz i _ hp'
      have hoff := h.offM i k (List.getElem?_eq_some_iff.1 hp').1 hk e
      exact ⟨hoff.turn q1 hr, q2, hoff.turn q3 hr, q4, q5, q6⟩
  · obtain ⟨q1, q2, q3, q4⟩ := h.ow i _ ho'
    exact ⟨(h.off k i hk (List.getElem?_eq_some_iff.1 ho').1).symm.turn q1 hr, q2, q3, q4⟩
/-- one list of owners is written -/
theorem WsRaw.setQ (h : WsRaw lo hi w a b L O D K Q RM RO) {k g : Nat} {p : Ro} (hp : O[k]? = some p) {Y : List Value} (hY : Y.length = p.1.length) (t : Turned g (g + 1) w w') (hr : Turned (RO k).1 (RO k).2 w w') (ho : OwnAt (RO k).1 (RO k).2 w' 3 p.2.1 Y) (hty : ∀ cur V f, w.heap[g]? = some (.cells cur V f) → V = 3) : WsRaw lo hi w' a b L O D K (fun i => if i = k then Y else Q i) RM RO ∧ Turned lo hi w w' := by
  have hk := (List.getElem?_eq_some_iff.1 hp).1
  have ne : ∀ T, 3 ≠ T → ∀ cur V f, w.heap[g]? = some (.cells cur V f) → V ≠ T := fun T hT cur V f hf => by rw [hty _ _ _ hf]; exact hT
  obtain ⟨_, _, z5, z6⟩ := h.ow k _ hp
  refine ⟨⟨h.outA.other t (ne _ tne3.symm), h.outB.other t (ne _ tne5.symm), fun i p' hp' => ?_, fun i o ho' => ?_, h.offM, h.offO, h.off⟩, hr.mono z5 z6⟩
  · obtain ⟨q1, q2, q3, q4, q5, q6⟩ := h.mz i _ hp'
    have hoff := h.off i k (List.getElem?_eq_some_iff.1 hp').1 hk
    exact ⟨hoff.turn q1 hr, q2, hoff.turn q3 hr, q4, q5, q6⟩
  · by_cases e : i = k
    · subst e
      rw [hp] at ho'
      injection ho' with ho'
      subst ho'
      obtain ⟨q1, q2, q3, q4⟩ := h.ow i _ hp
      rw [if_pos rfl]
      exact ⟨ho, hY, q3, q4⟩
    · rw [if_neg e]
      obtain ⟨q1, q2, q3, q4⟩ := h.ow i _ ho'
      exact ⟨(h.offO i k (List.getElem?_eq_some_iff.1 ho').1 hk e).turn q1 hr, q2, q3, q4⟩
end
/-- rising numbers in the mazes below k -/
def MkM (k0 k : Nat) (L : List Rm) (D K : Nat → List Value) : Prop := ∀ (i : Nat) (p : Rm), i < k → L[i]? = some p → p.1.size = ((k0 + M.sumN mkR (L.take i) : Nat) : Int) ∧ D i = M.marks (k0 + M.sumN mkR (L.take i) + 1) (p.1.doors.length * 3) ∧ K i = M.marks (k0 + M.sumN mkR (L.take i) + 1 + p.1.doors.length * 3) p.1.keys.length
def MkO (k0 k : Nat) (O : List Ro) (Q : Nat → List Value) : Prop := ∀ (i : Nat) (o : Ro), i < k → O[i]? = some o → Q i = M.marks (k0 + M.sumN (fun o : Ro => o.1.length) (O.take i)) o.1.length
theorem sh_mk {L L' : List Rm} (h : L'.map shR = L.map shR) : L'.map mkR = L.map mkR := by
  have e : ∀ X : List Rm, X.map mkR = (X.map shR).map (fun s => 1 + s.1.length * 3 + s.2.1.length) := fun X => by rw [List.map_map]; rfl
  rw [e, e, h]
theorem sum_mk {L L' : List Rm} (h : L'.map shR = L.map shR) (i : Nat) : M.sumN mkR (L'.take i) = M.sumN mkR (L.take i) := by
  unfold M.sumN
  rw [List.map_take, List.map_take, sh_mk h]
theorem sh_set {L : List Rm} {k : Nat} (hk : k < L.length) {q : Rm} (hq : shR q = shR L[k]) : (L.set k q).map shR = L.map shR := by
  rw [List.map_set, hq]
  refine List.ext_getElem? fun i => ?_
  rw [List.getElem?_set]
  by_cases e : k = i
  · subst e
    rw [if_pos rfl, if_pos (by rw [List.length_map]; exact hk), List.getElem?_map, List.getElem?_eq_getElem hk]
    rfl
  · rw [if_neg e]
end C
end Go.Proofs.Ytbcobheiofajeaa
