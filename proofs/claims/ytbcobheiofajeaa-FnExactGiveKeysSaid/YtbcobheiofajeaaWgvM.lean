/-
  WORDS for the keys of a node given to an owner: worlds in memory of which one owner is another now. No condition but those of each text.
-/
import Derived.Test.YtbcobheiofajeaaWlM
import Derived.Test.YtbcobheiofajeaaWlB
import Derived.Test.YtbcobheiofajeaaWwoS
namespace Go.Proofs.Ytbcobheiofajeaa
set_option linter.unusedVariables false
open Go.RowKit
namespace M
noncomputable def giveB (m : Wl) (i x o : Int) : Bool := worldIn m i && (inB x 0 ((wm m i.toNat).size - 1) && inB o 0 ((m.mazes.length : Int) - 1))
noncomputable def gvW (m : Wl) (i x o : Int) : Wl := if giveB m i x o then giveW m i.toNat x.toNat o else C.wl0
theorem give_off1 {m : Wl} {i x o : Int} (h : worldIn m i = false) : giveB m i x o = false ∧ gvW m i x o = C.wl0 := by
  have e : giveB m i x o = false := by unfold giveB; rw [h]; rfl
  exact ⟨e, by unfold gvW; rw [e]; rfl⟩
theorem give_off2 {m : Wl} {i x o : Int} (h : inB x 0 ((wm m i.toNat).size - 1) = false) : giveB m i x o = false ∧ gvW m i x o = C.wl0 := by
  have e : giveB m i x o = false := by unfold giveB; rw [h, Bool.false_and, Bool.and_false]
  exact ⟨e, by unfold gvW; rw [e]; rfl⟩
theorem give_off3 {m : Wl} {i x o : Int} (h : inB o 0 ((m.mazes.length : Int) - 1) = false) : giveB m i x o = false ∧ gvW m i x o = C.wl0 := by
  have e : giveB m i x o = false := by unfold giveB; rw [h, Bool.and_false, Bool.and_false]
  exact ⟨e, by unfold gvW; rw [e]; rfl⟩
theorem give_on {m : Wl} {i x o : Int} (h1 : worldIn m i = true) (h2 : inB x 0 ((wm m i.toNat).size - 1) = true) (h3 : inB o 0 ((m.mazes.length : Int) - 1) = true) : giveB m i x o = true ∧ gvW m i x o = giveW m i.toNat x.toNat o := by
  have e : giveB m i x o = true := by unfold giveB; rw [h1, h2, h3]; rfl
  exact ⟨e, by unfold gvW; rw [e]; rfl⟩
theorem give_sz (m : Wl) (i x : Nat) (o : Int) : szW (giveW m i x o) = szW m := by
  have e : ((giveW m i x o).owners.map List.length) = m.owners.map List.length := by
    unfold giveW
    show (m.owners.set i ((wo m i).set x o)).map List.length = _
    rw [List.map_set, List.length_set]
    refine List.ext_getElem? fun j => ?_
    rw [List.getElem?_set]
    by_cases h : i = j
    · subst h
      rw [if_pos rfl]
      split
      next hl =>
        have hl' : i < m.owners.length := by simpa using hl
        rw [List.getElem?_map, List.getElem?_eq_getElem hl']
        unfold wo
        rw [List.getD_eq_getElem?_getD, List.getElem?_eq_getElem hl']
        rfl
      next hl => rw [List.getElem?_eq_none (by omega)]
    · rw [if_neg h]
  have e2 : (giveW m i x o).owners.length = m.owners.length := by unfold giveW; exact List.length_set ..
  unfold szW sumN
  rw [e, e2]
  rfl
theorem gv_sz {m : Wl} (h : szW m ≤ 1048576) (i x o : Int) : szW (gvW m i x o) ≤ 1048576 := by
  unfold gvW
  split
  · rw [give_sz]; exact h
  · exact Nat.zero_le _
end M
namespace C
theorem encOs_same {O : List Ro} {k : Nat} (hk : k < O.length) {q : Ro} (h1 : q.1.length = O[k].1.length) (h2 : q.2 = O[k].2) : encOs (O.set k q) = encOs O := by
  unfold encOs
  rw [List.map_set]
  have e : encO1 q = encO1 O[k] := by unfold encO1; rw [h1, h2]
  rw [e]
  refine List.ext_getElem? fun j => ?_
  rw [List.getElem?_set]
  by_cases h : k = j
  · subst h
    rw [if_pos rfl, if_pos (by rw [List.length_map]; exact hk), List.getElem?_map, List.getElem?_eq_getElem hk]
    rfl
  · rw [if_neg h]
theorem WlRowW.setOwner {lo hi : Nat} {w : World} {m : M.Wl} {a b : Option Addr} {L : List Rm} {O : List Ro} {RM RO : Nat → Nat × Nat} (h : WlRowW lo hi w m a b L O RM RO) {i x : Nat} (hi' : i < O.length) (hx : x < O[i].1.length) {g off : Nat} (ha : O[i].2.1 = some ⟨g, off, none⟩) (o : Int) :
    WlRowW lo hi (w.setCell ⟨g, off + x, none⟩ (.int .i64 o)) (M.giveW m i x o) a b L (O.set i (O[i].1.set x o, O[i].2)) RM RO ∧ Turned lo hi w (w.setCell ⟨g, off + x, none⟩ (.int .i64 o)) := by
  obtain ⟨q1, q2, q3⟩ := h.ws.owner i _ (List.getElem?_eq_getElem hi')
  have hrow := q1.row
  have hg : (RO i).1 ≤ g ∧ g < (RO i).2 ∧ ∀ cur V f, w.heap[g]? = some (.cells cur V f) → V = 3 := by
    rcases hrow with e | ⟨g', o', cur', e, h1, h2, hh, hc⟩
    · have := congrArg List.length e
      rw [M.encIs_len] at this
      have h0 : O[i].1.length = 0 := this
      omega
    · rw [ha] at e
      injection e with e
      injection e with e1 e2 _
      subst e1
      refine ⟨h1, h2, fun cur V f hf => ?_⟩
      rw [hh] at hf
      injection hf with hf
      injection hf with _ e3
      exact e3.symm
  obtain ⟨hg1, hg2, hty⟩ := hg
  have t : Turned g (g + 1) w (w.setCell ⟨g, off + x, none⟩ (.int .i64 o)) := Turned.setCell _ _ _ _ (Nat.le_refl _) (Nat.lt_succ_self _)
  have tr : Turned (RO i).1 (RO i).2 w (w.setCell ⟨g, off + x, none⟩ (.int .i64 o)) := t.mono hg1 hg2
  have ne : ∀ T, 3 ≠ T → ∀ cur V f, w.heap[g]? = some (.cells cur V f) → V ≠ T := fun T hT cur V f hf => by rw [hty _ _ _ hf]; exact hT
  refine ⟨⟨h.ms, ?_, h.mazes.other t (ne _ tne3.symm), ?_, ⟨fun j p hp => ?_, fun j p hp => ?_, h.ws.offM, by rw [List.length_set]; exact h.ws.offO, by rw [List.length_set]; exact h.ws.off⟩⟩, tr.mono q2 q3⟩
  · unfold M.giveW
    show m.owners.set i ((M.wo m i).set x o) = _
    rw [List.map_set, h.row.wo hi', h.os]
  · rw [encOs_same hi' (q := (O[i].1.set x o, O[i].2)) (by show (O[i].1.set x o).length = _; rw [List.length_set]) rfl]
    exact h.owners.other t (ne _ tne5.symm)
  · obtain ⟨z1, z2, z3⟩ := h.ws.maze j p hp
    have hoff := h.ws.off j i (List.getElem?_eq_some_iff.1 hp).1 hi'
    exact ⟨⟨hoff.turn z1.doors tr, hoff.turn z1.keys tr, z1.c1, z1.c2, z1.d1, z1.d2⟩, z2, z3⟩
  · by_cases e : i = j
    · subst e
      rw [List.getElem?_set_self hi'] at hp
      injection hp with hp
      subst hp
      have hs := hrow.set_ ha x (.int .i64 o)
      have e2 : (M.encIs O[i].1).set x (.int .i64 o) = M.encIs (O[i].1.set x o) := by unfold M.encIs; rw [List.map_set]
      rw [e2] at hs
      exact ⟨⟨hs, by show (O[i].1.set x o).length ≤ _; rw [List.length_set]; exact q1.c1, q1.c2⟩, q2, q3⟩
    · rw [List.getElem?_set_ne e] at hp
      obtain ⟨z1, z2, z3⟩ := h.ws.owner j p hp
      have hoff := h.ws.offO j i (List.getElem?_eq_some_iff.1 hp).1 hi' (fun e2 => e e2.symm)
      exact ⟨⟨hoff.turn z1.row tr, z1.c1, z1.c2⟩, z2, z3⟩
end C
end Go.Proofs.Ytbcobheiofajeaa
