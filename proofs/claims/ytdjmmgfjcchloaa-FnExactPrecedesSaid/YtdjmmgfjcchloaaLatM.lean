/-
  MATHEMATICS of places and of nodes that precede others, own to these proofs. No condition.
-/
import Derived.Test.YtdjmmgfjcchloaaCntoI
namespace Go.Proofs.Ytdjmmgfjcchloaa
open Go.RowKit
namespace M
def woN (m : Mz) (x : Nat) : Nat := lessN (allN m) (2 ^ x)
theorem digB_wo {m : Mz} (V : Valid m) {x : Nat} (hx : x < 12) (y : Nat) : digB (woN m x) y = (digB (allN m) y && !decide (x = y)) := by
  unfold woN
  rw [digB_less (allN_lt V) (pow12 hx), digB_pow]
theorem wo_in {m : Mz} (V : Valid m) {x : Nat} (hx : x < 12) : InM m (woN m x) := ⟨lessN_lt (allN_lt V) (pow12 hx), fun p hp => by
  rw [digB_wo V hx, Bool.and_eq_true] at hp
  exact (all_in V).2 p hp.1⟩
theorem wo_fin : ∀ s : Fin 13, ∀ x : Fin 12, x.val < s.val → lessN (2 ^ s.val - 1) (2 ^ x.val) = 2 ^ s.val - 1 - 2 ^ x.val := by decide +kernel
theorem wo_sub {m : Mz} (V : Valid m) {x : Nat} (hx : (x : Int) < m.size) : woN m x = 2 ^ m.size.toNat - 1 - 2 ^ x := by
  have h1 := V.size1
  have h2 := V.size12
  exact wo_fin ⟨m.size.toNat, by omega⟩ ⟨x, by omega⟩ (show x < m.size.toNat by omega)
noncomputable def allE (m : Mz) : Nat := mostN m (allN m)
noncomputable def woE (m : Mz) (x : Nat) : Nat := mostN m (woN m x)
theorem all_zero {m : Mz} (V : Valid m) : digB (allN m) 0 = true := by
  rw [digB_all V, decide_eq_true_iff]
  have := V.size1
  omega
theorem allE_big {m : Mz} (V : Valid m) : Big m (allN m) (allE m) := by
  obtain ⟨k, hk⟩ := done_ex V (allN m) picks_min
  unfold allE
  rw [most_done hk]
  have hb := seqA_big V (all_zero V) picks_min hk
  rcases seqA_ent V (a := allN m) picks_min k with h0 | h0
  · have hz := all_zero V
    have hd := digB_nxtA m (allN m) 0 0
    unfold DoneA at hk
    rw [h0] at hk
    have e0 : nextN m 0 = 2 ^ 0 := rfl
    rw [hk, hz, e0, digB_pow] at hd
    exact absurd hd (by decide)
  · refine ⟨h0, fun y hy => ?_⟩
    have hn0 : (seqA m (allN m) pickMin k).2 ≠ 0 := fun h => by have := h0.zero; rw [h] at this; exact absurd this (by decide)
    have hd := digB_nxtA m (allN m) (seqA m (allN m) pickMin k).2 y
    unfold DoneA at hk
    rw [hk, digB_nextN V hn0, hy, Bool.and_true] at hd
    rw [← hd]
    unfold digB
    simp
theorem woE_zero {m : Mz} (V : Valid m) : woE m 0 = 0 := most_none (by rw [digB_wo V (by decide)]; simp) (done_ex V _ picks_min)
theorem woE_big {m : Mz} (V : Valid m) {x : Nat} (hx : x < 12) (h0 : x ≠ 0) : woE m x = bigN m (woN m x) := most_big V (by rw [digB_wo V hx, all_zero V, decide_eq_false h0]; rfl)
theorem wo_same {m : Mz} (V : Valid m) {x : Nat} (hx : x < 12) (hn : digB (allE m) x = false) : woE m x = allE m := by
  have hb := allE_big V
  have h0 : x ≠ 0 := fun h => by rw [h, hb.1.zero] at hn; cases hn
  rw [woE_big V hx h0]
  exact big_eq V (big_same (allN_lt V) hx hb hn)
noncomputable def entB (m : Mz) (x : Int) : Bool := mzNodeB m x && digB (allE m) x.toNat
noncomputable def latV (m : Mz) (x : Int) : Int := if entB m x then (((digsTo (woE m x.toNat) 12).length : Nat) : Int) else 0
theorem entB_no {m : Mz} {x : Int} (h : mzNodeB m x = false) : entB m x = false := by unfold entB; rw [h]; rfl
theorem entB_yes {m : Mz} {x : Int} (h : mzNodeB m x = true) : entB m x = digB (allE m) x.toNat := by unfold entB; rw [h]; rfl
theorem latV_no {m : Mz} {x : Int} (h : entB m x = false) : latV m x = 0 := by unfold latV; rw [h]; rfl
theorem latV_yes {m : Mz} {x : Int} (h : entB m x = true) : latV m x = (((digsTo (woE m x.toNat) 12).length : Nat) : Int) := by unfold latV; rw [if_pos h]
theorem mz_node {m : Mz} {x : Int} (h : mzNodeB m x = true) : Valid m ∧ 0 ≤ x ∧ x < m.size := by
  unfold mzNodeB at h
  rw [Bool.and_eq_true] at h
  have h2 := h.2
  unfold nodeB at h2
  rw [decide_eq_true_iff] at h2
  exact ⟨valid_of h.1, h2⟩
theorem allE_lt {m : Mz} (V : Valid m) : allE m < 4096 := ((allE_big V).1.lt V).1
theorem woE_lt {m : Mz} (V : Valid m) (x : Nat) : woE m x < 4096 := by
  obtain ⟨k, hk⟩ := done_ex V (woN m x) picks_min
  unfold woE
  rw [most_done hk]
  exact (seqA_ok V picks_min k).1
/-- the complete order has the node -/
theorem ent_has {m : Mz} (V : Valid m) {x : Int} (h0 : 0 ≤ x) : memB (fullA m (allN m) pickMin).1 x = digB (allE m) x.toNat := by
  have he : allE m = mk (fullA m (allN m) pickMin).1 := full_mk V (allN m) pmin
  rw [he, Bool.eq_iff_iff, digB_mk (fun y hy => ((full_bd V (allN m) pmin).2.2 y hy).1)]
  unfold memB
  rw [List.contains_iff_mem, show ((x.toNat : Nat) : Int) = x by omega]
noncomputable def preB (m : Mz) (x y : Int) : Bool := mzNodeB m x && nodeB m.size y
noncomputable def preV (m : Mz) (x y : Int) : Bool := preB m x y && (!decide (x = y) && (digB (allE m) y.toNat && !digB (woE m x.toNat) y.toNat))
theorem preV_no {m : Mz} {x y : Int} (h : preB m x y = false) : preV m x y = false := by unfold preV; rw [h]; rfl
theorem preV_yes {m : Mz} {x y : Int} (h : preB m x y = true) : preV m x y = (!decide (x = y) && (digB (allE m) y.toNat && !digB (woE m x.toNat) y.toNat)) := by unfold preV; rw [h]; rfl
/-- what the model asks besides -/
theorem pre_ent {m : Mz} (V : Valid m) {x : Nat} (hx : x < 12) {y : Nat} (h : digB (allE m) x = false) : (digB (allE m) y && !digB (woE m x) y) = false := by
  rw [wo_same V hx h]
  cases digB (allE m) y <;> rfl
end M
end Go.Proofs.Ytdjmmgfjcchloaa
