/-
  MATHEMATICS of reaching, own to these proofs: the list of all nodes to which one comes, and what tells it. No condition.
-/
import Derived.Test.YthgmkkkfhbjhoaaReachMath
import Derived.Test.YthgmkkkfhbjhoaaOpenMath
import Derived.Test.YthgmkkkfhbjhoaaDoorsAt
namespace Go.Proofs.Ythgmkkkfhbjhoaa
open Go.RowKit
namespace M
noncomputable def rchL (ds : List Dr) (op : Dr → Bool) (x : Int) : List Int := ((List.range 12).filter fun p : Nat => @decide (Rch ds op x (p : Int)) (Classical.propDecidable _)).map fun p : Nat => (p : Int)
theorem rchL_len (ds : List Dr) (op : Dr → Bool) (x : Int) : (rchL ds op x).length ≤ 12 := by
  unfold rchL
  rw [List.length_map]
  refine Nat.le_trans (List.length_filter_le _ _) ?_
  simp
theorem mem_rchL {ds : List Dr} {op : Dr → Bool} {x : Int} (hb : ∀ y, Rch ds op x y → 0 ≤ y ∧ y < 12) (y : Int) : y ∈ rchL ds op x ↔ Rch ds op x y := by
  unfold rchL
  rw [List.mem_map]
  constructor
  · rintro ⟨p, hp, rfl⟩
    rw [List.mem_filter] at hp
    exact @of_decide_eq_true _ (Classical.propDecidable _) hp.2
  · intro h
    obtain ⟨h0, h1⟩ := hb y h
    have e : ((y.toNat : Nat) : Int) = y := by omega
    refine ⟨y.toNat, ?_, e⟩
    rw [List.mem_filter, List.mem_range]
    refine ⟨by omega, @decide_eq_true _ (Classical.propDecidable _) ?_⟩
    rw [e]; exact h
theorem rchL_asc (ds : List Dr) (op : Dr → Bool) (x : Int) : Asc ltI (rchL ds op x) := by
  unfold rchL Asc
  rw [List.pairwise_map]
  refine (List.Pairwise.filter _ List.pairwise_lt_range).imp ?_
  intro a b hab
  unfold ltI
  rw [decide_eq_true_iff]
  omega
/-- whatever list ascends and has just the nodes to which one comes is that one -/
theorem rchL_eq {ds : List Dr} {op : Dr → Bool} {x : Int} (hb : ∀ y, Rch ds op x y → 0 ≤ y ∧ y < 12) {l : List Int} (h1 : Asc ltI l) (h2 : ∀ y, y ∈ l ↔ Rch ds op x y) : rchL ds op x = l :=
  (rchL_asc ds op x).ext ordI h1 fun y => by rw [mem_rchL hb, h2]
theorem rch_node {m : Mz} (V : Valid m) {op : Dr → Bool} {x : Int} (hx : 0 ≤ x ∧ x < m.size) {y : Int} (h : Rch m.doors op x y) : 0 ≤ y ∧ y < m.size := by
  induction h with
  | refl => exact hx
  | fwd hd _ _ _ =>
    obtain ⟨k, hk, rfl⟩ := List.mem_iff_getElem.1 hd
    obtain ⟨a, b, c, d, _⟩ := V.door k hk
    exact ⟨c, d⟩
  | bwd hd _ _ _ =>
    obtain ⟨k, hk, rfl⟩ := List.mem_iff_getElem.1 hd
    obtain ⟨a, b, c, d, _⟩ := V.door k hk
    exact ⟨a, b⟩
def openTo (set : Int) (d : Dr) : Bool := hasB set d.2.2
def openTo2 (set : Int) (d : Dr) : Bool := has2B set d.2.2
theorem open_both {m : Mz} (V : Valid m) {set : Int} (h0 : 0 ≤ set) (h1 : set < 64) : ∀ d ∈ m.doors, openTo set d = openTo2 set d := by
  intro d hd
  obtain ⟨k, hk, rfl⟩ := List.mem_iff_getElem.1 hd
  obtain ⟨_, _, _, _, _, b, c⟩ := V.door k hk
  exact has_same h0 h1 b c
theorem rch_both {m : Mz} (V : Valid m) {set : Int} (h0 : 0 ≤ set) (h1 : set < 64) {x y : Int} : Rch m.doors (openTo set) x y ↔ Rch m.doors (openTo2 set) x y :=
  ⟨Rch.mono fun d hd ho => by rw [← open_both V h0 h1 d hd]; exact ho, Rch.mono fun d hd ho => by rw [open_both V h0 h1 d hd]; exact ho⟩
/-- all nodes to which one comes -/
noncomputable def reachOf (m : Mz) (x set : Int) : List Int := rchL m.doors (openTo set) x
def reachB (m : Mz) (x set : Int) : Bool := mzNodeB m x && setB set
noncomputable def reachV (m : Mz) (x set : Int) : List Int := if reachB m x set then reachOf m x set else []
theorem reachV_yes {m : Mz} {x set : Int} (h : reachB m x set = true) : reachV m x set = reachOf m x set := by unfold reachV; rw [if_pos h]
theorem reachV_no {m : Mz} {x set : Int} (h : reachB m x set = false) : reachV m x set = [] := by unfold reachV; rw [h]; rfl
theorem reachV_len (m : Mz) (x set : Int) : (reachV m x set).length ≤ 1048576 := by
  unfold reachV
  split
  · have := rchL_len m.doors (openTo set) x
    unfold reachOf
    omega
  · simp
/-- the program's number tells it -/
theorem reach_mask {m : Mz} (V : Valid m) {x : Nat} {set : Int} (hx : (x : Int) < m.size) {n : Nat} (h : MaskOk m.doors (openTo set) x n) (hp : passN (openTo set) n m.doors = n) : digsTo n 12 = reachOf m x set := by
  have hv : ∀ d ∈ m.doors, 0 ≤ d.1 ∧ d.1 < 12 ∧ 0 ≤ d.2.1 ∧ d.2.1 < 12 := by
    intro d hd
    obtain ⟨k, hk, rfl⟩ := List.mem_iff_getElem.1 hd
    obtain ⟨a, b, c, e, _⟩ := V.door k hk
    have := V.size12
    omega
  exact (rchL_eq (fun y hy => by have := rch_node V ⟨by omega, hx⟩ hy; have := V.size12; omega) (digsTo_asc n 12) (mask_end h hp hv)).symm
/-- the model's list is it -/
theorem reach_list {m : Mz} (V : Valid m) {x set : Int} (h0 : 0 ≤ set) (h1 : set < 64) (hx : 0 ≤ x ∧ x < m.size) {out list : List Int} (h : ListOk m.doors (openTo2 set) x out list) (hc : ∀ z ∈ list, ∀ d ∈ m.doors, openTo2 set d = true → (d.1 = z → d.2.1 ∈ list) ∧ (d.2.1 = z → d.1 ∈ list)) : out = reachOf m x set :=
  (rchL_eq (fun y hy => by have := rch_node V hx hy; have := V.size12; omega) h.asc fun y => by rw [list_end h hc, rch_both V h0 h1]).symm
end M
end Go.Proofs.Ythgmkkkfhbjhoaa
