/-
  CONTRACTS of spec.l2Node and of DoorsAt on both sides: the places of all doors at a node, in a new list, ascending, or false; what lay in memory stays. No condition but that the maze reads so.
  MATHEMATICS of reaching, own to these proofs: the list of all nodes to which one comes, and what tells it. No condition.
  MATHEMATICS of rounds, own to these proofs: the sets of colours behind each round, the nodes entered, when the rounds end; the program's pairs of nodes and colours tell the same. No condition.
  MATHEMATICS of the rounds in which nodes are entered, node by node, own to these proofs. No condition.
  CONTRACTS for a door put to its place: spec.l1Least, spec.l1Most; words on rows. No condition.
  CONTRACTS of spec.l1Put and spec.l1Has: a number put to its place, in memory of the call's own, or where they were; what lay in memory stays. Condition: the numbers lie in memory of the caller's own, at most 1000 of them, and one at least.
  CONTRACTS of spec.l3Ask and impl.Maze.goal, and words for what is asked of a valid maze and a set alone, own to these proofs; what lay in memory stays. No condition but that the maze reads so.
  CONTRACTS of doors between nodes: spec.l2Joins, l2Has, l2Open; impl.hasAll, needsBetween, isOpen; what lay in memory stays. Condition: the maze reads so; for impl.isOpen it is valid.
-/
import Derived.Test.YtbcobheiofajeaaSpecMaze
import Derived.Test.YtbcobheiofajeaaWBReachMath
import Derived.Test.YtbcobheiofajeaaWCOwnMaz2
import Derived.Deep.RegionHeld3
import Derived.Deep.RegionLaw
import Derived.Laws.StructEq
namespace Go.Proofs.Ytbcobheiofajeaa
open Go.RowKit
namespace M
def mzNodeB (m : Mz) (x : Int) : Bool := mazeB m && nodeB m.size x
def touchB (d : Dr) (x : Int) : Bool := decide (d.1 = x ∨ d.2.1 = x)
/-- the places below k whose doors are at x -/
def placesTo (l : List Dr) (x : Int) (k : Nat) : List Int := ((List.range k).filter fun i => touchB (l.getD i default) x).map fun i : Nat => (i : Int)
theorem placesTo_yes {l : List Dr} {x : Int} {k : Nat} (hk : k < l.length) (h : touchB l[k] x = true) : placesTo l x (k + 1) = placesTo l x k ++ [(k : Int)] := by
  unfold placesTo
  have hg : l.getD k default = l[k] := by rw [List.getD_eq_getElem?_getD, List.getElem?_eq_getElem hk]; rfl
  rw [List.range_succ, List.filter_append, List.filter_cons_of_pos (by rw [hg]; exact h)]
  simp
theorem placesTo_no {l : List Dr} {x : Int} {k : Nat} (hk : k < l.length) (h : touchB l[k] x = false) : placesTo l x (k + 1) = placesTo l x k := by
  unfold placesTo
  have hg : l.getD k default = l[k] := by rw [List.getD_eq_getElem?_getD, List.getElem?_eq_getElem hk]; rfl
  rw [List.range_succ, List.filter_append, List.filter_cons_of_neg (by rw [hg, h]; decide)]
  simp
theorem placesTo_len (l : List Dr) (x : Int) (k : Nat) : (placesTo l x k).length ≤ k := by
  unfold placesTo
  rw [List.length_map]
  have := List.length_filter_le (fun i => touchB (l.getD i default) x) (List.range k)
  simpa using this
def doorsAtV (m : Mz) (x : Int) : List Int := if mzNodeB m x then placesTo m.doors x m.doors.length else []
theorem doorsAtV_yes {m : Mz} {x : Int} (h : mzNodeB m x = true) : doorsAtV m x = placesTo m.doors x m.doors.length := by unfold doorsAtV; rw [if_pos h]
theorem doorsAtV_no {m : Mz} {x : Int} (h : mzNodeB m x = false) : doorsAtV m x = [] := by unfold doorsAtV; rw [h]; rfl
theorem doorsAtV_len (m : Mz) (x : Int) : (doorsAtV m x).length ≤ 1048576 := by
  unfold doorsAtV
  split
  · rename_i h
    unfold mzNodeB at h
    rw [Bool.and_eq_true] at h
    have := placesTo_len m.doors x m.doors.length
    have := (valid_of h.1).few
    omega
  · simp
theorem mzNode_no {m : Mz} {x : Int} (h : mazeB m = false) : mzNodeB m x = false := by unfold mzNodeB; rw [h]; rfl
theorem mzNode_no2 {m : Mz} {x : Int} (h : nodeB m.size x = false) : mzNodeB m x = false := by unfold mzNodeB; rw [h]; cases mazeB m <;> rfl
theorem mzNode_yes {m : Mz} {x : Int} (h : mazeB m = true) (h2 : nodeB m.size x = true) : mzNodeB m x = true := by unfold mzNodeB; rw [h, h2]; rfl
end M
namespace C
set_option maxHeartbeats 1600000
set_option maxRecDepth 20000
end C
end Go.Proofs.Ytbcobheiofajeaa
namespace Go.Proofs.Ytbcobheiofajeaa
open Go.RowKit
namespace M
noncomputable def rchL (ds : List Dr) (op : Dr → Bool) (x : Int) : List Int := ((List.range 12).filter fun p : Nat => @decide (Rch ds op x (p : Int)) (Classical.propDecidable _)).map fun p : Nat => (p : Int)
theorem rchL_len (ds : List Dr) (op : Dr → Bool) (x : Int) : (rchL ds op x).length ≤ 12 := by
  unfold rchL
  rw [List.length_map]
  refine Nat.le_trans (List.length_filter_le _ _) ?_
  simp
theorem mem_rchL {ds : List Dr} {op : Dr → Bool} {x : Int} (hb : ∀ y, Rch ds op x y → 0 ≤ y ∧ y < 12) (y : Int) : y ∈ rchL ds op x ↔ Rch ds op x y := by
  unfold rchL
  rw [List.mem_map]
  constructor
  · rintro ⟨p, hp, rfl⟩
    rw [List.mem_filter] at hp
    exact @of_decide_eq_true _ (Classical.propDecidable _) hp.2
  · intro h
    obtain ⟨h0, h1⟩ := hb y h
    have e : ((y.toNat : Nat) : Int) = y := by omega
    refine ⟨y.toNat, ?_, e⟩
    rw [List.mem_filter, List.mem_range]
    refine ⟨by omega, @decide_eq_true _ (Classical.propDecidable _) ?_⟩
    rw [e]; exact h
theorem rchL_asc (ds : List Dr) (op : Dr → Bool) (x : Int) : Asc ltI (rchL ds op x) := by
  unfold rchL Asc
  rw [List.pairwise_map]
  refine (List.Pairwise.filter _ List.pairwise_lt_range).imp ?_
  intro a b hab
  unfold ltI
  rw [decide_eq_true_iff]
  omega
/-- whatever list ascends and has just the nodes to which one comes is that one -/
theorem rchL_eq {ds : List Dr} {op : Dr → Bool} {x : Int} (hb : ∀ y, Rch ds op x y → 0 ≤ y ∧ y < 12) {l : List Int} (h1 : Asc ltI l) (h2 : ∀ y, y ∈ l ↔ Rch ds op x y) : rchL ds op x = l :=
  (rchL_asc ds op x).ext ordI h1 fun y => by rw [mem_rchL hb, h2]
theorem rch_node {m : Mz} (V : Valid m) {op : Dr → Bool} {x : Int} (hx : 0 ≤ x ∧ x < m.size) {y : Int} (h : Rch m.doors op x y) : 0 ≤ y ∧ y < m.size := by
  induction h with
  | refl => exact hx
  | fwd hd _ _ _ =>
    obtain ⟨k, hk, rfl⟩ := List.mem_iff_getElem.1 hd
    obtain ⟨a, b, c, d, _⟩ := V.door k hk
    exact ⟨c, d⟩
  | bwd hd _ _ _ =>
    obtain ⟨k, hk, rfl⟩ := List.mem_iff_getElem.1 hd
    obtain ⟨a, b, c, d, _⟩ := V.door k hk
    exact ⟨a, b⟩
def openTo (set : Int) (d : Dr) : Bool := hasB set d.2.2
def openTo2 (set : Int) (d : Dr) : Bool := has2B set d.2.2
theorem open_both {m : Mz} (V : Valid m) {set : Int} (h0 : 0 ≤ set) (h1 : set < 64) : ∀ d ∈ m.doors, openTo set d = openTo2 set d := by
  intro d hd
  obtain ⟨k, hk, rfl⟩ := List.mem_iff_getElem.1 hd
  obtain ⟨_, _, _, _, _, b, c⟩ := V.door k hk
  exact has_same h0 h1 b c
theorem rch_both {m : Mz} (V : Valid m) {set : Int} (h0 : 0 ≤ set) (h1 : set < 64) {x y : Int} : Rch m.doors (openTo set) x y ↔ Rch m.doors (openTo2 set) x y :=
  ⟨Rch.mono fun d hd ho => by rw [← open_both V h0 h1 d hd]; exact ho, Rch.mono fun d hd ho => by rw [open_both V h0 h1 d hd]; exact ho⟩
/-- all nodes to which one comes -/
noncomputable def reachOf (m : Mz) (x set : Int) : List Int := rchL m.doors (openTo set) x
def reachB (m : Mz) (x set : Int) : Bool := mzNodeB m x && setB set
noncomputable def reachV (m : Mz) (x set : Int) : List Int := if reachB m x set then reachOf m x set else []
theorem reachV_yes {m : Mz} {x set : Int} (h : reachB m x set = true) : reachV m x set = reachOf m x set := by unfold reachV; rw [if_pos h]
theorem reachV_no {m : Mz} {x set : Int} (h : reachB m x set = false) : reachV m x set = [] := by unfold reachV; rw [h]; rfl
theorem reachV_len (m : Mz) (x set : Int) : (reachV m x set).length ≤ 1048576 := by
  unfold reachV
  split
  · have := rchL_len m.doors (openTo set) x
    unfold reachOf
    omega
  · simp
/-- the program's number tells it -/
theorem reach_mask {m : Mz} (V : Valid m) {x : Nat} {set : Int} (hx : (x : Int) < m.size) {n : Nat} (h : MaskOk m.doors (openTo set) x n) (hp : passN (openTo set) n m.doors = n) : digsTo n 12 = reachOf m x set := by
  have hv : ∀ d ∈ m.doors, 0 ≤ d.1 ∧ d.1 < 12 ∧ 0 ≤ d.2.1 ∧ d.2.1 < 12 := by
    intro d hd
    obtain ⟨k, hk, rfl⟩ := List.mem_iff_getElem.1 hd
    obtain ⟨a, b, c, e, _⟩ := V.door k hk
    have := V.size12
    omega
  exact (rchL_eq (fun y hy => by have := rch_node V ⟨by omega, hx⟩ hy; have := V.size12; omega) (digsTo_asc n 12) (mask_end h hp hv)).symm
/-- the model's list is it -/
theorem reach_list {m : Mz} (V : Valid m) {x set : Int} (h0 : 0 ≤ set) (h1 : set < 64) (hx : 0 ≤ x ∧ x < m.size) {out list : List Int} (h : ListOk m.doors (openTo2 set) x out list) (hc : ∀ z ∈ list, ∀ d ∈ m.doors, openTo2 set d = true → (d.1 = z → d.2.1 ∈ list) ∧ (d.2.1 = z → d.1 ∈ list)) : out = reachOf m x set :=
  (rchL_eq (fun y hy => by have := rch_node V hx hy; have := V.size12; omega) h.asc fun y => by rw [list_end h hc, rch_both V h0 h1]).symm
end M
end Go.Proofs.Ytbcobheiofajeaa
namespace Go.Proofs.Ytbcobheiofajeaa
open Go.RowKit
namespace M
/-- the keys at the nodes of a list, in addition to a set -/
def gath (m : Mz) : List Int → Int → Int
  | [], s => s
  | x :: l, s => gath m l (bits .or .i64 s (m.keys.getD x.toNat 0))
theorem gath_append (m : Mz) : ∀ (l l' : List Int) (s : Int), gath m (l ++ l') s = gath m l' (gath m l s)
  | [], _, _ => rfl
  | _ :: l, l', _ => gath_append m l l' _
theorem gath_take {m : Mz} {l : List Int} {k : Nat} (h : k < l.length) (s : Int) : gath m (l.take (k + 1)) s = bits .or .i64 (gath m (l.take k) s) (m.keys.getD l[k].toNat 0) := by
  rw [List.take_succ_eq_append_getElem h, gath_append]
  rfl
/-- a set has all colours of another one -/
def SubS (s t : Int) : Prop := has2B t s = true
theorem and_nat {a b : Nat} (ha : a < 64) (hb : b < 64) : bits .and .i64 (a : Int) (b : Int) = ((a &&& b : Nat) : Int) := (bits_nat .i64 62 (by decide) wraps_i64 a b (by omega) (by omega)).1
theorem or_nat {a b : Nat} (ha : a < 64) (hb : b < 64) : bits .or .i64 (a : Int) (b : Int) = ((a ||| b : Nat) : Int) := (bits_nat .i64 62 (by decide) wraps_i64 a b (by omega) (by omega)).2
theorem sub_nat {a b : Nat} (ha : a < 64) (hb : b < 64) : SubS (a : Int) (b : Int) ↔ b &&& a = a := by
  unfold SubS has2B
  rw [and_nat hb ha, beq_iff_eq]
  exact ⟨fun h => by exact_mod_cast h, fun h => by exact_mod_cast h⟩
theorem SubS.trans {s t u : Int} (hs : 0 ≤ s ∧ s < 64) (ht : 0 ≤ t ∧ t < 64) (hu : 0 ≤ u ∧ u < 64) (h1 : SubS s t) (h2 : SubS t u) : SubS s u := by
  obtain ⟨a, rfl⟩ : ∃ a : Nat, s = a := ⟨s.toNat, by omega⟩
  obtain ⟨b, rfl⟩ : ∃ a : Nat, t = a := ⟨t.toNat, by omega⟩
  obtain ⟨c, rfl⟩ : ∃ a : Nat, u = a := ⟨u.toNat, by omega⟩
  rw [sub_nat (by omega) (by omega)] at *
  rw [← h1, ← Nat.and_assoc, h2]
theorem SubS.refl {s : Int} (hs : 0 ≤ s ∧ s < 64) : SubS s s := by
  obtain ⟨a, rfl⟩ : ∃ a : Nat, s = a := ⟨s.toNat, by omega⟩
  rw [sub_nat (by omega) (by omega), Nat.and_self]
theorem SubS.le {s t : Int} (hs : 0 ≤ s ∧ s < 64) (ht : 0 ≤ t ∧ t < 64) (h : SubS s t) : s ≤ t := by
  obtain ⟨a, rfl⟩ : ∃ a : Nat, s = a := ⟨s.toNat, by omega⟩
  obtain ⟨b, rfl⟩ : ∃ a : Nat, t = a := ⟨t.toNat, by omega⟩
  rw [sub_nat (by omega) (by omega)] at h
  have : b &&& a ≤ b := Nat.and_le_left
  omega
theorem SubS.or {s t : Int} (hs : 0 ≤ s ∧ s < 64) (ht : 0 ≤ t ∧ t < 64) : SubS s (bits .or .i64 s t) := by
  obtain ⟨a, rfl⟩ : ∃ a : Nat, s = a := ⟨s.toNat, by omega⟩
  obtain ⟨b, rfl⟩ : ∃ a : Nat, t = a := ⟨t.toNat, by omega⟩
  have ha : a < 64 := by omega
  have hb : b < 64 := by omega
  have h64 : (2 : Nat) ^ 6 = 64 := rfl
  have hlt : a ||| b < 64 := by rw [← h64]; exact Nat.or_lt_two_pow (by rw [h64]; exact ha) (by rw [h64]; exact hb)
  rw [or_nat ha hb, sub_nat ha hlt]
  refine Nat.eq_of_testBit_eq fun p => ?_
  rw [Nat.testBit_and, Nat.testBit_or]
  cases a.testBit p <;> simp
theorem key_set {m : Mz} (V : Valid m) (k : Nat) : 0 ≤ m.keys.getD k 0 ∧ m.keys.getD k 0 < 64 := by
  rw [List.getD_eq_getElem?_getD]
  rcases Nat.lt_or_ge k m.keys.length with h | h
  · rw [List.getElem?_eq_getElem h]
    exact V.key k h
  · rw [List.getElem?_eq_none h]
    exact ⟨by decide, by decide⟩
theorem gath_set {m : Mz} (V : Valid m) : ∀ (l : List Int) (s : Int), 0 ≤ s ∧ s < 64 → (0 ≤ gath m l s ∧ gath m l s < 64) ∧ SubS s (gath m l s)
  | [], _, h => ⟨h, SubS.refl h⟩
  | x :: l, s, h => by
    have hk := key_set V x.toNat
    have ho := or_set h.1 h.2 hk.1 hk.2
    have ih := gath_set V l _ ho
    exact ⟨ih.1, (SubS.or h hk).trans h ho ih.1 ih.2⟩
/-- the colours behind a round -/
noncomputable def nextC (m : Mz) (s : Int) : Int := gath m (reachOf m 0 s) s
theorem nextC_set {m : Mz} (V : Valid m) {s : Int} (h : 0 ≤ s ∧ s < 64) : (0 ≤ nextC m s ∧ nextC m s < 64) ∧ SubS s (nextC m s) := gath_set V _ _ h
/-- more colours open no fewer doors -/
theorem open_more {m : Mz} (V : Valid m) {s t : Int} (hs : 0 ≤ s ∧ s < 64) (ht : 0 ≤ t ∧ t < 64) (h : SubS s t) : ∀ d ∈ m.doors, openTo s d = true → openTo t d = true := by
  intro d hd
  rw [open_both V hs.1 hs.2 d hd, open_both V ht.1 ht.2 d hd]
  intro ho
  obtain ⟨k, hk, rfl⟩ := List.mem_iff_getElem.1 hd
  obtain ⟨_, _, _, _, _, b, c⟩ := V.door k hk
  exact SubS.trans (s := m.doors[k].2.2) ⟨b, c⟩ hs ht ho h
theorem mem_reach {m : Mz} (V : Valid m) (s : Int) (y : Int) : y ∈ reachOf m 0 s ↔ Rch m.doors (openTo s) 0 y :=
  mem_rchL (fun z hz => by have := rch_node V ⟨Int.le_refl _, by have := V.size1; omega⟩ hz; have := V.size12; omega) y
theorem reach_node {m : Mz} (V : Valid m) {s y : Int} (h : y ∈ reachOf m 0 s) : 0 ≤ y ∧ y < m.size := rch_node V ⟨Int.le_refl _, by have := V.size1; omega⟩ ((mem_reach V s y).1 h)
theorem reach_more {m : Mz} (V : Valid m) {s t : Int} (hs : 0 ≤ s ∧ s < 64) (ht : 0 ≤ t ∧ t < 64) (h : SubS s t) {y : Int} (hy : y ∈ reachOf m 0 s) : y ∈ reachOf m 0 t :=
  (mem_reach V t y).2 (Rch.mono (open_more V hs ht h) ((mem_reach V s y).1 hy))
theorem reach_zero {m : Mz} (V : Valid m) (s : Int) : (0 : Int) ∈ reachOf m 0 s := (mem_reach V s 0).2 .refl
/-- the colours behind k rounds -/
noncomputable def it (m : Mz) (s : Int) : Nat → Int
  | 0 => s
  | k + 1 => nextC m (it m s k)
theorem it_set {m : Mz} (V : Valid m) {s : Int} (h : 0 ≤ s ∧ s < 64) : ∀ k, 0 ≤ it m s k ∧ it m s k < 64
  | 0 => h
  | k + 1 => (nextC_set V (it_set V h k)).1
theorem it_sub {m : Mz} (V : Valid m) {s : Int} (h : 0 ≤ s ∧ s < 64) (k : Nat) : SubS (it m s k) (it m s (k + 1)) := (nextC_set V (it_set V h k)).2
theorem it_le {m : Mz} (V : Valid m) {s : Int} (h : 0 ≤ s ∧ s < 64) (k : Nat) : it m s k ≤ it m s (k + 1) := (it_sub V h k).le (it_set V h k) (it_set V h (k + 1))
theorem it_more {m : Mz} (V : Valid m) {s : Int} (h : 0 ≤ s ∧ s < 64) (k : Nat) : ∀ j, SubS (it m s k) (it m s (k + j))
  | 0 => SubS.refl (it_set V h k)
  | j + 1 => (it_more V h k j).trans (it_set V h k) (it_set V h _) (it_set V h _) (it_sub V h (k + j))
theorem it_far {m : Mz} {s : Int} {k : Nat} (h : it m s (k + 1) = it m s k) : ∀ j, it m s (k + j) = it m s k
  | 0 => rfl
  | j + 1 => by
    show nextC m (it m s (k + j)) = _
    rw [it_far h j]
    exact h
/-- the last round that brings a colour is the k-th -/
def Stop (m : Mz) (s : Int) (k : Nat) : Prop := it m s (k + 1) = it m s k ∧ ∀ i, i < k → it m s (i + 1) ≠ it m s i
theorem it_grow {m : Mz} (V : Valid m) {s : Int} (h : 0 ≤ s ∧ s < 64) {k : Nat} (hk : ∀ i, i < k → it m s (i + 1) ≠ it m s i) : (k : Int) ≤ it m s k := by
  induction k with
  | zero => exact h.1
  | succ k ih =>
    have h1 := ih fun i hi => hk i (by omega)
    have h2 := it_le V h k
    have h3 := hk k (by omega)
    omega
theorem least_of {p : Nat → Prop} : ∀ k, p k → ∃ j, j ≤ k ∧ p j ∧ ∀ i, i < j → ¬ p i := by
  intro k
  induction k using Nat.strongRecOn with
  | ind k ih =>
    intro hk
    rcases Classical.em (∃ i, i < k ∧ p i) with ⟨i, hi, hp⟩ | hn
    · obtain ⟨j, h1, h2, h3⟩ := ih i hi hp
      exact ⟨j, by omega, h2, h3⟩
    · exact ⟨k, Nat.le_refl _, hk, fun i hi hp => hn ⟨i, hi, hp⟩⟩
theorem stop_ex {m : Mz} (V : Valid m) {s : Int} (h : 0 ≤ s ∧ s < 64) : ∃ k, k ≤ 64 ∧ Stop m s k := by
  rcases Classical.em (∃ k, k < 64 ∧ it m s (k + 1) = it m s k) with ⟨k, hk, he⟩ | hn
  · obtain ⟨j, h1, h2, h3⟩ := least_of (p := fun k => it m s (k + 1) = it m s k) k he
    exact ⟨j, by omega, h2, h3⟩
  · have := it_grow V h (k := 64) fun i hi he => hn ⟨i, hi, he⟩
    have := (it_set V h 64).2
    omega
noncomputable def lastK (m : Mz) (s : Int) : Nat := @dite _ (∃ k, k ≤ 64 ∧ Stop m s k) (Classical.propDecidable _) (fun h => Classical.choose h) fun _ => 0
theorem lastK_le (m : Mz) (s : Int) : lastK m s ≤ 64 := by
  unfold lastK
  split
  · rename_i h; exact (Classical.choose_spec h).1
  · omega
theorem lastK_stop {m : Mz} (V : Valid m) {s : Int} (h : 0 ≤ s ∧ s < 64) : Stop m s (lastK m s) := by
  unfold lastK
  rw [dif_pos (stop_ex V h)]
  exact (Classical.choose_spec (stop_ex V h)).2
/-- on the way: the next round brings nothing just at the last one -/
theorem last_iff {m : Mz} (V : Valid m) {s : Int} (h : 0 ≤ s ∧ s < 64) {k : Nat} (hk : k ≤ lastK m s) : it m s (k + 1) = it m s k ↔ k = lastK m s := by
  obtain ⟨h1, h2⟩ := lastK_stop V h
  constructor
  · intro he
    rcases Nat.lt_or_ge k (lastK m s) with hlt | hge
    · exact absurd he (h2 k hlt)
    · omega
  · rintro rfl
    exact h1
theorem it_last {m : Mz} (V : Valid m) {s : Int} (h : 0 ≤ s ∧ s < 64) (j : Nat) : it m s (lastK m s + j) = it m s (lastK m s) := it_far (lastK_stop V h).1 j
/-- the sets that one has at first and behind each round that brings a colour -/
noncomputable def setsTo (m : Mz) (s : Int) (k : Nat) : List Int := (List.range (k + 1)).map (it m s)
theorem setsTo_succ (m : Mz) (s : Int) (k : Nat) : setsTo m s (k + 1) = setsTo m s k ++ [it m s (k + 1)] := by unfold setsTo; rw [List.range_succ (n := k + 1), List.map_append]; rfl
theorem setsTo_len (m : Mz) (s : Int) (k : Nat) : (setsTo m s k).length = k + 1 := by unfold setsTo; simp
theorem setsTo_at {m : Mz} {s : Int} {k i : Nat} (h : i < k + 1) : (setsTo m s k)[i]? = some (it m s i) := by unfold setsTo; rw [List.getElem?_map, List.getElem?_range h]; rfl
/-- the set that one has at last -/
noncomputable def finC (m : Mz) (s : Int) : Int := it m s (lastK m s)
/-- the round in which a node is entered, of the first k rounds, or 0 -/
noncomputable def entTo (m : Mz) (s : Int) : Nat → Int → Nat
  | 0, _ => 0
  | k + 1, x => if entTo m s k x = 0 then (if x ∈ reachOf m 0 (it m s k) then k + 1 else 0) else entTo m s k x
theorem entTo_le (m : Mz) (s : Int) (x : Int) : ∀ k, entTo m s k x ≤ k
  | 0 => Nat.le_refl _
  | k + 1 => by
    have := entTo_le m s x k
    unfold entTo
    split
    · split <;> omega
    · omega
theorem entTo_zero {m : Mz} {s : Int} {x : Int} : ∀ {k : Nat}, entTo m s k x = 0 ↔ ∀ i, i < k → x ∉ reachOf m 0 (it m s i)
  | 0 => ⟨fun _ i hi => by omega, fun _ => rfl⟩
  | k + 1 => by
    have ih := entTo_zero (m := m) (s := s) (x := x) (k := k)
    unfold entTo
    constructor
    · intro h i hi
      split at h
      · rename_i h0
        split at h
        · omega
        · rename_i hn
          rcases Nat.lt_or_ge i k with hlt | hge
          · exact ih.1 h0 i hlt
          · obtain rfl : i = k := by omega
            exact hn
      · rename_i h0
        exact absurd h h0
    · intro h
      rw [if_pos (ih.2 fun i hi => h i (by omega)), if_neg (h k (by omega))]
/-- the first round that enters a node -/
theorem entTo_pos {m : Mz} {s : Int} {x : Int} {r : Nat} : ∀ {k : Nat}, entTo m s k x = r + 1 ↔ r < k ∧ x ∈ reachOf m 0 (it m s r) ∧ ∀ i, i < r → x ∉ reachOf m 0 (it m s i)
  | 0 => ⟨fun h => (by cases h), fun h => (by omega)⟩
  | k + 1 => by
    have ih := entTo_pos (m := m) (s := s) (x := x) (r := r) (k := k)
    have hz := entTo_zero (m := m) (s := s) (x := x) (k := k)
    unfold entTo
    constructor
    · intro h
      split at h
      · rename_i h0
        split at h
        · rename_i hm
          obtain rfl : k = r := by omega
          exact ⟨by omega, hm, hz.1 h0⟩
        · cases h
      · obtain ⟨a, b, c⟩ := ih.1 h
        exact ⟨by omega, b, c⟩
    · rintro ⟨a, b, c⟩
      rcases Nat.lt_or_ge r k with hlt | hge
      · rw [ih.2 ⟨hlt, b, c⟩, if_neg (by omega)]
      · obtain rfl : r = k := by omega
        rw [if_pos (hz.2 c), if_pos b]
/-- what is entered at all is entered with the colours that one has at last -/
theorem ent_last {m : Mz} (V : Valid m) {s : Int} (h : 0 ≤ s ∧ s < 64) (x : Int) : entTo m s (lastK m s + 1) x ≠ 0 ↔ x ∈ reachOf m 0 (finC m s) := by
  constructor
  · intro hne
    obtain ⟨r, hr⟩ : ∃ r, entTo m s (lastK m s + 1) x = r + 1 := ⟨entTo m s (lastK m s + 1) x - 1, by omega⟩
    obtain ⟨a, b, _⟩ := entTo_pos.1 hr
    obtain ⟨j, hj⟩ : ∃ j, lastK m s = r + j := ⟨lastK m s - r, by omega⟩
    unfold finC
    rw [hj]
    exact reach_more V (it_set V h _) (it_set V h _) (it_more V h r j) b
  · intro hm h0
    exact entTo_zero.1 h0 (lastK m s) (by omega) hm
noncomputable def nodeRounds (m : Mz) (s : Int) (k : Nat) : List Int := (List.range m.size.toNat).map fun x : Nat => ((entTo m s k (x : Int) : Nat) : Int)
theorem nodeRounds_len (m : Mz) (s : Int) (k : Nat) : (nodeRounds m s k).length = m.size.toNat := by unfold nodeRounds; simp

-- the program's pairs
/-- the number whose binary digits are the nodes of a list -/
def mk : List Int → Nat
  | [] => 0
  | x :: l => 2 ^ x.toNat ||| mk l
theorem digB_mk {l : List Int} (hl : ∀ x ∈ l, 0 ≤ x) (p : Nat) : digB (mk l) p = true ↔ (p : Int) ∈ l := by
  induction l with
  | nil => simp [mk, digB]
  | cons x l ih =>
    have hx := hl x (List.mem_cons_self ..)
    unfold mk
    rw [digB_or, Bool.or_eq_true, ih fun y hy => hl y (List.mem_cons_of_mem _ hy), digB_pow, decide_eq_true_iff, List.mem_cons]
    constructor
    · rintro (h | h)
      · exact .inl (by omega)
      · exact .inr h
    · rintro (h | h)
      · exact .inl (by omega)
      · exact .inr h
theorem mk_lt {l : List Int} (hl : ∀ x ∈ l, x < 12) : mk l < 4096 := by
  have h12 : (2 : Nat) ^ 12 = 4096 := rfl
  induction l with
  | nil => decide
  | cons x l ih =>
    have hx := hl x (List.mem_cons_self ..)
    unfold mk
    rw [← h12]
    exact Nat.or_lt_two_pow (Nat.pow_lt_pow_of_lt (by decide) (by omega)) (by rw [h12]; exact ih fun y hy => hl y (List.mem_cons_of_mem _ hy))
theorem mk_ext {l l' : List Int} (h0 : ∀ x ∈ l, 0 ≤ x) (h1 : ∀ x ∈ l', 0 ≤ x) (h : mk l = mk l') (y : Int) : y ∈ l ↔ y ∈ l' := by
  have key : ∀ p : Nat, (p : Int) ∈ l ↔ (p : Int) ∈ l' := fun p => by rw [← digB_mk h0, ← digB_mk h1, h]
  constructor
  · intro hy
    have := h0 y hy
    have e : ((y.toNat : Nat) : Int) = y := by omega
    have := (key y.toNat).1 (by rwa [e])
    rwa [e] at this
  · intro hy
    have := h1 y hy
    have e : ((y.toNat : Nat) : Int) = y := by omega
    have := (key y.toNat).2 (by rwa [e])
    rwa [e] at this
/-- a number below 4096 is told by its digits -/
theorem mk_digs {n : Nat} (h : n < 4096) : mk (digsTo n 12) = n := by
  refine Nat.eq_of_testBit_eq fun p => ?_
  rw [← digB_testBit, ← digB_testBit, Bool.eq_iff_iff, digB_mk (fun x hx => by obtain ⟨q, rfl, _⟩ := mem_digsTo.1 hx; omega), mem_digsTo]
  constructor
  · rintro ⟨q, hq, _, hd⟩
    obtain rfl : p = q := by omega
    exact hd
  · intro hd
    refine ⟨p, rfl, ?_, hd⟩
    rcases Nat.lt_or_ge p 12 with hlt | hge
    · exact hlt
    · rw [digB_lt (k := 12) (Nat.div_eq_of_lt h) hge] at hd
      cases hd
noncomputable def gn (m : Mz) (s : Int) : Nat → Nat
  | 0 => 0
  | k + 1 => mk (reachOf m 0 (it m s k))
theorem gn_lt {m : Mz} (V : Valid m) (s : Int) : ∀ k, gn m s k < 4096
  | 0 => by show (0 : Nat) < 4096; decide
  | k + 1 => mk_lt fun _ hx => by have := reach_node V hx; have := V.size12; omega
theorem digB_gn {m : Mz} (V : Valid m) (s : Int) (k p : Nat) : digB (gn m s (k + 1)) p = true ↔ (p : Int) ∈ reachOf m 0 (it m s k) := digB_mk (fun _ hx => (reach_node V hx).1) p
theorem gn_pos {m : Mz} (V : Valid m) (s : Int) (k : Nat) : gn m s (k + 1) ≠ 0 := by
  intro h
  have := (digB_gn V s k 0).2 (reach_zero V _)
  rw [h] at this
  simp [digB] at this
/-- where the program's pairs stay the same -/
noncomputable def lastG (m : Mz) (s : Int) : Nat := if gn m s (lastK m s + 1) = gn m s (lastK m s) then lastK m s else lastK m s + 1
theorem lastG_le (m : Mz) (s : Int) : lastG m s ≤ 65 := by
  have := lastK_le m s
  unfold lastG
  split <;> omega
theorem lastG_pos {m : Mz} (V : Valid m) (s : Int) : 0 < lastG m s := by
  unfold lastG
  split
  · rename_i h
    rcases Nat.eq_zero_or_pos (lastK m s) with h0 | h0
    · rw [h0] at h
      exact absurd h (gn_pos V s 0)
    · exact h0
  · omega
theorem lastG_iff {m : Mz} (V : Valid m) {s : Int} (h : 0 ≤ s ∧ s < 64) {k : Nat} (hk : k ≤ lastG m s) : (gn m s (k + 1) = gn m s k ∧ it m s (k + 1) = it m s k) ↔ k = lastG m s := by
  rcases Nat.lt_trichotomy k (lastK m s) with hlt | heq | hgt
  · have h1 := mt (last_iff V h (Nat.le_of_lt hlt)).1 (by omega)
    constructor
    · exact fun e => absurd e.2 h1
    · intro e
      unfold lastG at e
      split at e <;> omega
  · subst heq
    have h1 := (lastK_stop V h).1
    unfold lastG
    constructor
    · exact fun e => by rw [if_pos e.1]
    · intro e
      split at e
      · rename_i hg; exact ⟨hg, h1⟩
      · omega
  · have hg : lastG m s = lastK m s + 1 := by
      unfold lastG at hk ⊢
      split <;> rename_i hc
      · rw [if_pos hc] at hk; omega
      · rfl
    obtain rfl : k = lastK m s + 1 := by omega
    have e1 : it m s (lastK m s + 1) = it m s (lastK m s) := (lastK_stop V h).1
    have e2 : it m s (lastK m s + 1 + 1) = it m s (lastK m s + 1) := by
      show nextC m (it m s (lastK m s + 1)) = nextC m (it m s (lastK m s))
      rw [e1]
    exact ⟨fun _ => hg.symm, fun _ => ⟨by show mk (reachOf m 0 (it m s (lastK m s + 1))) = mk (reachOf m 0 (it m s (lastK m s))); rw [e1], e2⟩⟩
theorem it_lastG {m : Mz} (V : Valid m) {s : Int} (h : 0 ≤ s ∧ s < 64) : it m s (lastG m s) = finC m s := by
  unfold lastG finC
  split
  · rfl
  · exact (lastK_stop V h).1
theorem gn_lastG {m : Mz} (V : Valid m) {s : Int} (h : 0 ≤ s ∧ s < 64) : digsTo (gn m s (lastG m s)) 12 = reachOf m 0 (finC m s) := by
  have e : gn m s (lastG m s) = mk (reachOf m 0 (finC m s)) := by
    have := ((lastG_iff V h (Nat.le_refl _)).2 rfl).1
    rw [← this]
    show mk (reachOf m 0 (it m s (lastG m s))) = _
    rw [it_lastG V h]
  refine (digsTo_asc _ 12).ext ordI (rchL_asc _ _ _) fun y => ?_
  rw [mem_digsTo, e]
  constructor
  · rintro ⟨p, rfl, _, hp⟩
    exact (digB_mk (fun _ hx => (reach_node V hx).1) p).1 hp
  · intro hy
    have hn := reach_node V hy
    have := V.size12
    have ey : ((y.toNat : Nat) : Int) = y := by omega
    exact ⟨y.toNat, by omega, by omega, (digB_mk (fun _ hx => (reach_node V hx).1) y.toNat).2 (by rw [ey]; exact hy)⟩
/-- the rounds told by the pairs -/
theorem ent_lastG {m : Mz} (V : Valid m) (s x : Int) : entTo m s (lastG m s) x = entTo m s (lastK m s + 1) x := by
  unfold lastG
  split
  · rename_i hg
    obtain ⟨j, hj⟩ : ∃ j, lastK m s = j + 1 := by
      rcases Nat.eq_zero_or_pos (lastK m s) with h0 | h0
      · rw [h0] at hg
        exact absurd hg (gn_pos V s 0)
      · exact ⟨lastK m s - 1, by omega⟩
    have hx : x ∈ reachOf m 0 (it m s (lastK m s)) → x ∈ reachOf m 0 (it m s j) := by
      rw [hj] at hg ⊢
      exact (mk_ext (fun _ hx => (reach_node V hx).1) (fun _ hx => (reach_node V hx).1) hg x).1
    show _ = entTo m s (lastK m s + 1) x
    have hu : entTo m s (lastK m s + 1) x = if entTo m s (lastK m s) x = 0 then (if x ∈ reachOf m 0 (it m s (lastK m s)) then lastK m s + 1 else 0) else entTo m s (lastK m s) x := rfl
    rw [hu]
    split
    · rename_i h0
      rw [if_neg]
      · exact h0
      · intro hm
        exact entTo_zero.1 h0 j (by omega) (hx hm)
    · rfl
  · rfl
end M
end Go.Proofs.Ytbcobheiofajeaa
namespace Go.Proofs.Ytbcobheiofajeaa
open Go.RowKit
namespace M
/-- the round of a node, where the nodes of P have just been looked at -/
noncomputable def vR (m : Mz) (s : Int) (r : Nat) (P : List Int) (x : Nat) : Int := if (x : Int) ∈ P ∧ entTo m s r x = 0 then ((r + 1 : Nat) : Int) else ((entTo m s r x : Nat) : Int)
noncomputable def midR (m : Mz) (s : Int) (r : Nat) (P : List Int) : List Int := (List.range m.size.toNat).map (vR m s r P)
theorem midR_len (m : Mz) (s : Int) (r : Nat) (P : List Int) : (midR m s r P).length = m.size.toNat := by unfold midR; simp
theorem midR_at {m : Mz} {s : Int} {r x : Nat} {P : List Int} (h : x < m.size.toNat) : (midR m s r P)[x]? = some (vR m s r P x) := by unfold midR; rw [List.getElem?_map, List.getElem?_range h]; rfl
theorem midR_nil (m : Mz) (s : Int) (r : Nat) : midR m s r [] = nodeRounds m s r := by
  unfold midR nodeRounds
  refine List.map_congr_left fun x _ => ?_
  unfold vR
  rw [if_neg (fun h => by cases h.1)]
theorem midR_all (m : Mz) (s : Int) (r : Nat) : midR m s r (reachOf m 0 (it m s r)) = nodeRounds m s (r + 1) := by
  unfold midR nodeRounds
  refine List.map_congr_left fun x _ => ?_
  unfold vR
  show _ = (((if entTo m s r x = 0 then (if (x : Int) ∈ reachOf m 0 (it m s r) then r + 1 else 0) else entTo m s r x : Nat)) : Int)
  by_cases h0 : entTo m s r x = 0
  · by_cases hm : (x : Int) ∈ reachOf m 0 (it m s r)
    · rw [if_pos ⟨hm, h0⟩, if_pos h0, if_pos hm]
    · rw [if_neg (fun h => hm h.1), if_pos h0, if_neg hm, h0]
  · rw [if_neg (fun h => h0 h.2), if_neg h0]
theorem vR_nonneg (m : Mz) (s : Int) (r : Nat) (P : List Int) (x : Nat) : 0 ≤ vR m s r P x := by unfold vR; split <;> omega
theorem mid_yes {m : Mz} {s : Int} {r j i : Nat} {L : List Int} (hi : i < L.length) (hj : L[i] = (j : Int)) (_hjs : j < m.size.toNat) (h : vR m s r (L.take i) j = 0) : midR m s r (L.take (i + 1)) = (midR m s r (L.take i)).set j ((r + 1 : Nat) : Int) := by
  have h0 : entTo m s r j = 0 := by
    unfold vR at h
    split at h
    · rename_i hc; exact hc.2
    · omega
  refine List.ext_getElem? fun x => ?_
  by_cases hx : x < m.size.toNat
  · rw [midR_at hx, List.getElem?_set]
    by_cases hxj : j = x
    · subst hxj
      rw [if_pos rfl, if_pos (by rw [midR_len]; exact hx)]
      congr 1
      unfold vR
      rw [if_pos ⟨by rw [List.take_succ_eq_append_getElem hi, hj]; simp, h0⟩]
    · rw [if_neg hxj, midR_at hx]
      congr 1
      unfold vR
      have : (x : Int) ∈ L.take (i + 1) ↔ (x : Int) ∈ L.take i := by
        rw [List.take_succ_eq_append_getElem hi, hj, List.mem_append, List.mem_singleton]
        exact ⟨fun h => h.resolve_right (by omega), .inl⟩
      simp only [this]
  · rw [List.getElem?_eq_none (by rw [midR_len]; omega), List.getElem?_eq_none (by rw [List.length_set, midR_len]; omega)]
theorem mid_no {m : Mz} {s : Int} {r j i : Nat} {L : List Int} (hi : i < L.length) (hj : L[i] = (j : Int)) (h : vR m s r (L.take i) j ≠ 0) : midR m s r (L.take (i + 1)) = midR m s r (L.take i) := by
  unfold midR
  refine List.map_congr_left fun x _ => ?_
  have hm : (x : Int) ∈ L.take (i + 1) ↔ (x : Int) ∈ L.take i ∨ x = j := by
    rw [List.take_succ_eq_append_getElem hi, hj, List.mem_append, List.mem_singleton]
    exact ⟨fun h => h.imp id (fun e => by omega), fun h => h.imp id (fun e => by omega)⟩
  unfold vR
  by_cases hxj : x = j
  · subst hxj
    unfold vR at h
    by_cases h0 : entTo m s r x = 0
    · by_cases hp : (x : Int) ∈ L.take i
      · rw [if_pos ⟨hm.2 (.inl hp), h0⟩, if_pos ⟨hp, h0⟩]
      · rw [if_neg (fun h => hp h.1), h0] at h
        exact absurd rfl h
    · rw [if_neg (fun h => h0 h.2), if_neg (fun h => h0 h.2)]
  · have : (x : Int) ∈ L.take (i + 1) ↔ (x : Int) ∈ L.take i := hm.trans ⟨fun h => h.resolve_right hxj, .inl⟩
    simp only [this]
theorem nodeRounds0 {m : Mz} {s : Int} {n : Nat} (h : m.size = (n : Int)) : nodeRounds m s 0 = List.replicate n 0 := by
  unfold nodeRounds
  rw [h, Int.toNat_natCast]
  refine List.ext_getElem? fun x => ?_
  rcases Nat.lt_or_ge x n with hx | hx
  · rw [List.getElem?_map, List.getElem?_range hx, List.getElem?_replicate, if_pos hx]; rfl
  · rw [List.getElem?_eq_none (by simp; omega), List.getElem?_eq_none (by simp; omega)]
end M
end Go.Proofs.Ytbcobheiofajeaa
namespace Go.Proofs.Ytbcobheiofajeaa
open Go.RowKit
namespace C
set_option maxHeartbeats 800000
set_option maxRecDepth 20000
/-- doors in memory from B on, the rest as it was -/
def PutPost (B : Nat) (w : World) (l : List M.Dr) (e : Ending) (w' : World) : Prop :=
  ∃ a c, e = .returned (.slice a l.length c) ∧ OwnAt B w'.heap.size w' 103 a (M.encDs l) ∧ l.length ≤ c ∧ c ≤ 9223372036854775807 ∧ Below w.heap.size w w'
theorem put_end {B n : Nat} {w w' W : World} {l xs : List M.Dr} {v : Value} (hW : Below w.heap.size w W) (hB : B ≤ w.heap.size) (h : w'.ownsRow W.heap.size 103 3 v n (M.encDs xs)) (hx : xs = l) (hn : n = l.length) (hb : Below W.heap.size W w') : PutPost B w l (.returned v) w' := by
  subst hx; subst hn
  obtain ⟨a, c, rfl, h1, h2, h3⟩ := own_slice h
  have := hW.size
  exact ⟨a, c, rfl, h3.mono (by omega) (Nat.le_refl _), h1, h2, hW.trans (hb.mono this)⟩
theorem encDs_single (d : M.Dr) : M.encDs [d] = M.encD d := by simp [M.encDs]
theorem encD_one (d : M.Dr) : ∀ x ∈ M.encD d, x.oneCell' = true := by
  intro x hx
  simp [M.encD] at hx
  rcases hx with rfl | rfl | rfl <;> rfl
theorem news3 {w : World} {g : Nat} {d : M.Dr} (h : Box3 w g 103 (.int .i64 d.1) (.int .i64 d.2.1) (.int .i64 d.2.2)) : ∀ j u, (M.encD d)[j]? = some u → w.cell? ((⟨g, 0, none⟩ : Addr).add j) = some u := World.news_of_block h
theorem add_off (b off j : Nat) : (⟨b, off, none⟩ : Addr).add j = ⟨b, off + j, none⟩ := by
  unfold Addr.add
  split
  · rename_i h; subst h; rfl
  · rfl
theorem news_take {W : World} {b off : Nat} {l : List M.Dr} (h : ∀ j u, (M.encDs l)[j]? = some u → W.cell? ⟨b, off + j, none⟩ = some u) (k : Nat) : ∀ j u, (M.encDs (l.take k))[j]? = some u → W.cell? ((⟨b, off, none⟩ : Addr).add j) = some u := by
  intro j u hu
  rw [M.encDs_take, List.getElem?_take] at hu
  split at hu
  · rw [add_off]; exact h j u hu
  · cases hu
theorem news_drop {W : World} {b off : Nat} {l : List M.Dr} (h : ∀ j u, (M.encDs l)[j]? = some u → W.cell? ⟨b, off + j, none⟩ = some u) (k : Nat) : ∀ j u, (M.encDs (l.drop k))[j]? = some u → W.cell? ((⟨b, off + k * 3, none⟩ : Addr).add j) = some u := by
  intro j u hu
  rw [M.encDs_drop, List.getElem?_drop] at hu
  rw [add_off, Nat.add_assoc]
  exact h _ u hu
end C
end Go.Proofs.Ytbcobheiofajeaa
namespace Go.Proofs.Ytbcobheiofajeaa
open Go.RowKit
namespace C
set_option maxHeartbeats 32000000
set_option maxRecDepth 20000
theorem encIs_one (l : List Int) : ∀ x ∈ M.encIs l, x.oneCell' = true := fun x hx => by unfold M.encIs at hx; obtain ⟨z, _, rfl⟩ := List.mem_map.1 hx; rfl
def Box1 (w : World) (g : Nat) (T : TypeId) (u : Value) : Prop := w.heap[g]? = some (.cells #[u] T (0, 0))
theorem Box1.new {w : World} {g : Nat} (T : TypeId) (u : Value) (hg : g = w.heap.size) : Box1 (w.alloc (.cells #[u] T)) g T u := by subst hg; exact heap_alloc_new w _
theorem Box1.lt {w : World} {g : Nat} {T : TypeId} {u : Value} (h : Box1 w g T u) : g < w.heap.size := heap_lt h
theorem Box1.alloc {w : World} {g : Nat} {T : TypeId} {u : Value} (h : Box1 w g T u) (o : Obj) : Box1 (w.alloc o) g T u := (Below.heap_alloc w o g h.lt).trans h
theorem Box1.grown {w w' : World} {g : Nat} {T : TypeId} {u : Value} {row : Option Nat} (h : Box1 w g T u) (hg : w.grownBy w' row) (hne : row ≠ some g) : Box1 w' g T u := (hg.block g h.lt (fun e => hne e.symm)).trans h
theorem newsI1 {w : World} {g : Nat} {n : Int} (h : Box1 w g 3 (.int .i64 n)) : ∀ j u, (M.encIs [n])[j]? = some u → w.cell? ((⟨g, 0, none⟩ : Addr).add j) = some u := World.news_of_block h
theorem newsI_take {W : World} {b off : Nat} {l : List Int} (h : ∀ j u, (M.encIs l)[j]? = some u → W.cell? ⟨b, off + j, none⟩ = some u) (k : Nat) : ∀ j u, (M.encIs (l.take k))[j]? = some u → W.cell? ((⟨b, off, none⟩ : Addr).add j) = some u := by
  intro j u hu
  have e : M.encIs (l.take k) = (M.encIs l).take k := by unfold M.encIs; rw [List.map_take]
  rw [e, List.getElem?_take] at hu
  split at hu
  · rw [add_off]; exact h j u hu
  · cases hu
theorem newsI_drop {W : World} {b off : Nat} {l : List Int} (h : ∀ j u, (M.encIs l)[j]? = some u → W.cell? ⟨b, off + j, none⟩ = some u) (k : Nat) : ∀ j u, (M.encIs (l.drop k))[j]? = some u → W.cell? ((⟨b, off + k, none⟩ : Addr).add j) = some u := by
  intro j u hu
  have e : M.encIs (l.drop k) = (M.encIs l).drop k := by unfold M.encIs; rw [List.map_drop]
  rw [e, List.getElem?_drop] at hu
  rw [add_off, Nat.add_assoc]
  exact h _ u hu
/-- numbers in memory from B on, the rest as it was -/
def PutIPost (B : Nat) (w : World) (l : List Int) (e : Ending) (w' : World) : Prop :=
  ∃ a c, e = .returned (.slice a l.length c) ∧ OwnAt B w'.heap.size w' 3 a (M.encIs l) ∧ l.length ≤ c ∧ c ≤ 9223372036854775807 ∧ Below w.heap.size w w'
theorem putI_end {B n : Nat} {w w' W : World} {l xs : List Int} {v : Value} (hW : Below w.heap.size w W) (hB : B ≤ w.heap.size) (h : w'.ownsRow W.heap.size 3 1 v n (M.encIs xs)) (hx : xs = l) (hn : n = l.length) (hb : Below W.heap.size W w') : PutIPost B w l (.returned v) w' := by
  subst hx; subst hn
  obtain ⟨a, c, rfl, h1, h2, h3⟩ := own_slice h
  have := hW.size
  exact ⟨a, c, rfl, h3.mono (by omega) (Nat.le_refl _), h1, h2, hW.trans (hb.mono this)⟩
theorem l1Put_any (w : World) (lo hi : Nat) (b off c : Nat) (l : List Int) (n : Int) (h : RowIn lo hi w (some ⟨b, off, none⟩) (M.encIs l)) (hne : l ≠ []) (hnm : n ∉ l) (hz : hi ≤ w.heap.size) (hl : l.length ≤ 1000) (hc1 : l.length ≤ c) (hc2 : c ≤ 9223372036854775807) :
    Calls Try.prog 107 #[.slice (some ⟨b, off, none⟩) l.length c, .int .i64 n] w (PutIPost w.heap.size w (M.put M.ltI l n)) := by
  obtain ⟨i0, hi0, hz0, hz1, hz2⟩ := info_parts infoI
  have hlen : 0 < l.length := List.length_pos_iff.2 hne
  have HNM := Lib.hid hnm
  clear hnm
  obtain ⟨b', off', e, hb1, hb2, hcc⟩ := h.at_ (k := 0) (by rw [M.encIs_len]; omega)
  injection e with e
  injection e with e1 e2 _
  subst e1; subst e2
  have hbw : b < w.heap.size := by omega
  have HC := Lib.hid (fun W' (hq : Below w.heap.size w W') j u hu => (hq.cell (p := ⟨b, off + j, none⟩) hbw).trans (hcc j u hu))
  clear h hcc hne
  go_enter Try.func107, Try.ntmps107
  go_wp2_with fail
  go_loop [5] (fun i => ∃ (k : Nat), k ≤ l.length ∧ i = .int .i64 k ∧ (∀ j (hj : j < l.length), j < k → M.ltI l[j] n = true)) (fun i => l.length - (intOf i).toNat)
  case atStart => exact ⟨0, Nat.zero_le _, rfl, fun j _ h => by omega⟩
  case round =>
    obtain ⟨k, hk, rfl, hall⟩ := hrel
    have HA := Lib.hid hall
    clear hall
    by_cases hlt : k < l.length
    · have p0 : w.cell? ⟨b, off + k, none⟩ = some (.int .i64 l[k]) := HC.out w (Below.refl _ _) _ _ (M.encIs_at hlt)
      by_cases hlk : l[k] < n
      · have HK : Hid (M.ltI l[k] n = true) := Lib.hid (decide_eq_true hlk)
        go_wp2_with fail
        go_round
        case rel => exact ⟨k + 1, by omega, by go_num, fun j hj hjk => by
          rcases Nat.lt_or_ge j k with h | h
          · exact HA.out j hj h
          · obtain rfl : j = k := by omega
            exact HK.out⟩
        case measure => simp [intOf]; omega
      · have HP := Lib.hid (M.place_eq (lt := M.ltI) hk HA.out (fun _ => decide_eq_false hlk))
        rcases Decidable.em (l[k] = n) with hld | hld
        · exact absurd (List.getElem_mem hlt) (by rw [hld]; exact HNM.out)
        · have HQ := Lib.hid (M.put_new HP.out (by rw [List.getElem?_eq_getElem hlt]; intro e; injection e with e; exact hld e))
          have hlb : (l[k] == n) = false := by simpa using hld
          clear hld
          go_wp2_with fail
          clear p0
          have oa2 : ((w.drew.alloc (.cells #[] 3)).alloc (.cells #[.int .i64 n] 3)).ownsRow w.heap.size 3 1 (.slice (some ⟨w.heap.size, 0, none⟩) 0 0) 0 [] := (ownsRow_empty w.drew w.heap.size 3 1 (Nat.le_refl _)).alloc _
          have oa3 : ((w.drew.alloc (.cells #[.int .i64 n] 3)).alloc (.cells #[] 3)).ownsRow w.heap.size 3 1 (.slice (some ⟨w.heap.size + 1, 0, none⟩) 0 0) 0 [] := by
            have := ownsRow_empty (w.drew.alloc (.cells #[.int .i64 n] 3)) w.heap.size 3 1 (by simp)
            simpa using this
          have cc2 : Box1 ((w.drew.alloc (.cells #[] 3)).alloc (.cells #[.int .i64 n] 3)) (w.heap.size + 1) 3 (.int .i64 n) := Box1.new _ _ (by simp)
          have cc3 : Box1 ((w.drew.alloc (.cells #[.int .i64 n] 3)).alloc (.cells #[] 3)) w.heap.size 3 (.int .i64 n) := (Box1.new _ _ rfl).alloc _
          have OA2 := Lib.hid oa2
          have OA3 := Lib.hid oa3
          have CC2 := Lib.hid cc2
          have CC3 := Lib.hid cc3
          have hdrew : w.drew.heap.size = w.heap.size := rfl
          have hkc : k ≤ c := by omega
          clear oa2 oa3 cc2 cc3
          have HCK : Hid (¬ c = k) := Lib.hid (by omega)
          go_region_held3 (fun _ => True) (exact True.intro) (first
            | (have hcg : ¬ c = k := HCK.out; clear hcg; refine step_append_own rfl (.tmp 40) (.tmp 43) 39 rfl w.heap.size 3 i0 (.int .i64 0) 1 8 Try.underlying39 hi0 hz0 hz1 hz2 rfl (by decide) _ _ _ o9 (by first | (simp [Act.eval]; done) | simp [Act.eval, Act.put]) ⟨b, off + k, none⟩ (l.length - k) (c - k) (M.encIs (l.drop k)) (by first | (simp [Act.eval, HCK.out]; done) | simp [Act.eval, Act.put, HCK.out]) (by rw [M.encIs_len, List.length_drop]; omega) (newsI_drop (HC.out _ hb9) k) (encIs_one _) (by unfold maxLen; omega) (by omega) (by omega) ?_; intro v3 w10 hownw10 hgroww10 hnilw10; have hb10 : Below w.heap.size w w10 := hb9.grown hgroww10 (by omega) (own_base o9); have o10 : w10.ownsRow w.heap.size 3 1 v3 (k + 1 + (l.length - k)) (M.encIs (l.take k ++ [n] ++ l.drop k)) := (by rw [M.encIs_append]; exact hownw10); have hs10 := hb10.size)
            | (refine step_append_own rfl (.tmp 37) (.tmp 39) 39 rfl w.heap.size 3 i0 (.int .i64 0) 1 8 Try.underlying39 hi0 hz0 hz1 hz2 rfl (by decide) _ _ _ (o8.alloc _) (by first | (simp [Act.eval]; done) | simp [Act.eval, Act.put]) ⟨w8.heap.size, 0, none⟩ 1 1 (M.encIs [n]) (by first | (simp [Act.eval]; done) | simp [Act.eval, Act.put]) (show (M.encIs [n]).length = 1 * 1 from rfl) (newsI1 (Box1.new _ _ rfl)) (encIs_one _) (by unfold maxLen; omega) (by omega) (by simp; omega) ?_; intro v2 w9 hownw9 hgroww9 hnilw9; have hb9 : Below w.heap.size w w9 := (hb8.alloc (by omega) _).grown hgroww9 (by simp; omega) (own_base o8); have o9 : w9.ownsRow w.heap.size 3 1 v2 (k + 1) (M.encIs (l.take k ++ [n])) := (by rw [M.encIs_append]; exact hownw9); have hs9 := hb9.size)
            | (refine step_append_own rfl (.tmp 37) (.tmp 39) 39 rfl w.heap.size 3 i0 (.int .i64 0) 1 8 Try.underlying39 hi0 hz0 hz1 hz2 rfl (by decide) _ _ _ o8 (by first | (simp [Act.eval]; done) | simp [Act.eval, Act.put]) ⟨(w.heap.size + 1), 0, none⟩ 1 1 (M.encIs [n]) (by first | (simp [Act.eval]; done) | simp [Act.eval, Act.put]) (show (M.encIs [n]).length = 1 * 1 from rfl) (newsI1 bx8) (encIs_one _) (by unfold maxLen; omega) (by omega) (by omega) ?_; intro v2 w9 hownw9 hgroww9 hnilw9; have hb9 : Below w.heap.size w w9 := hb8.grown hgroww9 (by omega) (own_base o8); have o9 : w9.ownsRow w.heap.size 3 1 v2 (k + 1) (M.encIs (l.take k ++ [n])) := (by rw [M.encIs_append]; exact hownw9); have hs9 := hb9.size)
            | (refine step_append_own rfl (.tmp 37) (.tmp 39) 39 rfl w.heap.size 3 i0 (.int .i64 0) 1 8 Try.underlying39 hi0 hz0 hz1 hz2 rfl (by decide) _ _ _ o8 (by first | (simp [Act.eval]; done) | simp [Act.eval, Act.put]) ⟨w.heap.size, 0, none⟩ 1 1 (M.encIs [n]) (by first | (simp [Act.eval]; done) | simp [Act.eval, Act.put]) (show (M.encIs [n]).length = 1 * 1 from rfl) (newsI1 bx8) (encIs_one _) (by unfold maxLen; omega) (by omega) (by omega) ?_; intro v2 w9 hownw9 hgroww9 hnilw9; have hb9 : Below w.heap.size w w9 := hb8.grown hgroww9 (by omega) (own_base o8); have o9 : w9.ownsRow w.heap.size 3 1 v2 (k + 1) (M.encIs (l.take k ++ [n])) := (by rw [M.encIs_append]; exact hownw9); have hs9 := hb9.size)
            | (refine step_append_own rfl (.tmp 33) (.tmp 36) 39 rfl w.heap.size 3 i0 (.int .i64 0) 1 8 Try.underlying39 hi0 hz0 hz1 hz2 rfl (by decide) _ _ _ (ownsRow_empty w.drew w.heap.size 3 1 (Nat.le_refl _)) (by first | (simp [Act.eval]; done) | simp [Act.eval, Act.put]) ⟨b, off, none⟩ k c (M.encIs (l.take k)) (by first | (simp [Act.eval]; done) | simp [Act.eval, Act.put]) (by rw [M.encIs_len, List.length_take]; omega) (newsI_take (HC.out _ ((Below.refl w.heap.size w).drew.alloc (Nat.le_refl _) _)) k) (encIs_one _) (by unfold maxLen; omega) (by omega) (by simp) ?_; intro v1 w8 hownw8 hgroww8 hnilw8; have hb8 : Below w.heap.size w w8 := ((Below.refl w.heap.size w).drew.alloc (Nat.le_refl _) _).grown hgroww8 (by simp) (own_base (ownsRow_empty w.drew w.heap.size 3 1 (Nat.le_refl _))); have o8 : w8.ownsRow w.heap.size 3 1 v1 k (M.encIs (l.take k)) := (by simpa using hownw8); have hs8 := hb8.size)
            | (refine step_append_own rfl (.tmp 33) (.tmp 36) 39 rfl w.heap.size 3 i0 (.int .i64 0) 1 8 Try.underlying39 hi0 hz0 hz1 hz2 rfl (by decide) _ _ _ (OA2.out) (by first | (simp [Act.eval]; done) | simp [Act.eval, Act.put]) ⟨b, off, none⟩ k c (M.encIs (l.take k)) (by first | (simp [Act.eval]; done) | simp [Act.eval, Act.put]) (by rw [M.encIs_len, List.length_take]; omega) (newsI_take (HC.out _ (((Below.refl w.heap.size w).drew.alloc (Nat.le_refl _) _).alloc (by simp) _)) k) (encIs_one _) (by unfold maxLen; omega) (by omega) (by simp; omega) ?_; intro v1 w8 hownw8 hgroww8 hnilw8; have hb8 : Below w.heap.size w w8 := (((Below.refl w.heap.size w).drew.alloc (Nat.le_refl _) _).alloc (by simp) _).grown hgroww8 (by simp; omega) (own_base OA2.out); have o8 : w8.ownsRow w.heap.size 3 1 v1 k (M.encIs (l.take k)) := (by simpa using hownw8); have bx8 := CC2.out.grown hgroww8 (by simp [Value.ownBlock]); have hs8 := hb8.size)
            | (refine step_append_own rfl (.tmp 33) (.tmp 36) 39 rfl w.heap.size 3 i0 (.int .i64 0) 1 8 Try.underlying39 hi0 hz0 hz1 hz2 rfl (by decide) _ _ _ (OA3.out) (by first | (simp [Act.eval]; done) | simp [Act.eval, Act.put]) ⟨b, off, none⟩ k c (M.encIs (l.take k)) (by first | (simp [Act.eval]; done) | simp [Act.eval, Act.put]) (by rw [M.encIs_len, List.length_take]; omega) (newsI_take (HC.out _ (((Below.refl w.heap.size w).drew.alloc (Nat.le_refl _) _).alloc (by simp) _)) k) (encIs_one _) (by unfold maxLen; omega) (by omega) (by simp; omega) ?_; intro v1 w8 hownw8 hgroww8 hnilw8; have hb8 : Below w.heap.size w w8 := (((Below.refl w.heap.size w).drew.alloc (Nat.le_refl _) _).alloc (by simp) _).grown hgroww8 (by simp; omega) (own_base OA3.out); have o8 : w8.ownsRow w.heap.size 3 1 v1 k (M.encIs (l.take k)) := (by simpa using hownw8); have bx8 := CC3.out.grown hgroww8 (by simp [Value.ownBlock]); have hs8 := hb8.size))
          all_goals
            go_wp2_with fail
            go_ret
            rw [HQ.out]
            exact putI_end (Below.refl _ _) (Nat.le_refl _) o10 (by simp) (by first | (simp; done) | (simp; omega)) hb10
    · obtain rfl : k = l.length := by omega
      have HP := Lib.hid (M.place_eq (lt := M.ltI) hk HA.out (fun h => absurd h (by omega)))
      have HQ := Lib.hid (M.put_new (d := n) HP.out (by rw [List.getElem?_eq_none (Nat.le_refl _)]; intro e; cases e))
      go_wp2_with fail
      have oa2 : ((w.drew.alloc (.cells #[] 3)).alloc (.cells #[.int .i64 n] 3)).ownsRow w.heap.size 3 1 (.slice (some ⟨w.heap.size, 0, none⟩) 0 0) 0 [] := (ownsRow_empty w.drew w.heap.size 3 1 (Nat.le_refl _)).alloc _
      have oa3 : ((w.drew.alloc (.cells #[.int .i64 n] 3)).alloc (.cells #[] 3)).ownsRow w.heap.size 3 1 (.slice (some ⟨w.heap.size + 1, 0, none⟩) 0 0) 0 [] := by
        have := ownsRow_empty (w.drew.alloc (.cells #[.int .i64 n] 3)) w.heap.size 3 1 (by simp)
        simpa using this
      have cc2 : Box1 ((w.drew.alloc (.cells #[] 3)).alloc (.cells #[.int .i64 n] 3)) (w.heap.size + 1) 3 (.int .i64 n) := Box1.new _ _ (by simp)
      have cc3 : Box1 ((w.drew.alloc (.cells #[.int .i64 n] 3)).alloc (.cells #[] 3)) w.heap.size 3 (.int .i64 n) := (Box1.new _ _ rfl).alloc _
      have OA2 := Lib.hid oa2
      have OA3 := Lib.hid oa3
      have CC2 := Lib.hid cc2
      have CC3 := Lib.hid cc3
      have hdrew : w.drew.heap.size = w.heap.size := rfl
      have hkc : l.length ≤ c := by omega
      clear oa2 oa3 cc2 cc3
      rcases Decidable.em (c = l.length) with hck0 | hck0
      all_goals have HCK := Lib.hid hck0
      all_goals clear hck0
      all_goals go_region_held3 (fun _ => True) (exact True.intro) (first
        | (have hcg : ¬ c = l.length := HCK.out; clear hcg; refine step_append_own rfl (.tmp 40) (.tmp 43) 39 rfl w.heap.size 3 i0 (.int .i64 0) 1 8 Try.underlying39 hi0 hz0 hz1 hz2 rfl (by decide) _ _ _ o9 (by first | (simp [Act.eval]; done) | simp [Act.eval, Act.put]) ⟨b, off + l.length, none⟩ (l.length - l.length) (c - l.length) (M.encIs (l.drop l.length)) (by first | (simp [Act.eval, HCK.out]; done) | simp [Act.eval, Act.put, HCK.out]) (by rw [M.encIs_len, List.length_drop]; omega) (newsI_drop (HC.out _ hb9) l.length) (encIs_one _) (by unfold maxLen; omega) (by omega) (by omega) ?_; intro v3 w10 hownw10 hgroww10 hnilw10; have hb10 : Below w.heap.size w w10 := hb9.grown hgroww10 (by omega) (own_base o9); have o10 : w10.ownsRow w.heap.size 3 1 v3 (l.length + 1 + (l.length - l.length)) (M.encIs (l.take l.length ++ [n] ++ l.drop l.length)) := (by rw [M.encIs_append]; exact hownw10); have hs10 := hb10.size)
        | (have hcg : c = l.length := HCK.out; clear hcg; refine step_append_own rfl (.tmp 40) (.tmp 43) 39 rfl w.heap.size 3 i0 (.int .i64 0) 1 8 Try.underlying39 hi0 hz0 hz1 hz2 rfl (by decide) _ _ _ o9 (by first | (simp [Act.eval]; done) | simp [Act.eval, Act.put]) ⟨b, off, none⟩ (l.length - l.length) (c - l.length) (M.encIs (l.drop l.length)) (by first | (simp [Act.eval, HCK.out]; done) | simp [Act.eval, Act.put, HCK.out]) (by rw [M.encIs_len, List.length_drop]; omega) (fun j u hu => absurd hu (by rw [List.drop_eq_nil_of_le (by have := HCK.out; omega)]; simp [M.encIs])) (encIs_one _) (by unfold maxLen; omega) (by omega) (by omega) ?_; intro v3 w10 hownw10 hgroww10 hnilw10; have hb10 : Below w.heap.size w w10 := hb9.grown hgroww10 (by omega) (own_base o9); have o10 : w10.ownsRow w.heap.size 3 1 v3 (l.length + 1 + (l.length - l.length)) (M.encIs (l.take l.length ++ [n] ++ l.drop l.length)) := (by rw [M.encIs_append]; exact hownw10); have hs10 := hb10.size)
        | (refine step_append_own rfl (.tmp 37) (.tmp 39) 39 rfl w.heap.size 3 i0 (.int .i64 0) 1 8 Try.underlying39 hi0 hz0 hz1 hz2 rfl (by decide) _ _ _ (o8.alloc _) (by first | (simp [Act.eval]; done) | simp [Act.eval, Act.put]) ⟨w8.heap.size, 0, none⟩ 1 1 (M.encIs [n]) (by first | (simp [Act.eval]; done) | simp [Act.eval, Act.put]) (show (M.encIs [n]).length = 1 * 1 from rfl) (newsI1 (Box1.new _ _ rfl)) (encIs_one _) (by unfold maxLen; omega) (by omega) (by simp; omega) ?_; intro v2 w9 hownw9 hgroww9 hnilw9; have hb9 : Below w.heap.size w w9 := (hb8.alloc (by omega) _).grown hgroww9 (by simp; omega) (own_base o8); have o9 : w9.ownsRow w.heap.size 3 1 v2 (l.length + 1) (M.encIs (l.take l.length ++ [n])) := (by rw [M.encIs_append]; exact hownw9); have hs9 := hb9.size)
        | (refine step_append_own rfl (.tmp 37) (.tmp 39) 39 rfl w.heap.size 3 i0 (.int .i64 0) 1 8 Try.underlying39 hi0 hz0 hz1 hz2 rfl (by decide) _ _ _ o8 (by first | (simp [Act.eval]; done) | simp [Act.eval, Act.put]) ⟨(w.heap.size + 1), 0, none⟩ 1 1 (M.encIs [n]) (by first | (simp [Act.eval]; done) | simp [Act.eval, Act.put]) (show (M.encIs [n]).length = 1 * 1 from rfl) (newsI1 bx8) (encIs_one _) (by unfold maxLen; omega) (by omega) (by omega) ?_; intro v2 w9 hownw9 hgroww9 hnilw9; have hb9 : Below w.heap.size w w9 := hb8.grown hgroww9 (by omega) (own_base o8); have o9 : w9.ownsRow w.heap.size 3 1 v2 (l.length + 1) (M.encIs (l.take l.length ++ [n])) := (by rw [M.encIs_append]; exact hownw9); have hs9 := hb9.size)
        | (refine step_append_own rfl (.tmp 37) (.tmp 39) 39 rfl w.heap.size 3 i0 (.int .i64 0) 1 8 Try.underlying39 hi0 hz0 hz1 hz2 rfl (by decide) _ _ _ o8 (by first | (simp [Act.eval]; done) | simp [Act.eval, Act.put]) ⟨w.heap.size, 0, none⟩ 1 1 (M.encIs [n]) (by first | (simp [Act.eval]; done) | simp [Act.eval, Act.put]) (show (M.encIs [n]).length = 1 * 1 from rfl) (newsI1 bx8) (encIs_one _) (by unfold maxLen; omega) (by omega) (by omega) ?_; intro v2 w9 hownw9 hgroww9 hnilw9; have hb9 : Below w.heap.size w w9 := hb8.grown hgroww9 (by omega) (own_base o8); have o9 : w9.ownsRow w.heap.size 3 1 v2 (l.length + 1) (M.encIs (l.take l.length ++ [n])) := (by rw [M.encIs_append]; exact hownw9); have hs9 := hb9.size)
        | (refine step_append_own rfl (.tmp 33) (.tmp 36) 39 rfl w.heap.size 3 i0 (.int .i64 0) 1 8 Try.underlying39 hi0 hz0 hz1 hz2 rfl (by decide) _ _ _ (ownsRow_empty w.drew w.heap.size 3 1 (Nat.le_refl _)) (by first | (simp [Act.eval]; done) | simp [Act.eval, Act.put]) ⟨b, off, none⟩ l.length c (M.encIs (l.take l.length)) (by first | (simp [Act.eval]; done) | simp [Act.eval, Act.put]) (by rw [M.encIs_len, List.length_take]; omega) (newsI_take (HC.out _ ((Below.refl w.heap.size w).drew.alloc (Nat.le_refl _) _)) l.length) (encIs_one _) (by unfold maxLen; omega) (by omega) (by simp) ?_; intro v1 w8 hownw8 hgroww8 hnilw8; have hb8 : Below w.heap.size w w8 := ((Below.refl w.heap.size w).drew.alloc (Nat.le_refl _) _).grown hgroww8 (by simp) (own_base (ownsRow_empty w.drew w.heap.size 3 1 (Nat.le_refl _))); have o8 : w8.ownsRow w.heap.size 3 1 v1 l.length (M.encIs (l.take l.length)) := (by simpa using hownw8); have hs8 := hb8.size)
        | (refine step_append_own rfl (.tmp 33) (.tmp 36) 39 rfl w.heap.size 3 i0 (.int .i64 0) 1 8 Try.underlying39 hi0 hz0 hz1 hz2 rfl (by decide) _ _ _ (OA2.out) (by first | (simp [Act.eval]; done) | simp [Act.eval, Act.put]) ⟨b, off, none⟩ l.length c (M.encIs (l.take l.length)) (by first | (simp [Act.eval]; done) | simp [Act.eval, Act.put]) (by rw [M.encIs_len, List.length_take]; omega) (newsI_take (HC.out _ (((Below.refl w.heap.size w).drew.alloc (Nat.le_refl _) _).alloc (by simp) _)) l.length) (encIs_one _) (by unfold maxLen; omega) (by omega) (by simp; omega) ?_; intro v1 w8 hownw8 hgroww8 hnilw8; have hb8 : Below w.heap.size w w8 := (((Below.refl w.heap.size w).drew.alloc (Nat.le_refl _) _).alloc (by simp) _).grown hgroww8 (by simp; omega) (own_base OA2.out); have o8 : w8.ownsRow w.heap.size 3 1 v1 l.length (M.encIs (l.take l.length)) := (by simpa using hownw8); have bx8 := CC2.out.grown hgroww8 (by simp [Value.ownBlock]); have hs8 := hb8.size)
        | (refine step_append_own rfl (.tmp 33) (.tmp 36) 39 rfl w.heap.size 3 i0 (.int .i64 0) 1 8 Try.underlying39 hi0 hz0 hz1 hz2 rfl (by decide) _ _ _ (OA3.out) (by first | (simp [Act.eval]; done) | simp [Act.eval, Act.put]) ⟨b, off, none⟩ l.length c (M.encIs (l.take l.length)) (by first | (simp [Act.eval]; done) | simp [Act.eval, Act.put]) (by rw [M.encIs_len, List.length_take]; omega) (newsI_take (HC.out _ (((Below.refl w.heap.size w).drew.alloc (Nat.le_refl _) _).alloc (by simp) _)) l.length) (encIs_one _) (by unfold maxLen; omega) (by omega) (by simp; omega) ?_; intro v1 w8 hownw8 hgroww8 hnilw8; have hb8 : Below w.heap.size w w8 := (((Below.refl w.heap.size w).drew.alloc (Nat.le_refl _) _).alloc (by simp) _).grown hgroww8 (by simp; omega) (own_base OA3.out); have o8 : w8.ownsRow w.heap.size 3 1 v1 l.length (M.encIs (l.take l.length)) := (by simpa using hownw8); have bx8 := CC3.out.grown hgroww8 (by simp [Value.ownBlock]); have hs8 := hb8.size))
      all_goals
        go_wp2_with fail
        go_ret
        rw [HQ.out]
        exact putI_end (Below.refl _ _) (Nat.le_refl _) o10 (by simp) (by first | (simp; done) | (simp; omega)) hb10
end C
end Go.Proofs.Ytbcobheiofajeaa
namespace Go.Proofs.Ytbcobheiofajeaa
open Go.RowKit
namespace M
def askB (m : Mz) (s : Int) : Bool := mazeB m && setB s
theorem ask_yes {m : Mz} {s : Int} (h : askB m s = true) : Valid m ∧ 0 ≤ s ∧ s < 64 := by
  unfold askB at h
  rw [Bool.and_eq_true] at h
  refine ⟨valid_of h.1, ?_⟩
  have := h.2
  unfold setB at this
  exact decide_eq_true_iff.1 this
def ifAsk {α : Type} (m : Mz) (s : Int) (x d : α) : α := if askB m s then x else d
theorem ifAsk_yes {α : Type} {m : Mz} {s : Int} (h : askB m s = true) (x d : α) : ifAsk m s x d = x := by unfold ifAsk; rw [if_pos h]
theorem ifAsk_no {α : Type} {m : Mz} {s : Int} (h : askB m s = false) (x d : α) : ifAsk m s x d = d := by unfold ifAsk; rw [h]; rfl
noncomputable def roundsV (m : Mz) (s : Int) : List Int := ifAsk m s (setsTo m s (lastK m s)) []
noncomputable def gainN (m : Mz) (s : Int) : List Int := ifAsk m s (reachOf m 0 (finC m s)) []
noncomputable def entV (m : Mz) (s : Int) : List Int := ifAsk m s (nodeRounds m s (lastK m s + 1)) []
noncomputable def winR (m : Mz) (s : Int) : Int := (entTo m s (lastK m s + 1) (m.size - 1) : Nat)
noncomputable def canB (m : Mz) (s : Int) : Bool := memB (reachOf m 0 (finC m s)) (m.size - 1)
theorem roundsV_len (m : Mz) (s : Int) : (roundsV m s).length ≤ 1048576 := by
  unfold roundsV ifAsk
  split
  · have := lastK_le m s; rw [setsTo_len]; omega
  · simp
theorem gainN_len (m : Mz) (s : Int) : (gainN m s).length ≤ 1048576 := by
  unfold gainN ifAsk
  split
  · have := rchL_len m.doors (openTo (finC m s)) 0; unfold reachOf; omega
  · simp
theorem entV_len (m : Mz) (s : Int) : (entV m s).length ≤ 1048576 := by
  unfold entV
  cases h : askB m s with
  | false => rw [ifAsk_no h]; simp
  | true => rw [ifAsk_yes h, nodeRounds_len]; have := (ask_yes h).1.size12; omega
theorem win_can {m : Mz} {s : Int} (h : askB m s = true) : decide (0 < winR m s) = canB m s := by
  obtain ⟨V, h0⟩ := ask_yes h
  have hl := ent_last V h0 (m.size - 1)
  unfold canB
  rw [Bool.eq_iff_iff, decide_eq_true_iff]
  unfold memB
  rw [List.contains_iff_mem, ← hl]
  unfold winR
  omega
end M
namespace C
set_option maxHeartbeats 1600000
set_option maxRecDepth 20000
theorem goal_any (w : World) (m : M.Mz) (a b : Option Addr) (c d : Nat) (h1 : 1 ≤ m.size) (h2 : m.size ≤ 12) :
    Calls Try.prog 104 #[.agg #[.int .i64 m.size, .slice a m.doors.length c, .slice b m.keys.length d]] w fun e w' => e = .returned (.int .i64 (m.size - 1)) ∧ Below w.heap.size w w' := by
  go_enter Try.func104, Try.ntmps104
  go_wp2_with fail
  go_ret
  exact ⟨by first | rfl | (simp; omega), below_alloc _ _⟩
end C
end Go.Proofs.Ytbcobheiofajeaa
namespace Go.Proofs.Ytbcobheiofajeaa
open Go.RowKit
namespace C
set_option maxHeartbeats 1600000
set_option maxRecDepth 20000
theorem l2Has_any (s t : Int) (w : World) : Calls Try.prog 106 #[.int .i64 s, .int .i64 t] w fun e w' => e = .returned (.bool (M.has2B s t)) ∧ w = w' := by
  go_enter Try.func106, Try.ntmps106
  go_wp2_with fail
  go_ret
  exact ⟨rfl, rfl⟩
theorem hasAll_any (s t : Int) (w : World) : Calls Try.prog 126 #[.int .i64 s, .int .i64 t] w fun e w' => e = .returned (.bool (M.hasB s t)) ∧ w = w' := by
  go_enter Try.func126, Try.ntmps126
  go_wp2_with fail
  go_ret
  exact ⟨rfl, rfl⟩
end C
end Go.Proofs.Ytbcobheiofajeaa
