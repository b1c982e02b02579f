/-
  CONTRACTS of spec.l2Node and of DoorsAt on both sides: the places of all doors at a node, in a new list, ascending, or false; what lay in memory stays. No condition but that the maze reads so.
  MATHEMATICS of reaching, own to these proofs: the list of all nodes to which one comes, and what tells it. No condition.
  MATHEMATICS of rounds, own to these proofs: the sets of colours behind each round, the nodes entered, when the rounds end; the program's pairs of nodes and colours tell the same. No condition.
  MATHEMATICS of the rounds in which nodes are entered, node by node, own to these proofs. No condition.
  CONTRACTS for a door put to its place: spec.l1Least, spec.l1Most; words on rows. No condition.
  CONTRACTS of doors between nodes: spec.l2Joins, l2Has, l2Open; impl.hasAll, needsBetween, isOpen; what lay in memory stays. Condition: the maze reads so; for impl.isOpen it is valid.
  MATHEMATICS of the numbers of nodes below 4096, own to these proofs. No condition.
  MATHEMATICS of orders, own to these proofs: which nodes can be entered behind some nodes, told by a number's digits; the program's reckoning and the model's list tell the same; entry orders; the largest entry set. No condition.
  CONTRACTS of impl.Maze.stepFrom, keysAt, nextTo: the nodes one step further, the colours at some nodes, the nodes that can be entered next; what lay in memory stays. Condition: a valid maze, a number below 4096.
  CONTRACT of impl.Maze.spread: a number whose digits tell nodes, closed under the doors that are open; what lay in memory stays. Condition: a valid maze, a set of colours, a number below 4096.
-/
import Derived.Test.YtddpjjdncmokmaaSpecMaze
import Derived.Test.YtddpjjdncmokmaaWAMem
import Derived.Test.YtddpjjdncmokmaaWBDigitsI
import Derived.Test.YtddpjjdncmokmaaWCBefore
import Derived.Laws.StructEq
import Derived.Deep.RegionWith
import Derived.Deep.DeepCutAuto
namespace Go.Proofs.Ytddpjjdncmokmaa
open Go.RowKit
namespace M
def mzNodeB (m : Mz) (x : Int) : Bool := mazeB m && nodeB m.size x
def touchB (d : Dr) (x : Int) : Bool := decide (d.1 = x ∨ d.2.1 = x)
/-- the places below k whose doors are at x -/
def placesTo (l : List Dr) (x : Int) (k : Nat) : List Int := ((List.range k).filter fun i => touchB (l.getD i default) x).map fun i : Nat => (i : Int)
theorem placesTo_yes {l : List Dr} {x : Int} {k : Nat} (hk : k < l.length) (h : touchB l[k] x = true) : placesTo l x (k + 1) = placesTo l x k ++ [(k : Int)] := by
  unfold placesTo
  have hg : l.getD k default = l[k] := by rw [List.getD_eq_getElem?_getD, List.getElem?_eq_getElem hk]; rfl
  rw [List.range_succ, List.filter_append, List.filter_cons_of_pos (by rw [hg]; exact h)]
  simp
theorem placesTo_no {l : List Dr} {x : Int} {k : Nat} (hk : k < l.length) (h : touchB l[k] x = false) : placesTo l x (k + 1) = placesTo l x k := by
  unfold placesTo
  have hg : l.getD k default = l[k] := by rw [List.getD_eq_getElem?_getD, List.getElem?_eq_getElem hk]; rfl
  rw [List.range_succ, List.filter_append, List.filter_cons_of_neg (by rw [hg, h]; decide)]
  simp
theorem placesTo_len (l : List Dr) (x : Int) (k : Nat) : (placesTo l x k).length ≤ k := by
  unfold placesTo
  rw [List.length_map]
  have := List.length_filter_le (fun i => touchB (l.getD i default) x) (List.range k)
  simpa using this
def doorsAtV (m : Mz) (x : Int) : List Int := if mzNodeB m x then placesTo m.doors x m.doors.length else []
theorem doorsAtV_yes {m : Mz} {x : Int} (h : mzNodeB m x = true) : doorsAtV m x = placesTo m.doors x m.doors.length := by unfold doorsAtV; rw [if_pos h]
theorem doorsAtV_no {m : Mz} {x : Int} (h : mzNodeB m x = false) : doorsAtV m x = [] := by unfold doorsAtV; rw [h]; rfl
theorem doorsAtV_len (m : Mz) (x : Int) : (doorsAtV m x).length ≤ 1048576 := by
  unfold doorsAtV
  split
  · rename_i h
    unfold mzNodeB at h
    rw [Bool.and_eq_true] at h
    have := placesTo_len m.doors x m.doors.length
    have := (valid_of h.1).few
    omega
  · simp
theorem mzNode_no {m : Mz} {x : Int} (h : mazeB m = false) : mzNodeB m x = false := by unfold mzNodeB; rw [h]; rfl
theorem mzNode_no2 {m : Mz} {x : Int} (h : nodeB m.size x = false) : mzNodeB m x = false := by unfold mzNodeB; rw [h]; cases mazeB m <;> rfl
theorem mzNode_yes {m : Mz} {x : Int} (h : mazeB m = true) (h2 : nodeB m.size x = true) : mzNodeB m x = true := by unfold mzNodeB; rw [h, h2]; rfl
end M
namespace C
set_option maxHeartbeats 1600000
set_option maxRecDepth 20000
end C
end Go.Proofs.Ytddpjjdncmokmaa
namespace Go.Proofs.Ytddpjjdncmokmaa
open Go.RowKit
namespace M
noncomputable def rchL (ds : List Dr) (op : Dr → Bool) (x : Int) : List Int := ((List.range 12).filter fun p : Nat => @decide (Rch ds op x (p : Int)) (Classical.propDecidable _)).map fun p : Nat => (p : Int)
theorem rchL_len (ds : List Dr) (op : Dr → Bool) (x : Int) : (rchL ds op x).length ≤ 12 := by
  unfold rchL
  rw [List.length_map]
  refine Nat.le_trans (List.length_filter_le _ _) ?_
  simp
theorem mem_rchL {ds : List Dr} {op : Dr → Bool} {x : Int} (hb : ∀ y, Rch ds op x y → 0 ≤ y ∧ y < 12) (y : Int) : y ∈ rchL ds op x ↔ Rch ds op x y := by
  unfold rchL
  rw [List.mem_map]
  constructor
  · rintro ⟨p, hp, rfl⟩
    rw [List.mem_filter] at hp
    exact @of_decide_eq_true _ (Classical.propDecidable _) hp.2
  · intro h
    obtain ⟨h0, h1⟩ := hb y h
    have e : ((y.toNat : Nat) : Int) = y := by omega
    refine ⟨y.toNat, ?_, e⟩
    rw [List.mem_filter, List.mem_range]
    refine ⟨by omega, @decide_eq_true _ (Classical.propDecidable _) ?_⟩
    rw [e]; exact h
theorem rchL_asc (ds : List Dr) (op : Dr → Bool) (x : Int) : Asc ltI (rchL ds op x) := by
  unfold rchL Asc
  rw [List.pairwise_map]
  refine (List.Pairwise.filter _ List.pairwise_lt_range).imp ?_
  intro a b hab
  unfold ltI
  rw [decide_eq_true_iff]
  omega
/-- whatever list ascends and has just the nodes to which one comes is that one -/
theorem rchL_eq {ds : List Dr} {op : Dr → Bool} {x : Int} (hb : ∀ y, Rch ds op x y → 0 ≤ y ∧ y < 12) {l : List Int} (h1 : Asc ltI l) (h2 : ∀ y, y ∈ l ↔ Rch ds op x y) : rchL ds op x = l :=
  (rchL_asc ds op x).ext ordI h1 fun y => by rw [mem_rchL hb, h2]
theorem rch_node {m : Mz} (V : Valid m) {op : Dr → Bool} {x : Int} (hx : 0 ≤ x ∧ x < m.size) {y : Int} (h : Rch m.doors op x y) : 0 ≤ y ∧ y < m.size := by
  induction h with
  | refl => exact hx
  | fwd hd _ _ _ =>
    obtain ⟨k, hk, rfl⟩ := List.mem_iff_getElem.1 hd
    obtain ⟨a, b, c, d, _⟩ := V.door k hk
    exact ⟨c, d⟩
  | bwd hd _ _ _ =>
    obtain ⟨k, hk, rfl⟩ := List.mem_iff_getElem.1 hd
    obtain ⟨a, b, c, d, _⟩ := V.door k hk
    exact ⟨a, b⟩
def openTo (set : Int) (d : Dr) : Bool := hasB set d.2.2
def openTo2 (set : Int) (d : Dr) : Bool := has2B set d.2.2
theorem open_both {m : Mz} (V : Valid m) {set : Int} (h0 : 0 ≤ set) (h1 : set < 64) : ∀ d ∈ m.doors, openTo set d = openTo2 set d := by
  intro d hd
  obtain ⟨k, hk, rfl⟩ := List.mem_iff_getElem.1 hd
  obtain ⟨_, _, _, _, _, b, c⟩ := V.door k hk
  exact has_same h0 h1 b c
theorem rch_both {m : Mz} (V : Valid m) {set : Int} (h0 : 0 ≤ set) (h1 : set < 64) {x y : Int} : Rch m.doors (openTo set) x y ↔ Rch m.doors (openTo2 set) x y :=
  ⟨Rch.mono fun d hd ho => by rw [← open_both V h0 h1 d hd]; exact ho, Rch.mono fun d hd ho => by rw [open_both V h0 h1 d hd]; exact ho⟩
/-- all nodes to which one comes -/
noncomputable def reachOf (m : Mz) (x set : Int) : List Int := rchL m.doors (openTo set) x
def reachB (m : Mz) (x set : Int) : Bool := mzNodeB m x && setB set
noncomputable def reachV (m : Mz) (x set : Int) : List Int := if reachB m x set then reachOf m x set else []
theorem reachV_yes {m : Mz} {x set : Int} (h : reachB m x set = true) : reachV m x set = reachOf m x set := by unfold reachV; rw [if_pos h]
theorem reachV_no {m : Mz} {x set : Int} (h : reachB m x set = false) : reachV m x set = [] := by unfold reachV; rw [h]; rfl
theorem reachV_len (m : Mz) (x set : Int) : (reachV m x set).length ≤ 1048576 := by
  unfold reachV
  split
  · have := rchL_len m.doors (openTo set) x
    unfold reachOf
    omega
  · simp
/-- the program's number tells it -/
theorem reach_mask {m : Mz} (V : Valid m) {x : Nat} {set : Int} (hx : (x : Int) < m.size) {n : Nat} (h : MaskOk m.doors (openTo set) x n) (hp : passN (openTo set) n m.doors = n) : digsTo n 12 = reachOf m x set := by
  have hv : ∀ d ∈ m.doors, 0 ≤ d.1 ∧ d.1 < 12 ∧ 0 ≤ d.2.1 ∧ d.2.1 < 12 := by
    intro d hd
    obtain ⟨k, hk, rfl⟩ := List.mem_iff_getElem.1 hd
    obtain ⟨a, b, c, e, _⟩ := V.door k hk
    have := V.size12
    omega
  exact (rchL_eq (fun y hy => by have := rch_node V ⟨by omega, hx⟩ hy; have := V.size12; omega) (digsTo_asc n 12) (mask_end h hp hv)).symm
/-- the model's list is it -/
theorem reach_list {m : Mz} (V : Valid m) {x set : Int} (h0 : 0 ≤ set) (h1 : set < 64) (hx : 0 ≤ x ∧ x < m.size) {out list : List Int} (h : ListOk m.doors (openTo2 set) x out list) (hc : ∀ z ∈ list, ∀ d ∈ m.doors, openTo2 set d = true → (d.1 = z → d.2.1 ∈ list) ∧ (d.2.1 = z → d.1 ∈ list)) : out = reachOf m x set :=
  (rchL_eq (fun y hy => by have := rch_node V hx hy; have := V.size12; omega) h.asc fun y => by rw [list_end h hc, rch_both V h0 h1]).symm
end M
end Go.Proofs.Ytddpjjdncmokmaa
namespace Go.Proofs.Ytddpjjdncmokmaa
open Go.RowKit
namespace M
/-- the keys at the nodes of a list, in addition to a set -/
def gath (m : Mz) : List Int → Int → Int
  | [], s => s
  | x :: l, s => gath m l (bits .or .i64 s (m.keys.getD x.toNat 0))
theorem gath_append (m : Mz) : ∀ (l l' : List Int) (s : Int), gath m (l ++ l') s = gath m l' (gath m l s)
  | [], _, _ => rfl
  | _ :: l, l', _ => gath_append m l l' _
theorem gath_take {m : Mz} {l : List Int} {k : Nat} (h : k < l.length) (s : Int) : gath m (l.take (k + 1)) s = bits .or .i64 (gath m (l.take k) s) (m.keys.getD l[k].toNat 0) := by
  rw [List.take_succ_eq_append_getElem h, gath_append]
  rfl
/-- a set has all colours of another one -/
def SubS (s t : Int) : Prop := has2B t s = true
theorem and_nat {a b : Nat} (ha : a < 64) (hb : b < 64) : bits .and .i64 (a : Int) (b : Int) = ((a &&& b : Nat) : Int) := (bits_nat .i64 62 (by decide) wraps_i64 a b (by omega) (by omega)).1
theorem or_nat {a b : Nat} (ha : a < 64) (hb : b < 64) : bits .or .i64 (a : Int) (b : Int) = ((a ||| b : Nat) : Int) := (bits_nat .i64 62 (by decide) wraps_i64 a b (by omega) (by omega)).2
theorem sub_nat {a b : Nat} (ha : a < 64) (hb : b < 64) : SubS (a : Int) (b : Int) ↔ b &&& a = a := by
  unfold SubS has2B
  rw [and_nat hb ha, beq_iff_eq]
  exact ⟨fun h => by exact_mod_cast h, fun h => by exact_mod_cast h⟩
theorem SubS.trans {s t u : Int} (hs : 0 ≤ s ∧ s < 64) (ht : 0 ≤ t ∧ t < 64) (hu : 0 ≤ u ∧ u < 64) (h1 : SubS s t) (h2 : SubS t u) : SubS s u := by
  obtain ⟨a, rfl⟩ : ∃ a : Nat, s = a := ⟨s.toNat, by omega⟩
  obtain ⟨b, rfl⟩ : ∃ a : Nat, t = a := ⟨t.toNat, by omega⟩
  obtain ⟨c, rfl⟩ : ∃ a : Nat, u = a := ⟨u.toNat, by omega⟩
  rw [sub_nat (by omega) (by omega)] at *
  rw [← h1, ← Nat.and_assoc, h2]
theorem SubS.refl {s : Int} (hs : 0 ≤ s ∧ s < 64) : SubS s s := by
  obtain ⟨a, rfl⟩ : ∃ a : Nat, s = a := ⟨s.toNat, by omega⟩
  rw [sub_nat (by omega) (by omega), Nat.and_self]
theorem SubS.le {s t : Int} (hs : 0 ≤ s ∧ s < 64) (ht : 0 ≤ t ∧ t < 64) (h : SubS s t) : s ≤ t := by
  obtain ⟨a, rfl⟩ : ∃ a : Nat, s = a := ⟨s.toNat, by omega⟩
  obtain ⟨b, rfl⟩ : ∃ a : Nat, t = a := ⟨t.toNat, by omega⟩
  rw [sub_nat (by omega) (by omega)] at h
  have : b &&& a ≤ b := Nat.and_le_left
  omega
theorem SubS.or {s t : Int} (hs : 0 ≤ s ∧ s < 64) (ht : 0 ≤ t ∧ t < 64) : SubS s (bits .or .i64 s t) := by
  obtain ⟨a, rfl⟩ : ∃ a : Nat, s = a := ⟨s.toNat, by omega⟩
  obtain ⟨b, rfl⟩ : ∃ a : Nat, t = a := ⟨t.toNat, by omega⟩
  have ha : a < 64 := by omega
  have hb : b < 64 := by omega
  have h64 : (2 : Nat) ^ 6 = 64 := rfl
  have hlt : a ||| b < 64 := by rw [← h64]; exact Nat.or_lt_two_pow (by rw [h64]; exact ha) (by rw [h64]; exact hb)
  rw [or_nat ha hb, sub_nat ha hlt]
  refine Nat.eq_of_testBit_eq fun p => ?_
  rw [Nat.testBit_and, Nat.testBit_or]
  cases a.testBit p <;> simp
theorem key_set {m : Mz} (V : Valid m) (k : Nat) : 0 ≤ m.keys.getD k 0 ∧ m.keys.getD k 0 < 64 := by
  rw [List.getD_eq_getElem?_getD]
  rcases Nat.lt_or_ge k m.keys.length with h | h
  · rw [List.getElem?_eq_getElem h]
    exact V.key k h
  · rw [List.getElem?_eq_none h]
    exact ⟨by decide, by decide⟩
theorem gath_set {m : Mz} (V : Valid m) : ∀ (l : List Int) (s : Int), 0 ≤ s ∧ s < 64 → (0 ≤ gath m l s ∧ gath m l s < 64) ∧ SubS s (gath m l s)
  | [], _, h => ⟨h, SubS.refl h⟩
  | x :: l, s, h => by
    have hk := key_set V x.toNat
    have ho := or_set h.1 h.2 hk.1 hk.2
    have ih := gath_set V l _ ho
    exact ⟨ih.1, (SubS.or h hk).trans h ho ih.1 ih.2⟩
/-- the colours behind a round -/
noncomputable def nextC (m : Mz) (s : Int) : Int := gath m (reachOf m 0 s) s
theorem nextC_set {m : Mz} (V : Valid m) {s : Int} (h : 0 ≤ s ∧ s < 64) : (0 ≤ nextC m s ∧ nextC m s < 64) ∧ SubS s (nextC m s) := gath_set V _ _ h
/-- more colours open no fewer doors -/
theorem open_more {m : Mz} (V : Valid m) {s t : Int} (hs : 0 ≤ s ∧ s < 64) (ht : 0 ≤ t ∧ t < 64) (h : SubS s t) : ∀ d ∈ m.doors, openTo s d = true → openTo t d = true := by
  intro d hd
  rw [open_both V hs.1 hs.2 d hd, open_both V ht.1 ht.2 d hd]
  intro ho
  obtain ⟨k, hk, rfl⟩ := List.mem_iff_getElem.1 hd
  obtain ⟨_, _, _, _, _, b, c⟩ := V.door k hk
  exact SubS.trans (s := m.doors[k].2.2) ⟨b, c⟩ hs ht ho h
theorem mem_reach {m : Mz} (V : Valid m) (s : Int) (y : Int) : y ∈ reachOf m 0 s ↔ Rch m.doors (openTo s) 0 y :=
  mem_rchL (fun z hz => by have := rch_node V ⟨Int.le_refl _, by have := V.size1; omega⟩ hz; have := V.size12; omega) y
theorem reach_node {m : Mz} (V : Valid m) {s y : Int} (h : y ∈ reachOf m 0 s) : 0 ≤ y ∧ y < m.size := rch_node V ⟨Int.le_refl _, by have := V.size1; omega⟩ ((mem_reach V s y).1 h)
theorem reach_more {m : Mz} (V : Valid m) {s t : Int} (hs : 0 ≤ s ∧ s < 64) (ht : 0 ≤ t ∧ t < 64) (h : SubS s t) {y : Int} (hy : y ∈ reachOf m 0 s) : y ∈ reachOf m 0 t :=
  (mem_reach V t y).2 (Rch.mono (open_more V hs ht h) ((mem_reach V s y).1 hy))
theorem reach_zero {m : Mz} (V : Valid m) (s : Int) : (0 : Int) ∈ reachOf m 0 s := (mem_reach V s 0).2 .refl
/-- the colours behind k rounds -/
noncomputable def it (m : Mz) (s : Int) : Nat → Int
  | 0 => s
  | k + 1 => nextC m (it m s k)
theorem it_set {m : Mz} (V : Valid m) {s : Int} (h : 0 ≤ s ∧ s < 64) : ∀ k, 0 ≤ it m s k ∧ it m s k < 64
  | 0 => h
  | k + 1 => (nextC_set V (it_set V h k)).1
theorem it_sub {m : Mz} (V : Valid m) {s : Int} (h : 0 ≤ s ∧ s < 64) (k : Nat) : SubS (it m s k) (it m s (k + 1)) := (nextC_set V (it_set V h k)).2
theorem it_le {m : Mz} (V : Valid m) {s : Int} (h : 0 ≤ s ∧ s < 64) (k : Nat) : it m s k ≤ it m s (k + 1) := (it_sub V h k).le (it_set V h k) (it_set V h (k + 1))
theorem it_more {m : Mz} (V : Valid m) {s : Int} (h : 0 ≤ s ∧ s < 64) (k : Nat) : ∀ j, SubS (it m s k) (it m s (k + j))
  | 0 => SubS.refl (it_set V h k)
  | j + 1 => (it_more V h k j).trans (it_set V h k) (it_set V h _) (it_set V h _) (it_sub V h (k + j))
theorem it_far {m : Mz} {s : Int} {k : Nat} (h : it m s (k + 1) = it m s k) : ∀ j, it m s (k + j) = it m s k
  | 0 => rfl
  | j + 1 => by
    show nextC m (it m s (k + j)) = _
    rw [it_far h j]
    exact h
/-- the last round that brings a colour is the k-th -/
def Stop (m : Mz) (s : Int) (k : Nat) : Prop := it m s (k + 1) = it m s k ∧ ∀ i, i < k → it m s (i + 1) ≠ it m s i
theorem it_grow {m : Mz} (V : Valid m) {s : Int} (h : 0 ≤ s ∧ s < 64) {k : Nat} (hk : ∀ i, i < k → it m s (i + 1) ≠ it m s i) : (k : Int) ≤ it m s k := by
  induction k with
  | zero => exact h.1
  | succ k ih =>
    have h1 := ih fun i hi => hk i (by omega)
    have h2 := it_le V h k
    have h3 := hk k (by omega)
    omega
theorem least_of {p : Nat → Prop} : ∀ k, p k → ∃ j, j ≤ k ∧ p j ∧ ∀ i, i < j → ¬ p i := by
  intro k
  induction k using Nat.strongRecOn with
  | ind k ih =>
    intro hk
    rcases Classical.em (∃ i, i < k ∧ p i) with ⟨i, hi, hp⟩ | hn
    · obtain ⟨j, h1, h2, h3⟩ := ih i hi hp
      exact ⟨j, by omega, h2, h3⟩
    · exact ⟨k, Nat.le_refl _, hk, fun i hi hp => hn ⟨i, hi, hp⟩⟩
theorem stop_ex {m : Mz} (V : Valid m) {s : Int} (h : 0 ≤ s ∧ s < 64) : ∃ k, k ≤ 64 ∧ Stop m s k := by
  rcases Classical.em (∃ k, k < 64 ∧ it m s (k + 1) = it m s k) with ⟨k, hk, he⟩ | hn
  · obtain ⟨j, h1, h2, h3⟩ := least_of (p := fun k => it m s (k + 1) = it m s k) k he
    exact ⟨j, by omega, h2, h3⟩
  · have := it_grow V h (k := 64) fun i hi he => hn ⟨i, hi, he⟩
    have := (it_set V h 64).2
    omega
noncomputable def lastK (m : Mz) (s : Int) : Nat := @dite _ (∃ k, k ≤ 64 ∧ Stop m s k) (Classical.propDecidable _) (fun h => Classical.choose h) fun _ => 0
theorem lastK_le (m : Mz) (s : Int) : lastK m s ≤ 64 := by
  unfold lastK
  split
  · rename_i h; exact (Classical.choose_spec h).1
  · omega
theorem lastK_stop {m : Mz} (V : Valid m) {s : Int} (h : 0 ≤ s ∧ s < 64) : Stop m s (lastK m s) := by
  unfold lastK
  rw [dif_pos (stop_ex V h)]
  exact (Classical.choose_spec (stop_ex V h)).2
/-- on the way: the next round brings nothing just at the last one -/
theorem last_iff {m : Mz} (V : Valid m) {s : Int} (h : 0 ≤ s ∧ s < 64) {k : Nat} (hk : k ≤ lastK m s) : it m s (k + 1) = it m s k ↔ k = lastK m s := by
  obtain ⟨h1, h2⟩ := lastK_stop V h
  constructor
  · intro he
    rcases Nat.lt_or_ge k (lastK m s) with hlt | hge
    · exact absurd he (h2 k hlt)
    · omega
  · rintro rfl
    exact h1
theorem it_last {m : Mz} (V : Valid m) {s : Int} (h : 0 ≤ s ∧ s < 64) (j : Nat) : it m s (lastK m s + j) = it m s (lastK m s) := it_far (lastK_stop V h).1 j
/-- the sets that one has at first and behind each round that brings a colour -/
noncomputable def setsTo (m : Mz) (s : Int) (k : Nat) : List Int := (List.range (k + 1)).map (it m s)
theorem setsTo_succ (m : Mz) (s : Int) (k : Nat) : setsTo m s (k + 1) = setsTo m s k ++ [it m s (k + 1)] := by unfold setsTo; rw [List.range_succ (n := k + 1), List.map_append]; rfl
theorem setsTo_len (m : Mz) (s : Int) (k : Nat) : (setsTo m s k).length = k + 1 := by unfold setsTo; simp
theorem setsTo_at {m : Mz} {s : Int} {k i : Nat} (h : i < k + 1) : (setsTo m s k)[i]? = some (it m s i) := by unfold setsTo; rw [List.getElem?_map, List.getElem?_range h]; rfl
/-- the set that one has at last -/
noncomputable def finC (m : Mz) (s : Int) : Int := it m s (lastK m s)
/-- the round in which a node is entered, of the first k rounds, or 0 -/
noncomputable def entTo (m : Mz) (s : Int) : Nat → Int → Nat
  | 0, _ => 0
  | k + 1, x => if entTo m s k x = 0 then (if x ∈ reachOf m 0 (it m s k) then k + 1 else 0) else entTo m s k x
theorem entTo_le (m : Mz) (s : Int) (x : Int) : ∀ k, entTo m s k x ≤ k
  | 0 => Nat.le_refl _
  | k + 1 => by
    have := entTo_le m s x k
    unfold entTo
    split
    · split <;> omega
    · omega
theorem entTo_zero {m : Mz} {s : Int} {x : Int} : ∀ {k : Nat}, entTo m s k x = 0 ↔ ∀ i, i < k → x ∉ reachOf m 0 (it m s i)
  | 0 => ⟨fun _ i hi => by omega, fun _ => rfl⟩
  | k + 1 => by
    have ih := entTo_zero (m := m) (s := s) (x := x) (k := k)
    unfold entTo
    constructor
    · intro h i hi
      split at h
      · rename_i h0
        split at h
        · omega
        · rename_i hn
          rcases Nat.lt_or_ge i k with hlt | hge
          · exact ih.1 h0 i hlt
          · obtain rfl : i = k := by omega
            exact hn
      · rename_i h0
        exact absurd h h0
    · intro h
      rw [if_pos (ih.2 fun i hi => h i (by omega)), if_neg (h k (by omega))]
/-- the first round that enters a node -/
theorem entTo_pos {m : Mz} {s : Int} {x : Int} {r : Nat} : ∀ {k : Nat}, entTo m s k x = r + 1 ↔ r < k ∧ x ∈ reachOf m 0 (it m s r) ∧ ∀ i, i < r → x ∉ reachOf m 0 (it m s i)
  | 0 => ⟨fun h => (by cases h), fun h => (by omega)⟩
  | k + 1 => by
    have ih := entTo_pos (m := m) (s := s) (x := x) (r := r) (k := k)
    have hz := entTo_zero (m := m) (s := s) (x := x) (k := k)
    unfold entTo
    constructor
    · intro h
      split at h
      · rename_i h0
        split at h
        · rename_i hm
          obtain rfl : k = r := by omega
          exact ⟨by omega, hm, hz.1 h0⟩
        · cases h
      · obtain ⟨a, b, c⟩ := ih.1 h
        exact ⟨by omega, b, c⟩
    · rintro ⟨a, b, c⟩
      rcases Nat.lt_or_ge r k with hlt | hge
      · rw [ih.2 ⟨hlt, b, c⟩, if_neg (by omega)]
      · obtain rfl : r = k := by omega
        rw [if_pos (hz.2 c), if_pos b]
/-- what is entered at all is entered with the colours that one has at last -/
theorem ent_last {m : Mz} (V : Valid m) {s : Int} (h : 0 ≤ s ∧ s < 64) (x : Int) : entTo m s (lastK m s + 1) x ≠ 0 ↔ x ∈ reachOf m 0 (finC m s) := by
  constructor
  · intro hne
    obtain ⟨r, hr⟩ : ∃ r, entTo m s (lastK m s + 1) x = r + 1 := ⟨entTo m s (lastK m s + 1) x - 1, by omega⟩
    obtain ⟨a, b, _⟩ := entTo_pos.1 hr
    obtain ⟨j, hj⟩ : ∃ j, lastK m s = r + j := ⟨lastK m s - r, by omega⟩
    unfold finC
    rw [hj]
    exact reach_more V (it_set V h _) (it_set V h _) (it_more V h r j) b
  · intro hm h0
    exact entTo_zero.1 h0 (lastK m s) (by omega) hm
noncomputable def nodeRounds (m : Mz) (s : Int) (k : Nat) : List Int := (List.range m.size.toNat).map fun x : Nat => ((entTo m s k (x : Int) : Nat) : Int)
theorem nodeRounds_len (m : Mz) (s : Int) (k : Nat) : (nodeRounds m s k).length = m.size.toNat := by unfold nodeRounds; simp

-- the program's pairs
/-- the number whose binary digits are the nodes of a list -/
def mk : List Int → Nat
  | [] => 0
  | x :: l => 2 ^ x.toNat ||| mk l
theorem digB_mk {l : List Int} (hl : ∀ x ∈ l, 0 ≤ x) (p : Nat) : digB (mk l) p = true ↔ (p : Int) ∈ l := by
  induction l with
  | nil => simp [mk, digB]
  | cons x l ih =>
    have hx := hl x (List.mem_cons_self ..)
    unfold mk
    rw [digB_or, Bool.or_eq_true, ih fun y hy => hl y (List.mem_cons_of_mem _ hy), digB_pow, decide_eq_true_iff, List.mem_cons]
    constructor
    · rintro (h | h)
      · exact .inl (by omega)
      · exact .inr h
    · rintro (h | h)
      · exact .inl (by omega)
      · exact .inr h
theorem mk_lt {l : List Int} (hl : ∀ x ∈ l, x < 12) : mk l < 4096 := by
  have h12 : (2 : Nat) ^ 12 = 4096 := rfl
  induction l with
  | nil => decide
  | cons x l ih =>
    have hx := hl x (List.mem_cons_self ..)
    unfold mk
    rw [← h12]
    exact Nat.or_lt_two_pow (Nat.pow_lt_pow_of_lt (by decide) (by omega)) (by rw [h12]; exact ih fun y hy => hl y (List.mem_cons_of_mem _ hy))
theorem mk_ext {l l' : List Int} (h0 : ∀ x ∈ l, 0 ≤ x) (h1 : ∀ x ∈ l', 0 ≤ x) (h : mk l = mk l') (y : Int) : y ∈ l ↔ y ∈ l' := by
  have key : ∀ p : Nat, (p : Int) ∈ l ↔ (p : Int) ∈ l' := fun p => by rw [← digB_mk h0, ← digB_mk h1, h]
  constructor
  · intro hy
    have := h0 y hy
    have e : ((y.toNat : Nat) : Int) = y := by omega
    have := (key y.toNat).1 (by rwa [e])
    rwa [e] at this
  · intro hy
    have := h1 y hy
    have e : ((y.toNat : Nat) : Int) = y := by omega
    have := (key y.toNat).2 (by rwa [e])
    rwa [e] at this
/-- a number below 4096 is told by its digits -/
theorem mk_digs {n : Nat} (h : n < 4096) : mk (digsTo n 12) = n := by
  refine Nat.eq_of_testBit_eq fun p => ?_
  rw [← digB_testBit, ← digB_testBit, Bool.eq_iff_iff, digB_mk (fun x hx => by obtain ⟨q, rfl, _⟩ := mem_digsTo.1 hx; omega), mem_digsTo]
  constructor
  · rintro ⟨q, hq, _, hd⟩
    obtain rfl : p = q := by omega
    exact hd
  · intro hd
    refine ⟨p, rfl, ?_, hd⟩
    rcases Nat.lt_or_ge p 12 with hlt | hge
    · exact hlt
    · rw [digB_lt (k := 12) (Nat.div_eq_of_lt h) hge] at hd
      cases hd
noncomputable def gn (m : Mz) (s : Int) : Nat → Nat
  | 0 => 0
  | k + 1 => mk (reachOf m 0 (it m s k))
theorem gn_lt {m : Mz} (V : Valid m) (s : Int) : ∀ k, gn m s k < 4096
  | 0 => by show (0 : Nat) < 4096; decide
  | k + 1 => mk_lt fun _ hx => by have := reach_node V hx; have := V.size12; omega
theorem digB_gn {m : Mz} (V : Valid m) (s : Int) (k p : Nat) : digB (gn m s (k + 1)) p = true ↔ (p : Int) ∈ reachOf m 0 (it m s k) := digB_mk (fun _ hx => (reach_node V hx).1) p
theorem gn_pos {m : Mz} (V : Valid m) (s : Int) (k : Nat) : gn m s (k + 1) ≠ 0 := by
  intro h
  have := (digB_gn V s k 0).2 (reach_zero V _)
  rw [h] at this
  simp [digB] at this
/-- where the program's pairs stay the same -/
noncomputable def lastG (m : Mz) (s : Int) : Nat := if gn m s (lastK m s + 1) = gn m s (lastK m s) then lastK m s else lastK m s + 1
theorem lastG_le (m : Mz) (s : Int) : lastG m s ≤ 65 := by
  have := lastK_le m s
  unfold lastG
  split <;> omega
theorem lastG_pos {m : Mz} (V : Valid m) (s : Int) : 0 < lastG m s := by
  unfold lastG
  split
  · rename_i h
    rcases Nat.eq_zero_or_pos (lastK m s) with h0 | h0
    · rw [h0] at h
      exact absurd h (gn_pos V s 0)
    · exact h0
  · omega
theorem lastG_iff {m : Mz} (V : Valid m) {s : Int} (h : 0 ≤ s ∧ s < 64) {k : Nat} (hk : k ≤ lastG m s) : (gn m s (k + 1) = gn m s k ∧ it m s (k + 1) = it m s k) ↔ k = lastG m s := by
  rcases Nat.lt_trichotomy k (lastK m s) with hlt | heq | hgt
  · have h1 := mt (last_iff V h (Nat.le_of_lt hlt)).1 (by omega)
    constructor
    · exact fun e => absurd e.2 h1
    · intro e
      unfold lastG at e
      split at e <;> omega
  · subst heq
    have h1 := (lastK_stop V h).1
    unfold lastG
    constructor
    · exact fun e => by rw [if_pos e.1]
    · intro e
      split at e
      · rename_i hg; exact ⟨hg, h1⟩
      · omega
  · have hg : lastG m s = lastK m s + 1 := by
      unfold lastG at hk ⊢
      split <;> rename_i hc
      · rw [if_pos hc] at hk; omega
      · rfl
    obtain rfl : k = lastK m s + 1 := by omega
    have e1 : it m s (lastK m s + 1) = it m s (lastK m s) := (lastK_stop V h).1
    have e2 : it m s (lastK m s + 1 + 1) = it m s (lastK m s + 1) := by
      show nextC m (it m s (lastK m s + 1)) = nextC m (it m s (lastK m s))
      rw [e1]
    exact ⟨fun _ => hg.symm, fun _ => ⟨by show mk (reachOf m 0 (it m s (lastK m s + 1))) = mk (reachOf m 0 (it m s (lastK m s))); rw [e1], e2⟩⟩
theorem it_lastG {m : Mz} (V : Valid m) {s : Int} (h : 0 ≤ s ∧ s < 64) : it m s (lastG m s) = finC m s := by
  unfold lastG finC
  split
  · rfl
  · exact (lastK_stop V h).1
theorem gn_lastG {m : Mz} (V : Valid m) {s : Int} (h : 0 ≤ s ∧ s < 64) : digsTo (gn m s (lastG m s)) 12 = reachOf m 0 (finC m s) := by
  have e : gn m s (lastG m s) = mk (reachOf m 0 (finC m s)) := by
    have := ((lastG_iff V h (Nat.le_refl _)).2 rfl).1
    rw [← this]
    show mk (reachOf m 0 (it m s (lastG m s))) = _
    rw [it_lastG V h]
  refine (digsTo_asc _ 12).ext ordI (rchL_asc _ _ _) fun y => ?_
  rw [mem_digsTo, e]
  constructor
  · rintro ⟨p, rfl, _, hp⟩
    exact (digB_mk (fun _ hx => (reach_node V hx).1) p).1 hp
  · intro hy
    have hn := reach_node V hy
    have := V.size12
    have ey : ((y.toNat : Nat) : Int) = y := by omega
    exact ⟨y.toNat, by omega, by omega, (digB_mk (fun _ hx => (reach_node V hx).1) y.toNat).2 (by rw [ey]; exact hy)⟩
/-- the rounds told by the pairs -/
theorem ent_lastG {m : Mz} (V : Valid m) (s x : Int) : entTo m s (lastG m s) x = entTo m s (lastK m s + 1) x := by
  unfold lastG
  split
  · rename_i hg
    obtain ⟨j, hj⟩ : ∃ j, lastK m s = j + 1 := by
      rcases Nat.eq_zero_or_pos (lastK m s) with h0 | h0
      · rw [h0] at hg
        exact absurd hg (gn_pos V s 0)
      · exact ⟨lastK m s - 1, by omega⟩
    have hx : x ∈ reachOf m 0 (it m s (lastK m s)) → x ∈ reachOf m 0 (it m s j) := by
      rw [hj] at hg ⊢
      exact (mk_ext (fun _ hx => (reach_node V hx).1) (fun _ hx => (reach_node V hx).1) hg x).1
    show _ = entTo m s (lastK m s + 1) x
    have hu : entTo m s (lastK m s + 1) x = if entTo m s (lastK m s) x = 0 then (if x ∈ reachOf m 0 (it m s (lastK m s)) then lastK m s + 1 else 0) else entTo m s (lastK m s) x := rfl
    rw [hu]
    split
    · rename_i h0
      rw [if_neg]
      · exact h0
      · intro hm
        exact entTo_zero.1 h0 j (by omega) (hx hm)
    · rfl
  · rfl
end M
end Go.Proofs.Ytddpjjdncmokmaa
namespace Go.Proofs.Ytddpjjdncmokmaa
open Go.RowKit
namespace M
/-- the round of a node, where the nodes of P have just been looked at -/
noncomputable def vR (m : Mz) (s : Int) (r : Nat) (P : List Int) (x : Nat) : Int := if (x : Int) ∈ P ∧ entTo m s r x = 0 then ((r + 1 : Nat) : Int) else ((entTo m s r x : Nat) : Int)
noncomputable def midR (m : Mz) (s : Int) (r : Nat) (P : List Int) : List Int := (List.range m.size.toNat).map (vR m s r P)
theorem midR_len (m : Mz) (s : Int) (r : Nat) (P : List Int) : (midR m s r P).length = m.size.toNat := by unfold midR; simp
theorem midR_at {m : Mz} {s : Int} {r x : Nat} {P : List Int} (h : x < m.size.toNat) : (midR m s r P)[x]? = some (vR m s r P x) := by unfold midR; rw [List.getElem?_map, List.getElem?_range h]; rfl
theorem midR_nil (m : Mz) (s : Int) (r : Nat) : midR m s r [] = nodeRounds m s r := by
  unfold midR nodeRounds
  refine List.map_congr_left fun x _ => ?_
  unfold vR
  rw [if_neg (fun h => by cases h.1)]
theorem midR_all (m : Mz) (s : Int) (r : Nat) : midR m s r (reachOf m 0 (it m s r)) = nodeRounds m s (r + 1) := by
  unfold midR nodeRounds
  refine List.map_congr_left fun x _ => ?_
  unfold vR
  show _ = (((if entTo m s r x = 0 then (if (x : Int) ∈ reachOf m 0 (it m s r) then r + 1 else 0) else entTo m s r x : Nat)) : Int)
  by_cases h0 : entTo m s r x = 0
  · by_cases hm : (x : Int) ∈ reachOf m 0 (it m s r)
    · rw [if_pos ⟨hm, h0⟩, if_pos h0, if_pos hm]
    · rw [if_neg (fun h => hm h.1), if_pos h0, if_neg hm, h0]
  · rw [if_neg (fun h => h0 h.2), if_neg h0]
theorem vR_nonneg (m : Mz) (s : Int) (r : Nat) (P : List Int) (x : Nat) : 0 ≤ vR m s r P x := by unfold vR; split <;> omega
theorem mid_yes {m : Mz} {s : Int} {r j i : Nat} {L : List Int} (hi : i < L.length) (hj : L[i] = (j : Int)) (_hjs : j < m.size.toNat) (h : vR m s r (L.take i) j = 0) : midR m s r (L.take (i + 1)) = (midR m s r (L.take i)).set j ((r + 1 : Nat) : Int) := by
  have h0 : entTo m s r j = 0 := by
    unfold vR at h
    split at h
    · rename_i hc; exact hc.2
    · omega
  refine List.ext_getElem? fun x => ?_
  by_cases hx : x < m.size.toNat
  · rw [midR_at hx, List.getElem?_set]
    by_cases hxj : j = x
    · subst hxj
      rw [if_pos rfl, if_pos (by rw [midR_len]; exact hx)]
      congr 1
      unfold vR
      rw [if_pos ⟨by rw [List.take_succ_eq_append_getElem hi, hj]; simp, h0⟩]
    · rw [if_neg hxj, midR_at hx]
      congr 1
      unfold vR
      have : (x : Int) ∈ L.take (i + 1) ↔ (x : Int) ∈ L.take i := by
        rw [List.take_succ_eq_append_getElem hi, hj, List.mem_append, List.mem_singleton]
        exact ⟨fun h => h.resolve_right (by omega), .inl⟩
      simp only [this]
  · rw [List.getElem?_eq_none (by rw [midR_len]; omega), List.getElem?_eq_none (by rw [List.length_set, midR_len]; omega)]
theorem mid_no {m : Mz} {s : Int} {r j i : Nat} {L : List Int} (hi : i < L.length) (hj : L[i] = (j : Int)) (h : vR m s r (L.take i) j ≠ 0) : midR m s r (L.take (i + 1)) = midR m s r (L.take i) := by
  unfold midR
  refine List.map_congr_left fun x _ => ?_
  have hm : (x : Int) ∈ L.take (i + 1) ↔ (x : Int) ∈ L.take i ∨ x = j := by
    rw [List.take_succ_eq_append_getElem hi, hj, List.mem_append, List.mem_singleton]
    exact ⟨fun h => h.imp id (fun e => by omega), fun h => h.imp id (fun e => by omega)⟩
  unfold vR
  by_cases hxj : x = j
  · subst hxj
    unfold vR at h
    by_cases h0 : entTo m s r x = 0
    · by_cases hp : (x : Int) ∈ L.take i
      · rw [if_pos ⟨hm.2 (.inl hp), h0⟩, if_pos ⟨hp, h0⟩]
      · rw [if_neg (fun h => hp h.1), h0] at h
        exact absurd rfl h
    · rw [if_neg (fun h => h0 h.2), if_neg (fun h => h0 h.2)]
  · have : (x : Int) ∈ L.take (i + 1) ↔ (x : Int) ∈ L.take i := hm.trans ⟨fun h => h.resolve_right hxj, .inl⟩
    simp only [this]
theorem nodeRounds0 {m : Mz} {s : Int} {n : Nat} (h : m.size = (n : Int)) : nodeRounds m s 0 = List.replicate n 0 := by
  unfold nodeRounds
  rw [h, Int.toNat_natCast]
  refine List.ext_getElem? fun x => ?_
  rcases Nat.lt_or_ge x n with hx | hx
  · rw [List.getElem?_map, List.getElem?_range hx, List.getElem?_replicate, if_pos hx]; rfl
  · rw [List.getElem?_eq_none (by simp; omega), List.getElem?_eq_none (by simp; omega)]
end M
end Go.Proofs.Ytddpjjdncmokmaa
namespace Go.Proofs.Ytddpjjdncmokmaa
open Go.RowKit
namespace C
set_option maxHeartbeats 800000
set_option maxRecDepth 20000
/-- doors in memory from B on, the rest as it was -/
def PutPost (B : Nat) (w : World) (l : List M.Dr) (e : Ending) (w' : World) : Prop :=
  ∃ a c, e = .returned (.slice a l.length c) ∧ OwnAt B w'.heap.size w' 97 a (M.encDs l) ∧ l.length ≤ c ∧ c ≤ 9223372036854775807 ∧ Below w.heap.size w w'
theorem put_end {B n : Nat} {w w' W : World} {l xs : List M.Dr} {v : Value} (hW : Below w.heap.size w W) (hB : B ≤ w.heap.size) (h : w'.ownsRow W.heap.size 97 3 v n (M.encDs xs)) (hx : xs = l) (hn : n = l.length) (hb : Below W.heap.size W w') : PutPost B w l (.returned v) w' := by
  subst hx; subst hn
  obtain ⟨a, c, rfl, h1, h2, h3⟩ := own_slice h
  have := hW.size
  exact ⟨a, c, rfl, h3.mono (by omega) (Nat.le_refl _), h1, h2, hW.trans (hb.mono this)⟩
theorem encDs_single (d : M.Dr) : M.encDs [d] = M.encD d := by simp [M.encDs]
theorem encD_one (d : M.Dr) : ∀ x ∈ M.encD d, x.oneCell' = true := by
  intro x hx
  simp [M.encD] at hx
  rcases hx with rfl | rfl | rfl <;> rfl
theorem news3 {w : World} {g : Nat} {d : M.Dr} (h : Box3 w g 97 (.int .i64 d.1) (.int .i64 d.2.1) (.int .i64 d.2.2)) : ∀ j u, (M.encD d)[j]? = some u → w.cell? ((⟨g, 0, none⟩ : Addr).add j) = some u := World.news_of_block h
theorem add_off (b off j : Nat) : (⟨b, off, none⟩ : Addr).add j = ⟨b, off + j, none⟩ := by
  unfold Addr.add
  split
  · rename_i h; subst h; rfl
  · rfl
theorem news_take {W : World} {b off : Nat} {l : List M.Dr} (h : ∀ j u, (M.encDs l)[j]? = some u → W.cell? ⟨b, off + j, none⟩ = some u) (k : Nat) : ∀ j u, (M.encDs (l.take k))[j]? = some u → W.cell? ((⟨b, off, none⟩ : Addr).add j) = some u := by
  intro j u hu
  rw [M.encDs_take, List.getElem?_take] at hu
  split at hu
  · rw [add_off]; exact h j u hu
  · cases hu
theorem news_drop {W : World} {b off : Nat} {l : List M.Dr} (h : ∀ j u, (M.encDs l)[j]? = some u → W.cell? ⟨b, off + j, none⟩ = some u) (k : Nat) : ∀ j u, (M.encDs (l.drop k))[j]? = some u → W.cell? ((⟨b, off + k * 3, none⟩ : Addr).add j) = some u := by
  intro j u hu
  rw [M.encDs_drop, List.getElem?_drop] at hu
  rw [add_off, Nat.add_assoc]
  exact h _ u hu
end C
end Go.Proofs.Ytddpjjdncmokmaa
namespace Go.Proofs.Ytddpjjdncmokmaa
open Go.RowKit
namespace C
set_option maxHeartbeats 1600000
set_option maxRecDepth 20000
theorem l2Has_any (s t : Int) (w : World) : Calls Try.prog 138 #[.int .i64 s, .int .i64 t] w fun e w' => e = .returned (.bool (M.has2B s t)) ∧ w = w' := by
  go_enter Try.func138, Try.ntmps138
  go_wp2_with fail
  go_ret
  exact ⟨rfl, rfl⟩
theorem hasAll_any (s t : Int) (w : World) : Calls Try.prog 158 #[.int .i64 s, .int .i64 t] w fun e w' => e = .returned (.bool (M.hasB s t)) ∧ w = w' := by
  go_enter Try.func158, Try.ntmps158
  go_wp2_with fail
  go_ret
  exact ⟨rfl, rfl⟩
end C
end Go.Proofs.Ytddpjjdncmokmaa
namespace Go.Proofs.Ytddpjjdncmokmaa
open Go.RowKit
namespace M
theorem and4 (a b : Nat) (ha : a < 4096) (hb : b < 4096) : bits .and .i64 (a : Int) (b : Int) = ((a &&& b : Nat) : Int) := (bits_nat .i64 62 (by decide) wraps_i64 a b (by omega) (by omega)).1
theorem or4 (a b : Nat) (ha : a < 4096) (hb : b < 4096) : bits .or .i64 (a : Int) (b : Int) = ((a ||| b : Nat) : Int) := (bits_nat .i64 62 (by decide) wraps_i64 a b (by omega) (by omega)).2
theorem pow12 {k : Nat} (h : k < 12) : 2 ^ k < 4096 := by
  have h12 : (2 : Nat) ^ 12 = 4096 := rfl
  rw [← h12]
  exact Nat.pow_lt_pow_of_lt (by decide) h
theorem wrap_pow {k : Nat} (h : k < 12) : wrap64 (2 ^ k) = ((2 ^ k : Nat) : Int) := by
  have := pow12 h
  have e : ((2 : Int) ^ k) = ((2 ^ k : Nat) : Int) := by simp
  rw [e]
  generalize 2 ^ k = n at this
  unfold wrap64
  omega
theorem endsI (d : Dr) (h1 : d.1 < 12) (h2 : d.2.1 < 12) : bits .or .i64 (wrap64 (2 ^ d.1.toNat)) (wrap64 (2 ^ d.2.1.toNat)) = ((endsN d : Nat) : Int) := by
  rw [wrap_pow (by omega), wrap_pow (by omega), or4 _ _ (pow12 (by omega)) (pow12 (by omega))]
  rfl
end M
end Go.Proofs.Ytddpjjdncmokmaa
namespace Go.Proofs.Ytddpjjdncmokmaa
open Go.RowKit
namespace M
theorem digB_ext {a b : Nat} (h : ∀ p, digB a p = digB b p) : a = b := Nat.eq_of_testBit_eq fun p => by rw [← digB_testBit, ← digB_testBit, h]
theorem digB_big {n p : Nat} (h : n < 4096) (hp : 12 ≤ p) : digB n p = false := digB_lt (k := 12) (Nat.div_eq_of_lt h) hp
theorem or_lt {a b : Nat} (ha : a < 4096) (hb : b < 4096) : a ||| b < 4096 := by
  have h12 : (2 : Nat) ^ 12 = 4096 := rfl
  rw [← h12] at *
  exact Nat.or_lt_two_pow ha hb
/-- the digits of the one that the other has not -/
def lessN (a b : Nat) : Nat := (BitVec.ofNat 64 a &&& ~~~BitVec.ofNat 64 b).toNat
theorem digB_less {a b : Nat} (ha : a < 4096) (_hb : b < 4096) (p : Nat) : digB (lessN a b) p = (digB a p && !digB b p) := by
  rw [digB_testBit, digB_testBit, digB_testBit]
  unfold lessN
  rw [BitVec.testBit_toNat, BitVec.getLsbD_and, BitVec.getLsbD_not, BitVec.getLsbD_ofNat, BitVec.getLsbD_ofNat]
  rcases Nat.lt_or_ge p 64 with h | h
  · simp [h]
  · have := digB_big ha (show 12 ≤ p by omega)
    rw [digB_testBit] at this
    simp [this]
theorem lessN_lt {a b : Nat} (ha : a < 4096) (hb : b < 4096) : lessN a b < 4096 := by
  refine Nat.lt_of_not_le fun hge => ?_
  have h12 : (2 : Nat) ^ 12 = 4096 := rfl
  rw [← h12] at hge
  obtain ⟨p, hp, ht⟩ := Nat.exists_ge_and_testBit_of_ge_two_pow hge
  rw [← digB_testBit, digB_less ha hb, digB_big ha hp] at ht
  cases ht
theorem less4 {a b : Nat} (ha : a < 4096) (hb : b < 4096) : bits .andNot .i64 (a : Int) (b : Int) = ((lessN a b : Nat) : Int) := by
  have hl := lessN_lt ha hb
  show IntKind.i64.wrap ((BitVec.ofInt 64 (a : Int) &&& ~~~BitVec.ofInt 64 (b : Int)).toNat : Int) = _
  rw [BitVec.ofInt_natCast, BitVec.ofInt_natCast]
  exact wraps_i64 _ (by omega) (by unfold lessN at hl; omega)
-- the next ones
def keysN (m : Mz) (n : Nat) : Int := gath m (digsTo n 12) 0
theorem keysN_set {m : Mz} (V : Valid m) (n : Nat) : 0 ≤ keysN m n ∧ keysN m n < 64 := (gath_set V _ 0 ⟨by decide, by decide⟩).1
/-- one door looked at from n -/
def farN (op : Dr → Bool) (n acc : Nat) (d : Dr) : Nat := if op d = true ∧ n &&& endsN d ≠ 0 then acc ||| endsN d else acc
def stepF (op : Dr → Bool) (n : Nat) (ds : List Dr) : Nat := ds.foldl (farN op n) n
theorem stepF_snoc (op : Dr → Bool) (n : Nat) (ds : List Dr) (d : Dr) : stepF op n (ds ++ [d]) = farN op n (stepF op n ds) d := by unfold stepF; rw [List.foldl_append]; rfl
theorem far_digB (op : Dr → Bool) (n : Nat) (p : Nat) : ∀ (ds : List Dr) (acc : Nat), digB (ds.foldl (farN op n) acc) p = true ↔ digB acc p = true ∨ ∃ d ∈ ds, op d = true ∧ n &&& endsN d ≠ 0 ∧ digB (endsN d) p = true
  | [], acc => by simp
  | d :: ds, acc => by
    rw [List.foldl_cons, far_digB op n p ds]
    unfold farN
    split
    · rename_i hc
      rw [digB_or, Bool.or_eq_true]
      constructor
      · rintro ((h | h) | ⟨e, he, h⟩)
        · exact .inl h
        · exact .inr ⟨d, List.mem_cons_self .., hc.1, hc.2, h⟩
        · exact .inr ⟨e, List.mem_cons_of_mem _ he, h⟩
      · rintro (h | ⟨e, he, h1, h2, h3⟩)
        · exact .inl (.inl h)
        · rcases List.mem_cons.1 he with rfl | he
          · exact .inl (.inr h3)
          · exact .inr ⟨e, he, h1, h2, h3⟩
    · rename_i hc
      constructor
      · rintro (h | ⟨e, he, h⟩)
        · exact .inl h
        · exact .inr ⟨e, List.mem_cons_of_mem _ he, h⟩
      · rintro (h | ⟨e, he, h1, h2, h3⟩)
        · exact .inl h
        · rcases List.mem_cons.1 he with rfl | he
          · exact absurd ⟨h1, h2⟩ hc
          · exact .inr ⟨e, he, h1, h2, h3⟩
theorem far_lt {op : Dr → Bool} {n acc : Nat} {d : Dr} (ha : acc < 4096) (h1 : d.1 < 12) (h2 : d.2.1 < 12) : farN op n acc d < 4096 := by
  unfold farN
  split
  · exact or_lt ha (endsN_lt h1 h2)
  · exact ha
theorem far_le (op : Dr → Bool) (n acc : Nat) (d : Dr) : acc ≤ farN op n acc d := by
  unfold farN
  split
  · exact Nat.left_le_or
  · exact Nat.le_refl _
theorem stepF_lt {op : Dr → Bool} {n : Nat} {ds : List Dr} (hn : n < 4096) (hv : ∀ d ∈ ds, d.1 < 12 ∧ d.2.1 < 12) : stepF op n ds < 4096 := by
  unfold stepF
  have : ∀ (ds : List Dr) (acc : Nat), acc < 4096 → (∀ d ∈ ds, d.1 < 12 ∧ d.2.1 < 12) → ds.foldl (farN op n) acc < 4096 := by
    intro ds
    induction ds with
    | nil => intro acc h _; exact h
    | cons d ds ih =>
      intro acc h hv
      have hd := hv d (List.mem_cons_self ..)
      exact ih _ (far_lt h hd.1 hd.2) fun e he => hv e (List.mem_cons_of_mem _ he)
  exact this ds n hn hv
/-- y can be entered behind the nodes of n -/
def nextB (m : Mz) (n y : Nat) : Bool := !digB n y && m.doors.any fun d => hasB (keysN m n) d.2.2 && ((d.1 == (y : Int) && digB n d.2.1.toNat) || (d.2.1 == (y : Int) && digB n d.1.toNat))
def nextL (m : Mz) (n : Nat) : List Int := ((List.range 12).filter (nextB m n)).map fun p : Nat => (p : Int)
def nextN (m : Mz) (n : Nat) : Nat := if n = 0 then 1 else mk (nextL m n)
theorem nextB_lt {m : Mz} (V : Valid m) {n y : Nat} (h : nextB m n y = true) : (y : Int) < m.size := by
  unfold nextB at h
  rw [Bool.and_eq_true, List.any_eq_true] at h
  obtain ⟨_, d, hd, h⟩ := h
  obtain ⟨k, hk, rfl⟩ := List.mem_iff_getElem.1 hd
  obtain ⟨a1, a2, a3, a4, _⟩ := V.door k hk
  rw [Bool.and_eq_true, Bool.or_eq_true, Bool.and_eq_true, Bool.and_eq_true, beq_iff_eq, beq_iff_eq] at h
  rcases h.2 with h | h
  · omega
  · omega
theorem mem_nextL {m : Mz} {n : Nat} {x : Int} : x ∈ nextL m n ↔ ∃ p : Nat, x = p ∧ p < 12 ∧ nextB m n p = true := by
  unfold nextL
  rw [List.mem_map]
  constructor
  · rintro ⟨p, hp, rfl⟩
    rw [List.mem_filter, List.mem_range] at hp
    exact ⟨p, rfl, hp.1, hp.2⟩
  · rintro ⟨p, rfl, h1, h2⟩
    exact ⟨p, by rw [List.mem_filter, List.mem_range]; exact ⟨h1, h2⟩, rfl⟩
theorem nextL_asc (m : Mz) (n : Nat) : Asc ltI (nextL m n) := by
  unfold nextL Asc
  rw [List.pairwise_map]
  refine (List.Pairwise.filter _ List.pairwise_lt_range).imp ?_
  intro a b hab
  unfold ltI
  rw [decide_eq_true_iff]
  omega
theorem nextL_len (m : Mz) (n : Nat) : (nextL m n).length ≤ 12 := by
  unfold nextL
  rw [List.length_map]
  refine Nat.le_trans (List.length_filter_le _ _) ?_
  simp
theorem nextN_lt (m : Mz) (n : Nat) : nextN m n < 4096 := by
  unfold nextN
  split
  · decide
  · exact mk_lt fun x hx => by obtain ⟨p, rfl, hp, _⟩ := mem_nextL.1 hx; omega
theorem digB_nextN {m : Mz} (V : Valid m) {n : Nat} (h0 : n ≠ 0) (p : Nat) : digB (nextN m n) p = nextB m n p := by
  unfold nextN
  rw [if_neg h0, Bool.eq_iff_iff, digB_mk (fun x hx => by obtain ⟨q, rfl, _⟩ := mem_nextL.1 hx; omega), mem_nextL]
  constructor
  · rintro ⟨q, hq, _, h⟩
    obtain rfl : p = q := by omega
    exact h
  · intro h
    have := nextB_lt V h
    have := V.size12
    exact ⟨p, rfl, by omega, h⟩
theorem digs_nextN {m : Mz} (V : Valid m) {n : Nat} (h0 : n ≠ 0) : digsTo (nextN m n) 12 = nextL m n :=
  (digsTo_asc _ 12).ext ordI (nextL_asc m n) fun x => by
    rw [mem_digsTo, mem_nextL]
    constructor
    · rintro ⟨p, h1, h2, h3⟩; exact ⟨p, h1, h2, by rw [← digB_nextN V h0]; exact h3⟩
    · rintro ⟨p, h1, h2, h3⟩; exact ⟨p, h1, h2, by rw [digB_nextN V h0]; exact h3⟩
/-- what the program reckons -/
theorem next_step {m : Mz} (V : Valid m) {n : Nat} (hn : n < 4096) (h0 : n ≠ 0) : lessN (stepF (openTo (keysN m n)) n m.doors) n = nextN m n := by
  have hv : ∀ d ∈ m.doors, d.1 < 12 ∧ d.2.1 < 12 := by
    intro d hd
    obtain ⟨k, hk, rfl⟩ := List.mem_iff_getElem.1 hd
    obtain ⟨a, b, c, e, _⟩ := V.door k hk
    have := V.size12
    omega
  refine digB_ext fun p => ?_
  rw [digB_less (stepF_lt hn hv) hn, digB_nextN V h0]
  unfold nextB
  rw [Bool.and_comm]
  cases hp : digB n p with
  | true => rfl
  | false =>
    rw [Bool.not_false, Bool.true_and, Bool.true_and, Bool.eq_iff_iff]
    unfold stepF
    rw [far_digB, List.any_eq_true]
    constructor
    · rintro (h | ⟨d, hd, h1, h2, h3⟩)
      · rw [hp] at h; cases h
      · obtain ⟨k, hk, rfl⟩ := List.mem_iff_getElem.1 hd
        obtain ⟨a1, a2, a3, a4, _⟩ := V.door k hk
        refine ⟨_, hd, ?_⟩
        rw [Bool.and_eq_true, Bool.or_eq_true, Bool.and_eq_true, Bool.and_eq_true, beq_iff_eq, beq_iff_eq]
        refine ⟨h1, ?_⟩
        have h4 : ¬ (digB n m.doors[k].1.toNat = false ∧ digB n m.doors[k].2.1.toNat = false) := fun h => h2 ((and_ends n _).2 h)
        rcases (digB_ends _ p).1 h3 with h5 | h5
        · refine .inl ⟨by omega, ?_⟩
          cases h6 : digB n m.doors[k].2.1.toNat with
          | true => rfl
          | false => exact absurd ⟨by rw [h5]; exact hp, h6⟩ h4
        · refine .inr ⟨by omega, ?_⟩
          cases h6 : digB n m.doors[k].1.toNat with
          | true => rfl
          | false => exact absurd ⟨h6, by rw [h5]; exact hp⟩ h4
    · rintro ⟨d, hd, h⟩
      rw [Bool.and_eq_true, Bool.or_eq_true, Bool.and_eq_true, Bool.and_eq_true, beq_iff_eq, beq_iff_eq] at h
      refine .inr ⟨d, hd, h.1, fun hz => ?_, ?_⟩
      · obtain ⟨h1, h2⟩ := (and_ends n d).1 hz
        rcases h.2 with ⟨_, h3⟩ | ⟨_, h3⟩
        · rw [h2] at h3; cases h3
        · rw [h1] at h3; cases h3
      · rw [digB_ends]
        rcases h.2 with ⟨h3, _⟩ | ⟨h3, _⟩
        · exact .inl (by omega)
        · exact .inr (by omega)
/-- what the model asks of each pair of nodes -/
theorem nextB_open {m : Mz} (V : Valid m) {n y : Nat} (hy : digB n y = false) : nextB m n y = true ↔ ∃ x : Nat, (x : Int) < m.size ∧ digB n x = true ∧ openB m.doors (x : Int) (y : Int) (keysN m n) = true := by
  unfold nextB openB
  rw [hy, Bool.not_false, Bool.true_and, List.any_eq_true]
  have hs := keysN_set V n
  constructor
  · rintro ⟨d, hd, h⟩
    obtain ⟨k, hk, rfl⟩ := List.mem_iff_getElem.1 hd
    obtain ⟨a1, a2, a3, a4, _, b, c⟩ := V.door k hk
    rw [Bool.and_eq_true, Bool.or_eq_true, Bool.and_eq_true, Bool.and_eq_true, beq_iff_eq, beq_iff_eq, has_same hs.1 hs.2 b c] at h
    rcases h.2 with ⟨h3, h4⟩ | ⟨h3, h4⟩
    · refine ⟨_, by omega, h4, ?_⟩
      rw [List.any_eq_true]
      refine ⟨_, hd, ?_⟩
      unfold joinsB
      rw [h.1, Bool.and_true, Bool.or_eq_true, Bool.and_eq_true, Bool.and_eq_true, beq_iff_eq, beq_iff_eq, beq_iff_eq, beq_iff_eq]
      exact .inr ⟨h3, by omega⟩
    · refine ⟨_, by omega, h4, ?_⟩
      rw [List.any_eq_true]
      refine ⟨_, hd, ?_⟩
      unfold joinsB
      rw [h.1, Bool.and_true, Bool.or_eq_true, Bool.and_eq_true, Bool.and_eq_true, beq_iff_eq, beq_iff_eq, beq_iff_eq, beq_iff_eq]
      exact .inl ⟨by omega, h3⟩
  · rintro ⟨x, hx, hd, h⟩
    rw [List.any_eq_true] at h
    obtain ⟨d, hm, h⟩ := h
    obtain ⟨k, hk, rfl⟩ := List.mem_iff_getElem.1 hm
    obtain ⟨a1, a2, a3, a4, _, b, c⟩ := V.door k hk
    refine ⟨_, hm, ?_⟩
    unfold joinsB at h
    rw [Bool.and_eq_true, Bool.or_eq_true, Bool.and_eq_true, Bool.and_eq_true, beq_iff_eq, beq_iff_eq, beq_iff_eq, beq_iff_eq, ← has_same hs.1 hs.2 b c] at h
    rw [Bool.and_eq_true, Bool.or_eq_true, Bool.and_eq_true, Bool.and_eq_true, beq_iff_eq, beq_iff_eq]
    refine ⟨h.2, ?_⟩
    rcases h.1 with ⟨h3, h4⟩ | ⟨h3, h4⟩
    · exact .inr ⟨h4, by rw [h3, Int.toNat_natCast]; exact hd⟩
    · exact .inl ⟨h3, by rw [h4, Int.toNat_natCast]; exact hd⟩
end M
end Go.Proofs.Ytddpjjdncmokmaa
namespace Go.Proofs.Ytddpjjdncmokmaa
open Go.RowKit
namespace M
theorem stepF_take {op : Dr → Bool} {n : Nat} {ds : List Dr} {k : Nat} (h : k < ds.length) : stepF op n (ds.take (k + 1)) = farN op n (stepF op n (ds.take k)) ds[k] := by rw [List.take_succ_eq_append_getElem h, stepF_snoc]
end M
namespace C
set_option maxHeartbeats 3200000
set_option maxRecDepth 20000
theorem stepFrom_any (w : World) (lo hi : Nat) (m : M.Mz) (a b : Option Addr) (c d : Nat) (h : MzIn lo hi w m a c b d) (hz : hi ≤ w.heap.size) (V : M.Valid m) (n : Nat) (hn4 : n < 4096) (set : Int) :
    Calls Try.prog 145 #[.agg #[.int .i64 m.size, .slice a m.doors.length c, .slice b m.keys.length d], .int .i64 (n : Int), .int .i64 set] w fun e w' => e = .returned (.int .i64 ((M.stepF (M.openTo set) n m.doors : Nat) : Int)) ∧ Below w.heap.size w w' := by
  have H := Lib.hid h
  have v30 := V.few
  have HV := Lib.hid V
  clear h V
  go_enter Try.func145, Try.ntmps145
  go_wp2_with fail
  refine wp_named ?_
  intro W1 hW1
  have HB1 := Lib.hid (show Below w.heap.size w W1 by rw [hW1]; exact below_alloc _ _)
  clear hW1
  have hz1 := HB1.out.size
  go_loopw [7, 9, 10, 15] (fun v _ _ i wr => ∃ (k : Nat), k ≤ m.doors.length ∧ i = .int .i64 k ∧ v = .int .i64 ((M.stepF (M.openTo set) n (m.doors.take k) : Nat) : Int) ∧ M.stepF (M.openTo set) n (m.doors.take k) < 4096 ∧ Below W1.heap.size W1 wr) (fun _ _ _ i _ => m.doors.length - (intOf i).toNat)
  case atStart => exact ⟨0, Nat.zero_le _, rfl, rfl, hn4, Below.refl _ _⟩
  case round =>
    obtain ⟨k, hk, rfl, rfl, hk4, hni⟩ := hrel
    have HI := Lib.hid hni
    have hzi := hni.size
    clear hni
    generalize hpe : M.stepF (M.openTo set) n (m.doors.take k) = p at *
    have HPE := Lib.hid hpe
    clear hpe
    by_cases hkl : k < m.doors.length
    · have hrow := H.out.doors.below (HB1.out.trans (HI.out.mono (by omega))) hz
      obtain ⟨db, off, rfl, _, hdb, hc0⟩ := hrow.at_ (k := k * 3) (by rw [M.encDs_len]; omega)
      have a0 := hc0 _ _ (M.encDs_at0 hkl)
      have a1 : wr.cell? ⟨db, off + k * 3 + 1, none⟩ = some (.int .i64 m.doors[k].2.1) := hc0 _ _ (M.encDs_at1 hkl)
      have a2 : wr.cell? ⟨db, off + k * 3 + 2, none⟩ = some (.int .i64 m.doors[k].2.2) := hc0 _ _ (M.encDs_at2 hkl)
      obtain ⟨d1, d2, d3, d4, d5, d6, d7⟩ := HV.out.door k hkl
      have hs12 := HV.out.size12
      clear hc0 hrow
      go_wp2_with fail
      refine wp_named ?_
      intro W2 hW2
      have hb2 : Below wr.heap.size wr W2 := by rw [hW2]; exact below_alloc _ _
      have hdb3 : Box3 W2 wr.heap.size 97 (.int .i64 m.doors[k].1) (.int .i64 m.doors[k].2.1) (.int .i64 m.doors[k].2.2) := by rw [hW2]; exact Box3.new _ _ _ _ rfl
      clear hW2 a0 a1 a2
      have HI2 := Lib.hid (HI.out.trans (hb2.mono hzi))
      have hdl := hdb3.lt
      have hz2 := hb2.size
      have HD3 := Lib.hid hdb3
      obtain ⟨e0, e1, e2⟩ := hdb3.cells
      have E0 := cell_grown hdl e0
      have E1 := cell_grown hdl e1
      have E2 := cell_grown hdl e2
      have mixed : Try.prog.follows .mixedOrders = true := by kernel_rfl
      have g1 : ¬ m.doors[k].1 < 0 := by omega
      have g2 : ¬ m.doors[k].2.1 < 0 := by omega
      have hends := M.endsN_lt (d := m.doors[k]) (by omega) (by omega)
      have hE := M.endsI m.doors[k] (by omega) (by omega)
      have hA := M.and4 n (M.endsN m.doors[k]) hn4 hends
      have hO := M.or4 p (M.endsN m.doors[k]) hk4 hends
      have HSU : Hid (M.stepF (M.openTo set) n (m.doors.take (k + 1)) = M.farN (M.openTo set) n p m.doors[k]) := Lib.hid (by rw [M.stepF_take hkl, HPE.out])
      have HLT : Hid (M.farN (M.openTo set) n p m.doors[k] < 4096) := Lib.hid (M.far_lt hk4 (by omega) (by omega))
      clear hb2 hdb3 e0 e1 e2 hends
      refine wp_region_quiet_grown (by assumption) (by kernel_rfl) ?_
      repeat (first | go_big_quiet_step (fail) | quiet_step (fail))
      refine wpQuiet_nil ?_
      intro _ hw'
      obtain ⟨⟨nq, osq⟩, hw''⟩ := hw'
      subst hw''
      go_wp2_with fail
      refine (hasAll_any _ _ _).mono ?_
      rintro e w5 ⟨rfl, rfl⟩
      have HB5 := Lib.hid (HI2.out.trans ((below_grown W2 nq osq).mono (by omega)))
      cases hop : M.hasB set m.doors[k].2.2 with
      | false =>
        have hst : M.farN (M.openTo set) n p m.doors[k] = p := by unfold M.farN; exact if_neg (fun h => by have h1 := h.1; unfold M.openTo at h1; simp only [hop] at h1; cases h1)
        have HST := Lib.hid hst
        clear hst hop
        go_wp2_with fail
        go_roundw
        case rel => exact ⟨k + 1, by omega, by go_num, by rw [HSU.out, HST.out], by rw [HSU.out]; exact HLT.out, HB5.out⟩
        case measure => simp [intOf]; omega
      | true =>
        rcases Decidable.em (n &&& M.endsN m.doors[k] = 0) with hz0 | hz0
        · have hst : M.farN (M.openTo set) n p m.doors[k] = p := by unfold M.farN; rw [if_neg (fun h => h.2 hz0)]
          have HST := Lib.hid hst
          rw [hz0] at hA
          clear hst hop hz0
          go_wp2_with fail
          go_roundw
          case rel => exact ⟨k + 1, by omega, by go_num, by rw [HSU.out, HST.out], by rw [HSU.out]; exact HLT.out, HB5.out⟩
          case measure => simp [intOf]; omega
        · have hst : M.farN (M.openTo set) n p m.doors[k] = p ||| M.endsN m.doors[k] := by unfold M.farN; rw [if_pos ⟨hop, hz0⟩]
          have HST := Lib.hid hst
          have hzi0 : ¬ ((n &&& M.endsN m.doors[k] : Nat) : Int) = 0 := by omega
          have hzb : (((n &&& M.endsN m.doors[k] : Nat) : Int) != 0) = true := by simpa using hz0
          clear hst hop
          go_wp2_with fail
          go_roundw
          case rel => exact ⟨k + 1, by omega, by go_num, by rw [HSU.out, HST.out], by rw [HSU.out]; exact HLT.out, HB5.out⟩
          case measure => simp [intOf]; omega
    · obtain rfl : k = m.doors.length := by omega
      have hpe := HPE.out
      rw [List.take_of_length_le (Nat.le_refl _)] at hpe
      have HF := Lib.hid hpe
      clear hpe
      go_wp2_with fail
      go_ret
      exact ⟨by rw [HF.out]; rfl, HB1.out.trans (HI.out.mono (by omega))⟩
theorem keysAt_any (w : World) (lo hi : Nat) (m : M.Mz) (a b : Option Addr) (c d : Nat) (h : MzIn lo hi w m a c b d) (hz : hi ≤ w.heap.size) (V : M.Valid m) (n : Nat) (hn4 : n < 4096) (hnk : ∀ p, M.digB n p = true → (p : Int) < m.size) :
    Calls Try.prog 141 #[.agg #[.int .i64 m.size, .slice a m.doors.length c, .slice b m.keys.length d], .int .i64 (n : Int)] w fun e w' => e = .returned (.int .i64 (M.keysN m n)) ∧ Below w.heap.size w w' := by
  have H := Lib.hid h
  have HV := Lib.hid V
  have hkl := V.keysLen
  have v12 := V.size12
  have HNK := Lib.hid hnk
  clear h V hnk
  go_enter Try.func141, Try.ntmps141
  go_wp2_with fail
  refine named ?_
  intro W hW
  have hb : Below w.heap.size w W := by rw [hW]; exact below_alloc _ _
  have x1 : Box3 W w.heap.size 27 (.int .i64 m.size) (.slice a m.doors.length c) (.slice b m.keys.length d) := by rw [hW]; exact Box3.new _ _ _ _ rfl
  clear hW
  refine (digits_any n hn4 W).mono ?_
  rintro e w6 ⟨ra, rc, rfl, ho, ho1, ho2, hb6⟩
  have hdl := M.digsTo_len n 12
  have hzw := hb.size
  have ST := Lib.hid (show Box3 w6 w.heap.size 27 (.int .i64 m.size) (.slice a m.doors.length c) (.slice b m.keys.length d) ∧ Below w.heap.size w w6 from ⟨x1.below hb6, hb.trans (hb6.mono hb.size)⟩)
  have hw6 := hb6.size
  have HO := Lib.hid ho
  have HEN : Hid (M.gath m (M.digsTo n 12) 0 = M.keysN m n) := Lib.hid rfl
  have HIN := Lib.hid (show ∀ (k : Nat) (hk : k < (M.digsTo n 12).length), ∃ j : Nat, (M.digsTo n 12)[k] = (j : Int) ∧ j < m.keys.length from fun k hk => by
    obtain ⟨p, h1, _, h3⟩ := M.mem_digsTo.1 (List.getElem_mem hk)
    have := HNK.out p h3
    exact ⟨p, h1, by omega⟩)
  clear hb x1 hb6 ho
  generalize hLL : M.digsTo n 12 = L at *
  clear hLL
  go_wp2_with fail
  go_loopw [5, 7, 11] (fun v _ i wr => ∃ (k : Nat), k ≤ L.length ∧ i = .int .i64 k ∧ v = .int .i64 (M.gath m (L.take k) 0) ∧ Below w6.heap.size w6 wr) (fun _ _ i _ => L.length - (intOf i).toNat)
  case atStart => exact ⟨0, Nat.zero_le _, rfl, rfl, Below.refl _ _⟩
  case round =>
    obtain ⟨k, hk, rfl, rfl, hlow⟩ := hrel
    have B7 := Lib.hid hlow
    have X7 := Lib.hid (ST.out.1.below hlow)
    have L7 := Lib.hid (HO.out.below hlow (Nat.le_refl _))
    have hsz7 := hlow.size
    clear hlow
    by_cases hkl' : k < L.length
    · obtain ⟨lb, loff, hla, hlb1, hlb2, hlc⟩ := L7.out.row.at_ (k := k) (by rw [M.encIs_len]; exact hkl')
      have lx := hlc _ _ (M.encIs_at hkl')
      obtain ⟨j, hj, hjl⟩ := HIN.out k hkl'
      obtain ⟨ib, ioff, hib, _, hib2, hic⟩ := H.out.keys.at_ (k := j) (by rw [M.encIs_len]; exact hjl)
      subst hib
      have kx : wr.cell? ⟨ib, ioff + j, none⟩ = some (.int .i64 m.keys[j]) := ((ST.out.2.trans (B7.out.mono (by have := ST.out.2.size; omega))).cell (p := ⟨ib, ioff + j, none⟩) (show ib < w.heap.size by omega)).trans (hic _ _ (M.encIs_at hjl))
      have hgt : Hid (M.gath m (L.take (k + 1)) 0 = bits .or .i64 (M.gath m (L.take k) 0) m.keys[j]) := Lib.hid (by rw [M.gath_take hkl', hj, Int.toNat_natCast, List.getD_eq_getElem?_getD, List.getElem?_eq_getElem hjl]; rfl)
      rw [hj] at lx
      subst hla
      have hjd : j < d := by have := H.out.d1; omega
      obtain ⟨c0, c1, c2⟩ := X7.out.cells
      clear hlc hic hj
      generalize M.gath m (L.take k) 0 = sk at *
      go_wp2_with fail
      go_roundw
      case rel => exact ⟨k + 1, by omega, by go_num, by rw [hgt.out], B7.out⟩
      case measure => simp [intOf]; omega
    · obtain rfl : k = L.length := by omega
      have hend := HEN.out
      rw [List.take_of_length_le (Nat.le_refl _), hend]
      go_wp2_with fail
      go_ret
      exact ⟨rfl, ST.out.2.trans (B7.out.mono (by have := ST.out.2.size; omega))⟩
end C
end Go.Proofs.Ytddpjjdncmokmaa
namespace Go.Proofs.Ytddpjjdncmokmaa
open Go.RowKit
namespace M
/-- a step from n onto what holds n is nothing or a look at a door -/
theorem far_step (op : Dr → Bool) {n acc : Nat} (h : ∀ p, digB n p = true → digB acc p = true) (d : Dr) : farN op n acc d = acc ∨ farN op n acc d = stepN op acc d := by
  unfold farN stepN
  split
  · rename_i hc
    refine .inr ?_
    rw [if_pos]
    refine ⟨hc.1, fun h0 => hc.2 ?_⟩
    obtain ⟨h1, h2⟩ := (and_ends acc d).1 h0
    refine (and_ends n d).2 ⟨?_, ?_⟩
    · cases e : digB n d.1.toNat with
      | false => rfl
      | true => rw [h _ e] at h1; cases h1
    · cases e : digB n d.2.1.toNat with
      | false => rfl
      | true => rw [h _ e] at h2; cases h2
  · exact .inl rfl
theorem far_holds {op : Dr → Bool} {n acc : Nat} (h : ∀ p, digB n p = true → digB acc p = true) (d : Dr) : ∀ p, digB n p = true → digB (farN op n acc d) p = true := fun p hp => by
  unfold farN
  split
  · rw [digB_or, h p hp]; rfl
  · exact h p hp
theorem foldF_keep {op : Dr → Bool} {n : Nat} {P : Nat → Prop} {ds : List Dr} (hP : ∀ n d, d ∈ ds → P n → P (stepN op n d)) : ∀ (l : List Dr), (∀ d ∈ l, d ∈ ds) → ∀ acc, P acc → (∀ p, digB n p = true → digB acc p = true) → P (l.foldl (farN op n) acc)
  | [], _, _, h, _ => h
  | d :: l, hl, acc, h, hs => by
    rw [List.foldl_cons]
    refine foldF_keep hP l (fun e he => hl e (List.mem_cons_of_mem _ he)) _ ?_ (far_holds hs d)
    rcases far_step op hs d with e | e
    · rw [e]; exact h
    · rw [e]; exact hP _ _ (hl d (List.mem_cons_self ..)) h
theorem stepF_keep {op : Dr → Bool} {n : Nat} {P : Nat → Prop} {ds : List Dr} (hP : ∀ n d, d ∈ ds → P n → P (stepN op n d)) (h : P n) : P (stepF op n ds) := foldF_keep hP ds (fun _ h => h) n h (fun _ h => h)
theorem foldF_le (op : Dr → Bool) (n : Nat) : ∀ (l : List Dr) (acc : Nat), acc ≤ l.foldl (farN op n) acc
  | [], _ => Nat.le_refl _
  | d :: l, acc => Nat.le_trans (far_le op n acc d) (foldF_le op n l _)
theorem stepF_le (op : Dr → Bool) (n : Nat) (ds : List Dr) : n ≤ stepF op n ds := foldF_le op n ds n
/-- where a step finds nothing more, a pass does not either -/
theorem stepF_pass {op : Dr → Bool} {n : Nat} : ∀ {ds : List Dr}, stepF op n ds = n → passN op n ds = n
  | [], _ => rfl
  | d :: ds, h => by
    have h1 := far_le op n n d
    have h2 : ds.foldl (farN op n) (farN op n n d) = n := h
    have h3 := foldF_le op n ds (farN op n n d)
    have e : farN op n n d = n := by omega
    have e2 : stepN op n d = n := by
      have : farN op n n d = stepN op n d := rfl
      rw [← this, e]
    rw [e] at h2
    show passN op (stepN op n d) ds = n
    rw [e2]
    exact stepF_pass h2
end M
namespace C
set_option maxHeartbeats 3200000
set_option maxRecDepth 20000
theorem spread_any (w : World) (lo hi : Nat) (m : M.Mz) (a b : Option Addr) (c d : Nat) (h : MzIn lo hi w m a c b d) (hz : hi ≤ w.heap.size) (V : M.Valid m) (n0 : Nat) (set : Int) (P : Nat → Prop) (h0 : P n0) (hP : ∀ n d, d ∈ m.doors → P n → P (M.stepN (fun e => M.hasB set e.2.2) n d)) (hlt : ∀ n, P n → n < 4096) :
    Calls Try.prog 140 #[.agg #[.int .i64 m.size, .slice a m.doors.length c, .slice b m.keys.length d], .int .i64 (n0 : Int), .int .i64 set] w fun e w' => ∃ n : Nat, e = .returned (.int .i64 (n : Int)) ∧ P n ∧ M.passN (fun e => M.hasB set e.2.2) n m.doors = n ∧ Below w.heap.size w w' := by
  have H := Lib.hid h
  have HP := Lib.hid (fun n (hn : P n) => M.stepF_keep (op := M.openTo set) (ds := m.doors) hP hn)
  have HLT := Lib.hid hlt
  have H0 := Lib.hid h0
  have HV := Lib.hid V
  clear h hP hlt h0 V
  go_enter Try.func140, Try.ntmps140
  go_wp2_with fail
  go_loopw [1, 7] (fun v _ wr => ∃ (n : Nat), v = .int .i64 (n : Int) ∧ P n ∧ Box3 wr w.heap.size 27 (.int .i64 m.size) (.slice a m.doors.length c) (.slice b m.keys.length d) ∧ Below w.heap.size w wr) (fun v _ _ => 4096 - (intOf v).toNat)
  case atStart => exact ⟨n0, rfl, H0.out, Box3.new _ _ _ _ rfl, below_alloc _ _⟩
  case round =>
    obtain ⟨n, rfl, hpn, hbox, hnx⟩ := hrel
    have HN := Lib.hid hnx
    have HBX := Lib.hid hbox
    have HPN := Lib.hid hpn
    have hzr := hnx.size
    have hbl := hbox.lt
    have hn4 := HLT.out _ hpn
    have HPS := Lib.hid (HP.out n hpn)
    have hps4 := HLT.out _ (HP.out n hpn)
    have hle := M.stepF_le (M.openTo set) n m.doors
    have HPA := Lib.hid (fun h => M.stepF_pass (op := M.openTo set) (n := n) (ds := m.doors) h)
    obtain ⟨x0, x1, x2⟩ := hbox.cells
    clear hpn hbox hnx
    go_wp2_with fail
    refine (stepFrom_any wr lo hi m a b c d (H.out.below HN.out hz) (by omega) HV.out n hn4 set).mono ?_
    rintro e w4 ⟨rfl, hb4⟩
    have HN4 := Lib.hid (HN.out.trans (hb4.mono hzr))
    have HB4 := Lib.hid (HBX.out.below hb4)
    clear hb4 x0 x1 x2
    rcases Decidable.em (M.stepF (M.openTo set) n m.doors = n) with he | he
    · have HF := Lib.hid (HPA.out he)
      rw [he]
      clear he
      go_wp2_with fail
      go_ret
      exact ⟨n, rfl, HPN.out, HF.out, HN4.out⟩
    · generalize M.stepF (M.openTo set) n m.doors = t at *
      have hb : ((t : Int) == (n : Int)) = false := by rw [beq_eq_false_iff_ne]; omega
      have hne : ¬ (t : Int) = (n : Int) := by omega
      go_wp2_with fail
      go_roundw
      case rel => exact ⟨t, rfl, HPS.out, HB4.out, HN4.out⟩
      case measure => simp [intOf]; omega
end C
end Go.Proofs.Ytddpjjdncmokmaa
