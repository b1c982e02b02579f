/-
  WORDS for an array of reports in a block of its own, own to these proofs; CONTRACT of impl.opened.and. No condition.
  MATHEMATICS of orders, own to these proofs: which nodes can be entered behind some nodes, told by a number's digits; the program's reckoning and the model's list tell the same; entry orders; the largest entry set. No condition.
  CONTRACT of impl.Maze.nearNodes: the number of the nodes that are near; what lay in memory stays. Condition: a valid maze, an array of reports.
  CONTRACT of impl.Maze.keysLeft: the number of keys left of each colour, in a new list; what lay in memory stays. Condition: a valid maze, an array of reports.
  CONTRACT of impl.Maze.nextLocks: the locks that can be opened next, in a new list, ascending; what lay in memory stays. Condition: a valid maze, an array of reports.
-/
import Derived.Test.YthgmkkkfhbjhoaaVMath
import Derived.Test.YthgmkkkfhbjhoaaOwnQ
import Derived.Deep.MidRow
import Derived.Deep.WholeRow
import Derived.Deep.RegionWith
import Derived.Deep.DeepCutAuto
import Derived.Test.YthgmkkkfhbjhoaaGainMath
import Derived.Test.YthgmkkkfhbjhoaaReachI
import Derived.Test.YthgmkkkfhbjhoaaOpenTo
import Derived.ScopeJumps
import Derived.Test.YthgmkkkfhbjhoaaDigitsI
import Derived.OwnWalk
namespace Go.Proofs.Ythgmkkkfhbjhoaa
open Go.RowKit
namespace C
set_option maxHeartbeats 1600000
set_option maxRecDepth 20000
/-- the cells of an array of reports -/
def encO (o : M.Op) : List Value := (List.range 30).map fun k => Value.bool (o k)
def noO : M.Op := fun _ => false
def updO (o : M.Op) (k : Nat) (b : Bool) : M.Op := fun j => if j = k then b else o j
theorem encO_len (o : M.Op) : (encO o).length = 30 := by simp [encO]
theorem encO_at (o : M.Op) {k : Nat} (h : k < 30) : (encO o)[k]? = some (.bool (o k)) := by
  unfold encO; rw [List.getElem?_map, List.getElem?_range h]; rfl
theorem encO_one (o : M.Op) : ∀ u ∈ encO o, u.oneCell' = true := by
  intro u hu
  obtain ⟨k, _, rfl⟩ := List.mem_map.1 hu
  rfl
theorem encO_ext {o o' : M.Op} (h : ∀ k, k < 30 → o k = o' k) : encO o = encO o' := by
  unfold encO
  refine List.map_congr_left fun k hk => ?_
  rw [h k (List.mem_range.1 hk)]
theorem encO_inj {o o' : M.Op} (h : encO o = encO o') {k : Nat} (hk : k < 30) : o k = o' k := by
  have h1 := encO_at o hk
  rw [h, encO_at o' hk] at h1
  injection h1 with h1
  injection h1 with h1
  exact h1.symm
theorem encO_set (o : M.Op) {k : Nat} (hk : k < 30) (b : Bool) : (encO o).set k (.bool b) = encO (updO o k b) := by
  refine List.ext_getElem? fun i => ?_
  rw [List.getElem?_set]
  rcases Nat.lt_or_ge i 30 with hi | hi
  · rw [encO_at o hi, encO_at _ hi, encO_len]
    unfold updO
    by_cases e : k = i
    · subst e; simp [hk]
    · rw [if_neg e, if_neg (fun e' => e e'.symm)]
  · have h1 : (encO o)[i]? = none := List.getElem?_eq_none (by rw [encO_len]; exact hi)
    have h2 : (encO (updO o k b))[i]? = none := List.getElem?_eq_none (by rw [encO_len]; exact hi)
    rw [h1, h2, if_neg (by omega)]
theorem encO_no : (encO noO).toArray = #[.bool false, .bool false, .bool false, .bool false, .bool false, .bool false, .bool false, .bool false, .bool false, .bool false, .bool false, .bool false, .bool false, .bool false, .bool false, .bool false, .bool false, .bool false, .bool false, .bool false, .bool false, .bool false, .bool false, .bool false, .bool false, .bool false, .bool false, .bool false, .bool false, .bool false] := by rfl
def BoxO (w : World) (g : Nat) (o : M.Op) : Prop := w.heap[g]? = some (.cells (encO o).toArray 52 (0, 0))
section
variable {w w' : World} {g : Nat} {o : M.Op}
theorem BoxO.lt (h : BoxO w g o) : g < w.heap.size := heap_lt h
theorem BoxO.new (w : World) (o : M.Op) : BoxO (w.alloc (.cells (encO o).toArray 52)) w.heap.size o := heap_alloc_new w _
theorem BoxO.zero (w : World) : BoxO (w.alloc (.cells #[.bool false, .bool false, .bool false, .bool false, .bool false, .bool false, .bool false, .bool false, .bool false, .bool false, .bool false, .bool false, .bool false, .bool false, .bool false, .bool false, .bool false, .bool false, .bool false, .bool false, .bool false, .bool false, .bool false, .bool false, .bool false, .bool false, .bool false, .bool false, .bool false, .bool false] 52)) w.heap.size noO := by
  unfold BoxO
  rw [encO_no]
  exact heap_alloc_new w _
theorem BoxO.alloc (h : BoxO w g o) (ob : Obj) : BoxO (w.alloc ob) g o := (Below.heap_alloc w ob g h.lt).trans h
theorem BoxO.turned {lo hi : Nat} (h : BoxO w g o) (t : Turned lo hi w w') (hd : g < lo ∨ hi ≤ g) : BoxO w' g o := (t.block g h.lt hd).trans h
theorem BoxO.below (h : BoxO w g o) (t : Below w.heap.size w w') : BoxO w' g o := (t.block g h.lt).trans h
theorem BoxO.other {b : Nat} (h : BoxO w g o) (hne : g ≠ b) (i : Nat) (u : Value) : BoxO (w.setCell ⟨b, i, none⟩ u) g o := (Below.heap_setCell w ⟨b, i, none⟩ u g hne).trans h
theorem BoxO.grown {row : Option Nat} (h : BoxO w g o) (hg : w.grownBy w' row) (hne : row ≠ some g) : BoxO w' g o := (hg.block g h.lt (fun e => hne e.symm)).trans h
theorem BoxO.cell (h : BoxO w g o) {k : Nat} (hk : k < 30) : w.cell? ⟨g, k, none⟩ = some (.bool (o k)) := by
  rw [cell_of_row w g k _ _ _ h, List.getElem?_toArray]
  exact encO_at o hk
theorem BoxO.free (h : BoxO w g o) (j : Nat) : w.frozen? ⟨g, j, none⟩ = false := by
  unfold BoxO at h
  simp [World.frozen?, h]
theorem BoxO.set_ (h : BoxO w g o) {k : Nat} (hk : k < 30) (b : Bool) : BoxO (w.setCell ⟨g, k, none⟩ (.bool b)) g (updO o k b) := by
  unfold BoxO at h ⊢
  rw [← encO_set o hk b]
  simp [World.setCell, Array.getElem?_modify, h]
theorem BoxO.range (h : BoxO w g o) : w.rangeAt g 0 (encO o) := fun j v hv => by
  rw [Nat.zero_add, cell_of_row w g j _ _ _ h, List.getElem?_toArray]
  exact hv
theorem BoxO.there (h : BoxO w g o) : w.there g 0 30 := fun j hj => by
  rw [Nat.zero_add, h.cell hj]
  exact ⟨rfl, h.free j⟩
end
theorem infoO : (Try.prog.info? 52).map (·.size) = some 30 := by kernel_rfl
theorem BoxO.store {w : World} {g : Nat} {o : M.Op} (h : BoxO w g o) (o' : M.Op) : BoxO (w.setCells g 0 (encO o')) g o' ∧ Turned g (g + 1) w (w.setCells g 0 (encO o')) := by
  obtain ⟨cur', a1, a2, _, a4, a5⟩ := heap_setCells (T := 52) g (encO o') 0 w (encO o).toArray h
  refine ⟨?_, ⟨a5.os, a5.tape, a5.output, a5.size, fun k hk ho => a5.block k hk fun e => by injection e with e; omega⟩⟩
  unfold BoxO
  rw [a1]
  have : cur' = (encO o').toArray := by
    apply Array.ext_getElem?
    intro j
    rcases Nat.lt_or_ge j 30 with hj | hj
    · have := a4 j _ (encO_at o' hj) (by rw [List.size_toArray, encO_len]; omega)
      rw [Nat.zero_add] at this
      rw [this, List.getElem?_toArray, encO_at o' hj]
    · rw [Array.getElem?_eq_none (by rw [a2, List.size_toArray, encO_len]; exact hj), Array.getElem?_eq_none (by rw [List.size_toArray, encO_len]; exact hj)]
  rw [this]
section
variable {ops : Array Oper} {rest : List Oper} {op : Oper} {a : Act} {w : World} {Q : Exit → Act → World → Prop}
theorem run_loadO {b : Nat} {o : M.Op} (h : BoxO w b o) : (loadVar 52 ⟨b, 0, none⟩).run Try.prog w = .ok (.agg (encO o).toArray) w :=
  run_loadVar_mid w b 0 52 (encO o) _ h.range Try.underlying52 rfl (by rw [encO_len]; exact infoO)
theorem wpList_loadO (hgd : op.guard = none) (x : Operand) (ho : op.op = .load 52 x) (b : Nat) (hx : a.eval x = .pointer (some ⟨b, 0, none⟩)) (o : M.Op) (h : BoxO w b o)
    (k : wpList Try.prog ops Q rest (a.put op.dst (.agg (encO o).toArray)) w) : wpList Try.prog ops Q (op :: rest) a w :=
  wpList_load_mid hgd 52 x ho b 0 hx (encO o) _ h.range Try.underlying52 rfl (by rw [encO_len]; exact infoO) k
theorem wpList_loadOW (hw : Region.wanted op (yielded ops a.tmps) = true) (x : Operand) (ho : op.op = .load 52 x) (b : Nat) (hx : a.eval x = .pointer (some ⟨b, 0, none⟩)) (o : M.Op) (h : BoxO w b o)
    (k : wpList Try.prog ops Q rest (a.put op.dst (.agg (encO o).toArray)) w) : wpList Try.prog ops Q (op :: rest) a w :=
  wpList_step fun K hK => by
    rw [if_pos hw]
    exact wp_load_mid 52 x ho b 0 hx (encO o) _ h.range Try.underlying52 rfl (by rw [encO_len]; exact infoO) (hK _ _ k)
theorem wpList_storeO (hgd : op.guard = none) (x y : Operand) (ho : op.op = .store 52 x y) (b : Nat) (hx : a.eval x = .pointer (some ⟨b, 0, none⟩)) (o' : M.Op) (hy : a.eval y = .agg (encO o').toArray) (o : M.Op) (h : BoxO w b o)
    (k : ∀ W, BoxO W b o' → Turned b (b + 1) w W → wpList Try.prog ops Q rest (a.put op.dst undef) W) : wpList Try.prog ops Q (op :: rest) a w := by
  obtain ⟨h1, h2⟩ := h.store o'
  refine wpList_store_mid hgd 52 x y ho b 0 (encO o').toArray hx hy (by rw [List.size_toArray, encO_len]; exact h.there) (by rw [List.size_toArray, encO_len]; exact infoO) (all_oneCell_toArray (encO_one o')) ?_
  exact k _ h1 h2
end
theorem yieldsO {ops : Array Oper} {S : World → Prop} {op : Oper} {a : Act} (hw : Region.wanted op (yielded ops a.tmps) = true) (x : Operand) (ho : op.op = .load 52 x) (b : Nat) (hx : a.eval x = .pointer (some ⟨b, 0, none⟩)) (o : M.Op) (hS : ∀ w, S w → BoxO w b o) :
    YieldsIf Try.prog ops S op (.agg (encO o).toArray) a :=
  yieldsIf_load_mid hw 52 x ho b 0 hx (encO o) _ (fun w h => (hS w h).range) Try.underlying52 rfl (by rw [encO_len]; exact infoO)
theorem results_O {fn : Func} {p : Tmp} (h : fn.results = #[.cell p 52]) (tmps : Array Value) {w : World} {b : Nat} {o : M.Op} (hb : tmps.getD p undef = .pointer (some ⟨b, 0, none⟩)) (hB : BoxO w b o) :
    (results fn tmps).run Try.prog w = .ok (.agg (encO o).toArray) w := by
  have hb' : tmps[p]?.getD undef = .pointer (some ⟨b, 0, none⟩) := by simpa using hb
  simp only [results, h]
  simp [asAddr, hb', run_loadO hB]
theorem and_any (w : World) (o : M.Op) (k : Nat) (hk : k < 30) : Calls Try.prog 81 #[.agg (encO o).toArray, .int .i64 k] w fun e w' => e = .returned (.agg (encO (M.andO o k)).toArray) ∧ Below w.heap.size w w' := by
  go_enter Try.func81, Try.ntmps81
  go_upto_region 1 with fail
  refine wp_named ?_
  intro W hW
  have hb : Below w.heap.size w W := by rw [hW]; exact (below_alloc _ _).alloc (by simp) _
  have b1 : BoxO W w.heap.size o := by rw [hW]; exact (BoxO.new _ _).alloc _
  have b2 : BoxO W (w.heap.size + 1) noO := by rw [hW]; simpa using BoxO.zero (w.alloc (.cells (encO o).toArray 52))
  clear hW
  have k1 := b1.cell hk
  have k2 := b1.free k
  have hzw := hb.size
  have HB := Lib.hid hb
  have B1 := Lib.hid b1
  have B2 := Lib.hid b2
  clear hb b1 b2
  go_upto_region 2 with fail
  refine wp_named ?_
  intro W1 hW1
  have b1 : BoxO W1 w.heap.size (M.andO o k) := by
    have e : encO (M.andO o k) = encO (updO o k true) := encO_ext fun j _ => by
      unfold M.andO updO
      by_cases e : j = k
      · subst e; simp
      · rw [if_neg e, beq_false_of_ne (by omega), Bool.or_false]
    have := B1.out.set_ hk true
    unfold BoxO at this ⊢
    rw [hW1, e]
    exact this
  have b2 : BoxO W1 (w.heap.size + 1) noO := by rw [hW1]; exact B2.out.other (by omega) _ _
  have hb : Below w.heap.size w W1 := by rw [hW1]; exact HB.out.setCell (by show w.heap.size ≤ w.heap.size; omega) _
  clear hW1 k1 k2 HB B1 B2
  go_wp2_with (first | (refine wpList_loadO rfl _ rfl _ rfl _ (by assumption) ?_) | (refine wpList_storeO rfl _ _ rfl _ rfl _ rfl _ (by assumption) ?_; intro W2 hB2 hT2))
  refine bodyPost_ret (results_O Try.results81 _ rfl hB2) rfl ?_
  exact ⟨rfl, Below.thenTurned hb hT2 (by omega) (by have := hb.size; omega)⟩
end C
end Go.Proofs.Ythgmkkkfhbjhoaa
namespace Go.Proofs.Ythgmkkkfhbjhoaa
open Go.RowKit
namespace M
theorem digB_ext {a b : Nat} (h : ∀ p, digB a p = digB b p) : a = b := Nat.eq_of_testBit_eq fun p => by rw [← digB_testBit, ← digB_testBit, h]
theorem digB_big {n p : Nat} (h : n < 4096) (hp : 12 ≤ p) : digB n p = false := digB_lt (k := 12) (Nat.div_eq_of_lt h) hp
theorem or_lt {a b : Nat} (ha : a < 4096) (hb : b < 4096) : a ||| b < 4096 := by
  have h12 : (2 : Nat) ^ 12 = 4096 := rfl
  rw [← h12] at *
  exact Nat.or_lt_two_pow ha hb
/-- the digits of the one that the other has not -/
def lessN (a b : Nat) : Nat := (BitVec.ofNat 64 a &&& ~~~BitVec.ofNat 64 b).toNat
theorem digB_less {a b : Nat} (ha : a < 4096) (_hb : b < 4096) (p : Nat) : digB (lessN a b) p = (digB a p && !digB b p) := by
  rw [digB_testBit, digB_testBit, digB_testBit]
  unfold lessN
  rw [BitVec.testBit_toNat, BitVec.getLsbD_and, BitVec.getLsbD_not, BitVec.getLsbD_ofNat, BitVec.getLsbD_ofNat]
  rcases Nat.lt_or_ge p 64 with h | h
  · simp [h]
  · have := digB_big ha (show 12 ≤ p by omega)
    rw [digB_testBit] at this
    simp [this]
theorem lessN_lt {a b : Nat} (ha : a < 4096) (hb : b < 4096) : lessN a b < 4096 := by
  refine Nat.lt_of_not_le fun hge => ?_
  have h12 : (2 : Nat) ^ 12 = 4096 := rfl
  rw [← h12] at hge
  obtain ⟨p, hp, ht⟩ := Nat.exists_ge_and_testBit_of_ge_two_pow hge
  rw [← digB_testBit, digB_less ha hb, digB_big ha hp] at ht
  cases ht
theorem less4 {a b : Nat} (ha : a < 4096) (hb : b < 4096) : bits .andNot .i64 (a : Int) (b : Int) = ((lessN a b : Nat) : Int) := by
  have hl := lessN_lt ha hb
  show IntKind.i64.wrap ((BitVec.ofInt 64 (a : Int) &&& ~~~BitVec.ofInt 64 (b : Int)).toNat : Int) = _
  rw [BitVec.ofInt_natCast, BitVec.ofInt_natCast]
  exact wraps_i64 _ (by omega) (by unfold lessN at hl; omega)
-- the next ones
def keysN (m : Mz) (n : Nat) : Int := gath m (digsTo n 12) 0
theorem keysN_set {m : Mz} (V : Valid m) (n : Nat) : 0 ≤ keysN m n ∧ keysN m n < 64 := (gath_set V _ 0 ⟨by decide, by decide⟩).1
/-- one door looked at from n -/
def farN (op : Dr → Bool) (n acc : Nat) (d : Dr) : Nat := if op d = true ∧ n &&& endsN d ≠ 0 then acc ||| endsN d else acc
def stepF (op : Dr → Bool) (n : Nat) (ds : List Dr) : Nat := ds.foldl (farN op n) n
theorem stepF_snoc (op : Dr → Bool) (n : Nat) (ds : List Dr) (d : Dr) : stepF op n (ds ++ [d]) = farN op n (stepF op n ds) d := by unfold stepF; rw [List.foldl_append]; rfl
theorem far_digB (op : Dr → Bool) (n : Nat) (p : Nat) : ∀ (ds : List Dr) (acc : Nat), digB (ds.foldl (farN op n) acc) p = true ↔ digB acc p = true ∨ ∃ d ∈ ds, op d = true ∧ n &&& endsN d ≠ 0 ∧ digB (endsN d) p = true
  | [], acc => by simp
  | d :: ds, acc => by
    rw [List.foldl_cons, far_digB op n p ds]
    unfold farN
    split
    · rename_i hc
      rw [digB_or, Bool.or_eq_true]
      constructor
      · rintro ((h | h) | ⟨e, he, h⟩)
        · exact .inl h
        · exact .inr ⟨d, List.mem_cons_self .., hc.1, hc.2, h⟩
        · exact .inr ⟨e, List.mem_cons_of_mem _ he, h⟩
      · rintro (h | ⟨e, he, h1, h2, h3⟩)
        · exact .inl (.inl h)
        · rcases List.mem_cons.1 he with rfl | he
          · exact .inl (.inr h3)
          · exact .inr ⟨e, he, h1, h2, h3⟩
    · rename_i hc
      constructor
      · rintro (h | ⟨e, he, h⟩)
        · exact .inl h
        · exact .inr ⟨e, List.mem_cons_of_mem _ he, h⟩
      · rintro (h | ⟨e, he, h1, h2, h3⟩)
        · exact .inl h
        · rcases List.mem_cons.1 he with rfl | he
          · exact absurd ⟨h1, h2⟩ hc
          · exact .inr ⟨e, he, h1, h2, h3⟩
theorem far_lt {op : Dr → Bool} {n acc : Nat} {d : Dr} (ha : acc < 4096) (h1 : d.1 < 12) (h2 : d.2.1 < 12) : farN op n acc d < 4096 := by
  unfold farN
  split
  · exact or_lt ha (endsN_lt h1 h2)
  · exact ha
theorem far_le (op : Dr → Bool) (n acc : Nat) (d : Dr) : acc ≤ farN op n acc d := by
  unfold farN
  split
  · exact Nat.left_le_or
  · exact Nat.le_refl _
theorem stepF_lt {op : Dr → Bool} {n : Nat} {ds : List Dr} (hn : n < 4096) (hv : ∀ d ∈ ds, d.1 < 12 ∧ d.2.1 < 12) : stepF op n ds < 4096 := by
  unfold stepF
  have : ∀ (ds : List Dr) (acc : Nat), acc < 4096 → (∀ d ∈ ds, d.1 < 12 ∧ d.2.1 < 12) → ds.foldl (farN op n) acc < 4096 := by
    intro ds
    induction ds with
    | nil => intro acc h _; exact h
    | cons d ds ih =>
      intro acc h hv
      have hd := hv d (List.mem_cons_self ..)
      exact ih _ (far_lt h hd.1 hd.2) fun e he => hv e (List.mem_cons_of_mem _ he)
  exact this ds n hn hv
/-- y can be entered behind the nodes of n -/
def nextB (m : Mz) (n y : Nat) : Bool := !digB n y && m.doors.any fun d => hasB (keysN m n) d.2.2 && ((d.1 == (y : Int) && digB n d.2.1.toNat) || (d.2.1 == (y : Int) && digB n d.1.toNat))
def nextL (m : Mz) (n : Nat) : List Int := ((List.range 12).filter (nextB m n)).map fun p : Nat => (p : Int)
def nextN (m : Mz) (n : Nat) : Nat := if n = 0 then 1 else mk (nextL m n)
theorem nextB_lt {m : Mz} (V : Valid m) {n y : Nat} (h : nextB m n y = true) : (y : Int) < m.size := by
  unfold nextB at h
  rw [Bool.and_eq_true, List.any_eq_true] at h
  obtain ⟨_, d, hd, h⟩ := h
  obtain ⟨k, hk, rfl⟩ := List.mem_iff_getElem.1 hd
  obtain ⟨a1, a2, a3, a4, _⟩ := V.door k hk
  rw [Bool.and_eq_true, Bool.or_eq_true, Bool.and_eq_true, Bool.and_eq_true, beq_iff_eq, beq_iff_eq] at h
  rcases h.2 with h | h
  · omega
  · omega
theorem mem_nextL {m : Mz} {n : Nat} {x : Int} : x ∈ nextL m n ↔ ∃ p : Nat, x = p ∧ p < 12 ∧ nextB m n p = true := by
  unfold nextL
  rw [List.mem_map]
  constructor
  · rintro ⟨p, hp, rfl⟩
    rw [List.mem_filter, List.mem_range] at hp
    exact ⟨p, rfl, hp.1, hp.2⟩
  · rintro ⟨p, rfl, h1, h2⟩
    exact ⟨p, by rw [List.mem_filter, List.mem_range]; exact ⟨h1, h2⟩, rfl⟩
theorem nextL_asc (m : Mz) (n : Nat) : Asc ltI (nextL m n) := by
  unfold nextL Asc
  rw [List.pairwise_map]
  refine (List.Pairwise.filter _ List.pairwise_lt_range).imp ?_
  intro a b hab
  unfold ltI
  rw [decide_eq_true_iff]
  omega
theorem nextL_len (m : Mz) (n : Nat) : (nextL m n).length ≤ 12 := by
  unfold nextL
  rw [List.length_map]
  refine Nat.le_trans (List.length_filter_le _ _) ?_
  simp
theorem nextN_lt (m : Mz) (n : Nat) : nextN m n < 4096 := by
  unfold nextN
  split
  · decide
  · exact mk_lt fun x hx => by obtain ⟨p, rfl, hp, _⟩ := mem_nextL.1 hx; omega
theorem digB_nextN {m : Mz} (V : Valid m) {n : Nat} (h0 : n ≠ 0) (p : Nat) : digB (nextN m n) p = nextB m n p := by
  unfold nextN
  rw [if_neg h0, Bool.eq_iff_iff, digB_mk (fun x hx => by obtain ⟨q, rfl, _⟩ := mem_nextL.1 hx; omega), mem_nextL]
  constructor
  · rintro ⟨q, hq, _, h⟩
    obtain rfl : p = q := by omega
    exact h
  · intro h
    have := nextB_lt V h
    have := V.size12
    exact ⟨p, rfl, by omega, h⟩
theorem digs_nextN {m : Mz} (V : Valid m) {n : Nat} (h0 : n ≠ 0) : digsTo (nextN m n) 12 = nextL m n :=
  (digsTo_asc _ 12).ext ordI (nextL_asc m n) fun x => by
    rw [mem_digsTo, mem_nextL]
    constructor
    · rintro ⟨p, h1, h2, h3⟩; exact ⟨p, h1, h2, by rw [← digB_nextN V h0]; exact h3⟩
    · rintro ⟨p, h1, h2, h3⟩; exact ⟨p, h1, h2, by rw [digB_nextN V h0]; exact h3⟩
/-- what the program reckons -/
theorem next_step {m : Mz} (V : Valid m) {n : Nat} (hn : n < 4096) (h0 : n ≠ 0) : lessN (stepF (openTo (keysN m n)) n m.doors) n = nextN m n := by
  have hv : ∀ d ∈ m.doors, d.1 < 12 ∧ d.2.1 < 12 := by
    intro d hd
    obtain ⟨k, hk, rfl⟩ := List.mem_iff_getElem.1 hd
    obtain ⟨a, b, c, e, _⟩ := V.door k hk
    have := V.size12
    omega
  refine digB_ext fun p => ?_
  rw [digB_less (stepF_lt hn hv) hn, digB_nextN V h0]
  unfold nextB
  rw [Bool.and_comm]
  cases hp : digB n p with
  | true => rfl
  | false =>
    rw [Bool.not_false, Bool.true_and, Bool.true_and, Bool.eq_iff_iff]
    unfold stepF
    rw [far_digB, List.any_eq_true]
    constructor
    · rintro (h | ⟨d, hd, h1, h2, h3⟩)
      · rw [hp] at h; cases h
      · obtain ⟨k, hk, rfl⟩ := List.mem_iff_getElem.1 hd
        obtain ⟨a1, a2, a3, a4, _⟩ := V.door k hk
        refine ⟨_, hd, ?_⟩
        rw [Bool.and_eq_true, Bool.or_eq_true, Bool.and_eq_true, Bool.and_eq_true, beq_iff_eq, beq_iff_eq]
        refine ⟨h1, ?_⟩
        have h4 : ¬ (digB n m.doors[k].1.toNat = false ∧ digB n m.doors[k].2.1.toNat = false) := fun h => h2 ((and_ends n _).2 h)
        rcases (digB_ends _ p).1 h3 with h5 | h5
        · refine .inl ⟨by omega, ?_⟩
          cases h6 : digB n m.doors[k].2.1.toNat with
          | true => rfl
          | false => exact absurd ⟨by rw [h5]; exact hp, h6⟩ h4
        · refine .inr ⟨by omega, ?_⟩
          cases h6 : digB n m.doors[k].1.toNat with
          | true => rfl
          | false => exact absurd ⟨h6, by rw [h5]; exact hp⟩ h4
    · rintro ⟨d, hd, h⟩
      rw [Bool.and_eq_true, Bool.or_eq_true, Bool.and_eq_true, Bool.and_eq_true, beq_iff_eq, beq_iff_eq] at h
      refine .inr ⟨d, hd, h.1, fun hz => ?_, ?_⟩
      · obtain ⟨h1, h2⟩ := (and_ends n d).1 hz
        rcases h.2 with ⟨_, h3⟩ | ⟨_, h3⟩
        · rw [h2] at h3; cases h3
        · rw [h1] at h3; cases h3
      · rw [digB_ends]
        rcases h.2 with ⟨h3, _⟩ | ⟨h3, _⟩
        · exact .inl (by omega)
        · exact .inr (by omega)
/-- what the model asks of each pair of nodes -/
theorem nextB_open {m : Mz} (V : Valid m) {n y : Nat} (hy : digB n y = false) : nextB m n y = true ↔ ∃ x : Nat, (x : Int) < m.size ∧ digB n x = true ∧ openB m.doors (x : Int) (y : Int) (keysN m n) = true := by
  unfold nextB openB
  rw [hy, Bool.not_false, Bool.true_and, List.any_eq_true]
  have hs := keysN_set V n
  constructor
  · rintro ⟨d, hd, h⟩
    obtain ⟨k, hk, rfl⟩ := List.mem_iff_getElem.1 hd
    obtain ⟨a1, a2, a3, a4, _, b, c⟩ := V.door k hk
    rw [Bool.and_eq_true, Bool.or_eq_true, Bool.and_eq_true, Bool.and_eq_true, beq_iff_eq, beq_iff_eq, has_same hs.1 hs.2 b c] at h
    rcases h.2 with ⟨h3, h4⟩ | ⟨h3, h4⟩
    · refine ⟨_, by omega, h4, ?_⟩
      rw [List.any_eq_true]
      refine ⟨_, hd, ?_⟩
      unfold joinsB
      rw [h.1, Bool.and_true, Bool.or_eq_true, Bool.and_eq_true, Bool.and_eq_true, beq_iff_eq, beq_iff_eq, beq_iff_eq, beq_iff_eq]
      exact .inr ⟨h3, by omega⟩
    · refine ⟨_, by omega, h4, ?_⟩
      rw [List.any_eq_true]
      refine ⟨_, hd, ?_⟩
      unfold joinsB
      rw [h.1, Bool.and_true, Bool.or_eq_true, Bool.and_eq_true, Bool.and_eq_true, beq_iff_eq, beq_iff_eq, beq_iff_eq, beq_iff_eq]
      exact .inl ⟨by omega, h3⟩
  · rintro ⟨x, hx, hd, h⟩
    rw [List.any_eq_true] at h
    obtain ⟨d, hm, h⟩ := h
    obtain ⟨k, hk, rfl⟩ := List.mem_iff_getElem.1 hm
    obtain ⟨a1, a2, a3, a4, _, b, c⟩ := V.door k hk
    refine ⟨_, hm, ?_⟩
    unfold joinsB at h
    rw [Bool.and_eq_true, Bool.or_eq_true, Bool.and_eq_true, Bool.and_eq_true, beq_iff_eq, beq_iff_eq, beq_iff_eq, beq_iff_eq, ← has_same hs.1 hs.2 b c] at h
    rw [Bool.and_eq_true, Bool.or_eq_true, Bool.and_eq_true, Bool.and_eq_true, beq_iff_eq, beq_iff_eq]
    refine ⟨h.2, ?_⟩
    rcases h.1 with ⟨h3, h4⟩ | ⟨h3, h4⟩
    · exact .inr ⟨h4, by rw [h3, Int.toNat_natCast]; exact hd⟩
    · exact .inl ⟨h3, by rw [h4, Int.toNat_natCast]; exact hd⟩
end M
end Go.Proofs.Ythgmkkkfhbjhoaa
namespace Go.Proofs.Ythgmkkkfhbjhoaa
open Go.RowKit
namespace M
theorem lessN_zero {a b : Nat} (ha : a < 4096) (hb : b < 4096) : lessN b a = 0 ↔ a ||| b = a := by
  constructor
  · intro h
    refine digB_ext fun p => ?_
    have := digB_less hb ha p
    rw [h] at this
    have hz : digB 0 p = false := by simp [digB]
    rw [hz] at this
    rw [digB_or]
    cases e : digB b p
    · rw [Bool.or_false]
    · rw [e] at this
      cases e2 : digB a p
      · rw [e2] at this; cases this
      · rfl
  · intro h
    refine digB_ext fun p => ?_
    rw [digB_less hb ha, ← h, digB_or]
    have hz : digB 0 p = false := by simp [digB]
    rw [hz]
    cases digB a p <;> cases digB b p <;> rfl
theorem hasN {a b : Nat} (ha : a < 4096) (hb : b < 4096) : hasB (a : Int) (b : Int) = decide (a ||| b = a) := by
  unfold hasB
  rw [less4 hb ha, Bool.eq_iff_iff, beq_iff_eq, decide_eq_true_iff, ← lessN_zero ha hb]
  exact ⟨fun h => by exact_mod_cast h, fun h => by exact_mod_cast h⟩
end M
namespace C
theorem wp_scope_again {P : Program} {a : Act} {w : World} {Q : Exit → Act → World → Prop} {c rest : Code} (l : Nat) (J : Act → World → Prop) (μ : Act → World → Nat) (hf : findLabel c l = some (Code.seq Code.skip rest))
    (pass : ∀ a w, J a w → rest.wp P (Exit.jump l (fun a' w' => J a' w' ∧ μ a' w' < μ a w) Q) a w)
    (first : (∀ a w, J a w → rest.wp P (Exit.jump l J Q) a w) → c.wp P (Exit.jump l J Q) a w) : (Code.scope c).wp P Q a w :=
  wp_scope_jumps l J μ hf (first fun a w h => Code.wp_mono (fun e a' w' hq => by
    cases e with
    | goto l' => exact ⟨hq.1, hq.2.1⟩
    | _ => exact hq) (pass a w h)) fun a w h => wp_seq (wp_skip (pass a w h))
set_option maxHeartbeats 3200000
set_option maxRecDepth 20000
theorem nearI_any (w : World) (lo hi : Nat) (m : M.Mz) (a b : Option Addr) (c d : Nat) (h : MzIn lo hi w m a c b d) (hz : hi ≤ w.heap.size) (V : M.Valid m) (o : M.Op) :
    Calls Try.prog 64 #[.agg #[.int .i64 m.size, .slice a m.doors.length c, .slice b m.keys.length d], .agg (encO o).toArray] w fun e w' => e = .returned (.int .i64 ((M.nearN m o : Nat) : Int)) ∧ Below w.heap.size w w' := by
  have H := Lib.hid h
  have v30 := V.few
  have HV := Lib.hid V
  clear h V
  go_enter Try.func64, Try.ntmps64
  go_wp2_with fail
  refine wp_scope_again 0 (fun a' w' => ∃ (n : Nat) (u6 u7 u8 u9 u10 u11 u12 u13 u14 u15 u16 u17 u18 u19 u20 u21 u22 u23 u24 u25 u26 u27 u28 u29 u30 u31 u32 u33 u34 u35 u36 u37 u38 u39 u40 u41 u42 u43 : Value), a' = { tmps := #[.agg #[.int .i64 m.size, .slice a m.doors.length c, .slice b m.keys.length d], .agg (encO o).toArray, .pointer (some ⟨w.heap.size, 0, none⟩), .pointer (some ⟨w.heap.size + 1, 0, none⟩), .int .i64 0, .int .i64 (n : Int), u6, u7, u8, u9, u10, u11, u12, u13, u14, u15, u16, u17, u18, u19, u20, u21, u22, u23, u24, u25, u26, u27, u28, u29, u30, u31, u32, u33, u34, u35, u36, u37, u38, u39, u40, u41, u42, u43], defers := [] } ∧ M.MaskOk (M.oDoors m o) M.opZ (0 : Nat) n ∧ Box3 w' w.heap.size 29 (.int .i64 m.size) (.slice a m.doors.length c) (.slice b m.keys.length d) ∧ BoxO w' (w.heap.size + 1) o ∧ Below w.heap.size w w') (fun a' _ => 4096 - (intOf (a'.tmps.getD 5 undef)).toNat) rfl ?_ ?_
  · rintro a' w' ⟨n, u6, u7, u8, u9, u10, u11, u12, u13, u14, u15, u16, u17, u18, u19, u20, u21, u22, u23, u24, u25, u26, u27, u28, u29, u30, u31, u32, u33, u34, u35, u36, u37, u38, u39, u40, u41, u42, u43, rfl, hmk, hbx, hbo, hb⟩
    have HMK := Lib.hid hmk
    have BX := Lib.hid hbx
    have BO := Lib.hid hbo
    have HB := Lib.hid hb
    have hzw := hb.size
    have hbl := hbx.lt
    obtain ⟨x0, x1, x2⟩ := hbx.cells
    have hn4 := hmk.2.1
    clear hmk hbx hbo hb
    go_wp2_with fail
    go_loopw [5, 6, 7, 8, 12] (fun v _ _ _ i wr => ∃ (k : Nat), k ≤ m.doors.length ∧ i = .int .i64 k ∧ v = .int .i64 (n : Int) ∧ (∀ j, j < k → M.stepN M.opZ n (M.oDoor m o j) = n) ∧ Below w'.heap.size w' wr) (fun _ _ _ _ i _ => m.doors.length - (intOf i).toNat)
    case atStart => exact ⟨0, Nat.zero_le _, rfl, rfl, fun j hj => by omega, Below.refl _ _⟩
    case round =>
      obtain ⟨k, hk, rfl, rfl, hst, hni⟩ := hrel
      have HST := Lib.hid hst
      have HI := Lib.hid hni
      have hzi := hni.size
      clear hst hni
      by_cases hkl : k < m.doors.length
      · have hrow := H.out.doors.below (HB.out.trans (HI.out.mono (by omega))) hz
        obtain ⟨db, off, rfl, _, hdb, hc0⟩ := hrow.at_ (k := k * 3) (by rw [M.encDs_len]; omega)
        have a0 := hc0 _ _ (M.encDs_at0 hkl)
        have a1 : wr.cell? ⟨db, off + k * 3 + 1, none⟩ = some (.int .i64 m.doors[k].2.1) := hc0 _ _ (M.encDs_at1 hkl)
        have a2 : wr.cell? ⟨db, off + k * 3 + 2, none⟩ = some (.int .i64 m.doors[k].2.2) := hc0 _ _ (M.encDs_at2 hkl)
        obtain ⟨d1, d2, d3, d4, d5, d6, d7⟩ := HV.out.door k hkl
        have hs12 := HV.out.size12
        have BO2 := Lib.hid (BO.out.below HI.out)
        clear hc0 hrow x0 x1 x2
        go_upto_region 5 with fail
        refine wp_named ?_
        intro W2 hW2
        have hb2 : Below wr.heap.size wr W2 := by rw [hW2]; exact below_alloc _ _
        have hdb3 : Box3 W2 wr.heap.size 48 (.int .i64 m.doors[k].1) (.int .i64 m.doors[k].2.1) (.int .i64 m.doors[k].2.2) := by rw [hW2]; exact Box3.new _ _ _ _ rfl
        clear hW2 a0 a1 a2
        have HI2 := Lib.hid (HI.out.trans (hb2.mono hzi))
        have hdl := hdb3.lt
        have hz2 := hb2.size
        obtain ⟨e0, e1, e2⟩ := hdb3.cells
        have E0 := cell_grown hdl e0
        have E1 := cell_grown hdl e1
        have E2 := cell_grown hdl e2
        have BO3 := Lib.hid (BO2.out.below hb2)
        have mixed : Try.prog.follows .mixedOrders = true := by kernel_rfl
        have g1 : ¬ m.doors[k].1 < 0 := by omega
        have g2 : ¬ m.doors[k].2.1 < 0 := by omega
        have hends := M.endsN_lt (d := m.doors[k]) (by omega) (by omega)
        have hE := M.endsI m.doors[k] (by omega) (by omega)
        clear hb2 hdb3 e0 e1 e2
        refine wp_region_quiet_grown (by assumption) (by kernel_rfl) ?_
        repeat (first | go_big_quiet_step (fail) | quiet_step (fail))
        refine wpQuiet_nil ?_
        intro _ hw'
        obtain ⟨⟨nq, osq⟩, hw''⟩ := hw'
        subst hw''
        go_upto_region 6 with fail
        refine wp_named ?_
        intro W3 hW3
        have hb3 : Below W2.heap.size W2 W3 := by rw [hW3]; exact below_grown W2 _ _
        clear hW3 E0 E1 E2 hE
        have HI3 := Lib.hid (HI2.out.trans (hb3.mono (by omega)))
        have BO4 := Lib.hid (BO3.out.below hb3)
        have hz3 := hb3.size
        have hcell := BO4.out.cell (k := k) (by omega)
        have hA := M.and4 n (M.endsN m.doors[k]) hn4 hends
        clear hb3
        cases q1 : o k with
        | false =>
          rw [q1] at hcell
          have HS := Lib.hid (M.near_still (o := o) (n := n) hkl (.inl q1))
          go_wp2_with fail
          go_roundw
          case rel => exact ⟨k + 1, by omega, by go_num, rfl, fun j hj => by
            rcases Nat.lt_or_ge j k with h | h
            · exact HST.out j h
            · obtain rfl : j = k := by omega
              exact HS.out, HI3.out⟩
          case measure => simp [intOf]; omega
        | true =>
          rw [q1] at hcell
          rcases Decidable.em (n &&& M.endsN m.doors[k] = 0) with hz0 | hz0
          · have HS := Lib.hid (M.near_still (o := o) (n := n) hkl (.inr (.inl hz0)))
            rw [hz0] at hA
            clear hz0
            go_wp2_with fail
            go_roundw
            case rel => exact ⟨k + 1, by omega, by go_num, rfl, fun j hj => by
              rcases Nat.lt_or_ge j k with h | h
              · exact HST.out j h
              · obtain rfl : j = k := by omega
                exact HS.out, HI3.out⟩
            case measure => simp [intOf]; omega
          · have hzi0 : ¬ ((n &&& M.endsN m.doors[k] : Nat) : Int) = 0 := by omega
            have hzb : (((n &&& M.endsN m.doors[k] : Nat) : Int) != 0) = true := by simpa using hz0
            have hhas := M.hasN hn4 hends
            rcases Decidable.em (n ||| M.endsN m.doors[k] = n) with ho0 | ho0
            · have HS := Lib.hid (M.near_still (o := o) (n := n) hkl (.inr (.inr ho0)))
              rw [decide_eq_true ho0] at hhas
              clear ho0 hz0
              go_wp2_with (go_at_call 93; refine (hasAll_any _ _ _).mono ?_; rintro e w5 ⟨rfl, rfl⟩)
              go_roundw
              case rel => exact ⟨k + 1, by omega, by go_num, rfl, fun j hj => by
                rcases Nat.lt_or_ge j k with h | h
                · exact HST.out j h
                · obtain rfl : j = k := by omega
                  exact HS.out, HI3.out⟩
              case measure => simp [intOf]; omega
            · have hO := M.or4 n (M.endsN m.doors[k]) hn4 hends
              rw [decide_eq_false ho0] at hhas
              have HNM := Lib.hid (M.near_step HV.out HMK.out hkl q1 hz0)
              have hgt : n < n ||| M.endsN m.doors[k] := Nat.lt_of_le_of_ne Nat.left_le_or fun e => ho0 e.symm
              clear ho0 hz0
              generalize n ||| M.endsN m.doors[k] = n2 at *
              have hn24 := HNM.out.2.1
              have HX := Lib.hid (BX.out.below HI3.out)
              have HBX := Lib.hid (HB.out.trans (HI3.out.mono hzw))
              have HBO := Lib.hid BO4.out
              go_wp2_with (go_at_call 93; refine (hasAll_any _ _ _).mono ?_; rintro e w5 ⟨rfl, rfl⟩)
              refine wp_goto ?_
              exact (show _ ∧ _ from ⟨rfl, ⟨n2, _, _, _, _, _, _, _, _, _, _, _, _, _, _, _, _, _, _, _, _, _, _, _, _, _, _, _, _, _, _, _, _, _, _, _, _, _, _, rfl, HNM.out, HX.out, HBO.out, HBX.out⟩, by simp [intOf]; omega⟩)
      · obtain rfl : k = m.doors.length := by omega
        have HF := Lib.hid (M.near_stop HV.out HMK.out HST.out)
        have HBE := Lib.hid (HB.out.trans (HI.out.mono hzw))
        go_wp2_with fail
        simp only [Exit.jump]
        go_ret
        exact ⟨by rw [← HF.out]; rfl, HBE.out⟩
  · intro hpass
    go_wp2_with fail
    refine wp_label ?_
    rename_i K hK
    refine hK _ _ ?_
    refine hpass _ _ ⟨1, _, _, _, _, _, _, _, _, _, _, _, _, _, _, _, _, _, _, _, _, _, _, _, _, _, _, _, _, _, _, _, _, _, _, _, _, _, _, rfl, M.near_start m o, ?_, ?_, ?_⟩
    · exact (Box3.new _ _ _ _ rfl).alloc _
    · simpa using BoxO.new (w.alloc (.cells #[.int .i64 m.size, .slice a m.doors.length c, .slice b m.keys.length d] 29)) o
    · exact (below_alloc _ _).alloc (by simp) _
end C
end Go.Proofs.Ythgmkkkfhbjhoaa
namespace Go.Proofs.Ythgmkkkfhbjhoaa
open Go.RowKit
namespace C
set_option maxHeartbeats 3200000
set_option maxRecDepth 20000
theorem own_weak7 {w : World} {B B' : Nat} {e : TypeId} {size n : Nat} {v : Value} {xs : List Value} (h : w.ownsRow B e size v n xs) (hB : B' ≤ B) : w.ownsRow B' e size v n xs := by
  refine ⟨h.1, ?_⟩
  rcases h.2 with h' | ⟨g, cap, cur, hv, hb, r⟩
  · exact .inl h'
  · exact .inr ⟨g, cap, cur, hv, by omega, r⟩
theorem made_zeroL (n : Nat) : (madeCells (Value.int .i64 0).cells (n * 1)).toList = M.encIs (List.replicate n 0) := by
  refine List.ext_getElem? fun k => ?_
  unfold madeCells M.encIs
  rcases Nat.lt_or_ge k n with h | h
  · simp [h, Value.cells, Nat.mod_one]
  · simp [h]
theorem made_six : (madeCells (Value.int .i64 0).cells (6 * 1)).toList = M.encIs (M.vecL fun _ => 0) := made_zeroL 6
theorem keysLeft_any (w : World) (lo hi : Nat) (m : M.Mz) (a b : Option Addr) (c d : Nat) (h : MzIn lo hi w m a c b d) (hz : hi ≤ w.heap.size) (V : M.Valid m) (o : M.Op) :
    Calls Try.prog 66 #[.agg #[.int .i64 m.size, .slice a m.doors.length c, .slice b m.keys.length d], .agg (encO o).toArray] w (IntsPost w (M.leftL m o)) := by
  obtain ⟨ii0, hi0, hz0, hzz1, hz2⟩ := info_parts infoI
  have H := Lib.hid h
  have v30 := V.few
  have v12 := V.size12
  have HV := Lib.hid V
  have hnl := M.nearL_len m o
  clear h V
  go_enter Try.func66, Try.ntmps66
  go_upto_region 1 with fail
  refine wp_named ?_
  intro W hW
  have hb : Below w.heap.size w W := by rw [hW]; exact (below_alloc _ _).alloc (by simp) _
  have X1 := Lib.hid (show Box3 W w.heap.size 29 (.int .i64 m.size) (.slice a m.doors.length c) (.slice b m.keys.length d) by rw [hW]; exact (Box3.new _ _ _ _ rfl).alloc _)
  have O1 := Lib.hid (show BoxO W (w.heap.size + 1) o by rw [hW]; simpa using BoxO.new (w.alloc (.cells #[.int .i64 m.size, .slice a m.doors.length c, .slice b m.keys.length d] 29)) o)
  have hws : W.heap.size = w.heap.size + 2 := by rw [hW]; simp
  have HB := Lib.hid hb
  clear hW hb
  go_upto_region 2 with (at_make; refine wpList_make_full _ rfl _ _ 23 rfl W.heap.size 3 ii0 (.int .i64 0) 1 Try.underlying23 hi0 hz0 hzz1 .i64 .i64 _ _ 6 rfl rfl rfl rfl (by rw [hz2]; decide) (by unfold maxLen; omega) (Nat.le_refl _) ?_; intro w1 hown1 hgrow1)
  rw [hws] at hown1
  have hb1 : Below W.heap.size W w1 := (Below.refl _ _).grown hgrow1 (Nat.le_refl _) (fun k e => by cases e)
  have HO1 : Hid (w1.ownsRow (w.heap.size + 2) 3 1 (.slice (some ⟨w.heap.size + 2, 0, none⟩) 6 6) 6 (M.encIs (M.vecL fun _ => 0))) := Lib.hid (by rw [made_six] at hown1; exact hown1)
  have X2 := Lib.hid (X1.out.below hb1)
  have O2 := Lib.hid (O1.out.below hb1)
  have HB2 := Lib.hid (HB.out.trans (hb1.mono (by omega)))
  have hzw1 : w.heap.size + 2 ≤ w1.heap.size := by have := hb1.size; omega
  have hol1 := (hown1.lt _ rfl).2
  clear hown1 hgrow1 hb1 hws X1 O1 HB
  obtain ⟨c0, c1, c2⟩ := X2.out.cells
  have hbo := O2.out
  go_wp2_with (first | (refine wpList_loadO rfl _ rfl _ rfl _ hbo ?_))
  refine (nearI_any w1 lo hi m a b c d (H.out.below HB2.out hz) (by omega) HV.out o).mono ?_
  rintro e w2 ⟨rfl, hb2⟩
  have HO2 := Lib.hid (own_below HO1.out hb2)
  have HB3 := Lib.hid (HB2.out.trans (hb2.mono (by omega)))
  have X3 := Lib.hid (X2.out.below hb2)
  have O3 := Lib.hid (O2.out.below hb2)
  have hzw2 := hb2.size
  clear hb2 hbo c0 c1 c2
  have hnn := M.nearN_lt HV.out o
  have HD := Lib.hid (M.near_digs HV.out o)
  go_wp2_with fail
  refine (digits_any (M.nearN m o) hnn w2).mono ?_
  rw [HD.out]
  rintro e w3 ⟨na, nc, rfl, hn, hn1, hn2, hb3⟩
  have HO4 := Lib.hid (own_below HO2.out hb3)
  have HB4 := Lib.hid (HB3.out.trans (hb3.mono (by omega)))
  have X4 := Lib.hid (X3.out.below hb3)
  have O4 := Lib.hid (O3.out.below hb3)
  have HNR := Lib.hid hn.row
  have hzw3 := hb3.size
  clear hb3 hn HO1 HO2 X2 X3 O2 O3 HB2 HB3
  generalize M.nearN m o = nn at *
  go_wp2_with fail
  go_loopw [7, 9, 20, 31] (fun _ _ i _ wr => ∃ (k : Nat), k ≤ (M.nearL m o).length ∧ i = .int .i64 (k : Int) ∧ wr.ownsRow (w.heap.size + 2) 3 1 (.slice (some ⟨w.heap.size + 2, 0, none⟩) 6 6) 6 (M.encIs (M.vecL (M.leftV1 m o k))) ∧ Turned (w.heap.size + 2) (w.heap.size + 2 + 1) w3 wr) (fun _ _ i _ _ => (M.nearL m o).length - (intOf i).toNat)
  case atStart => exact ⟨0, Nat.zero_le _, rfl, by rw [M.leftV1_zero]; exact HO4.out, Turned.refl _ _ _⟩
  case round =>
    obtain ⟨k, hk, rfl, hown, ht⟩ := hrel
    have HO := Lib.hid hown
    have HT := Lib.hid ht
    have hzr := ht.size
    clear hown ht
    by_cases hlt : k < (M.nearL m o).length
    · have hnr := HNR.out.turned HT.out (Nat.le_refl _) (.inr (by omega))
      obtain ⟨nb, noff, rfl, _, hnb2, hnc⟩ := hnr.at_ (k := k) (by rw [M.encIs_len]; exact hlt)
      have p0 := hnc _ _ (M.encIs_at hlt)
      have hrg := M.nearL_rng HV.out (List.getElem_mem hlt)
      obtain ⟨x, hx⟩ : ∃ x : Nat, (M.nearL m o)[k] = (x : Int) := ⟨(M.nearL m o)[k].toNat, by omega⟩
      have HX := Lib.hid hx
      rw [hx] at p0 hrg
      have hxk : x < m.keys.length := by have := HV.out.keysLen; omega
      have hkr := H.out.keys.below HB4.out hz |>.turned HT.out (by omega) (.inl (by omega))
      obtain ⟨kb, koff, rfl, _, hkb2, hkc⟩ := hkr.at_ (k := x) (by rw [M.encIs_len]; exact hxk)
      have p1 := hkc _ _ (M.encIs_at hxk)
      have hky := HV.out.key x hxk
      obtain ⟨n, hn⟩ : ∃ n : Nat, m.keys[x] = (n : Int) := ⟨m.keys[x].toNat, by omega⟩
      rw [hn] at p1 hky
      have hn64 : n < 64 := by omega
      have HSTEP := Lib.hid (M.leftV1_step (n := n) hlt (by rw [hx, Int.toNat_natCast, List.getD_eq_getElem?_getD, List.getElem?_eq_getElem hxk]; exact hn))
      obtain ⟨x0, x1, x2⟩ := (X4.out.turned HT.out (.inl (by omega))).cells
      clear hnr hnc hkr hkc hx hn hky
      go_wp2_with fail
      refine (digits_any n (by omega) wr).mono ?_
      rintro e w5 ⟨ka, kc', rfl, hr, hr1, hr2, hb5⟩
      have HRW := Lib.hid hr.row
      have HT5 := Lib.hid (HT.out.trans (Turned.of_below hb5 (w.heap.size + 2) (w.heap.size + 2 + 1)))
      have HO5 := Lib.hid (own_below HO.out hb5)
      have hz5 := hb5.size
      have hl12 := M.digsTo_len n 12
      have hol5 := (HO.out.lt _ rfl).2
      clear hr hb5 x0 x1 x2 p0 p1
      go_wp2_with fail
      go_loopw [9, 31] (fun _ i wq => ∃ (j : Nat), j ≤ (M.digsTo n 12).length ∧ i = .int .i64 (j : Int) ∧ wq.ownsRow (w.heap.size + 2) 3 1 (.slice (some ⟨w.heap.size + 2, 0, none⟩) 6 6) 6 (M.encIs (M.vecL (M.vecP (M.leftV1 m o k) 1 ((M.digsTo n 12).take j)))) ∧ Turned (w.heap.size + 2) (w.heap.size + 2 + 1) w5 wq) (fun _ i _ => (M.digsTo n 12).length - (intOf i).toNat)
      case atStart => exact ⟨0, Nat.zero_le _, rfl, by rw [M.vecP_zero]; exact HO5.out, Turned.refl _ _ _⟩
      case round =>
        obtain ⟨j, hj, rfl, hown, ht⟩ := hrel
        have HO6 := Lib.hid hown
        have HT6 := Lib.hid ht
        have hz6 := ht.size
        clear hown ht
        by_cases hjl : j < (M.digsTo n 12).length
        · have hrr := HRW.out.turned HT6.out (Nat.le_refl _) (.inr (by omega))
          obtain ⟨rb, roff, rfl, _, hrb2, hrc⟩ := hrr.at_ (k := j) (by rw [M.encIs_len]; exact hjl)
          have q0 := hrc _ _ (M.encIs_at hjl)
          obtain ⟨p, hp, hp6⟩ := M.digs_six hn64 hjl
          rw [hp] at q0
          have HST := Lib.hid (M.vecP_step (M.leftV1 m o k) 1 (M.digs_nodup n 12) hjl hp)
          have hbd := (M.vecP_bnd (M.leftV1_bnd m o k) ((M.digsTo n 12).take j) p).1
          have q1 := HO6.out.cellAt p (by omega)
          rw [M.vecL_at _ hp6] at q1
          have q2 : ‹World›.frozen? ⟨w.heap.size + 2, p, none⟩ = false := HO6.out.frozenAt p
          have HSO := Lib.hid (HO6.out.stored p (.int .i64 (M.vecP (M.leftV1 m o k) 1 ((M.digsTo n 12).take j) p + 1)))
          clear hrr hrc hp
          generalize M.vecP (M.leftV1 m o k) 1 ((M.digsTo n 12).take j) p = u at *
          go_wp2_with fail
          go_roundw
          case rel =>
            refine ⟨j + 1, by omega, by go_num, ?_, HT6.out.trans (Turned.setCell _ _ _ _ (Nat.le_refl _) (Nat.lt_succ_self _))⟩
            have := HSO.out.1
            rw [M.vecL_set _ hp6, HST.out] at this
            exact this
          case measure => simp [intOf]; omega
        · obtain rfl : j = (M.digsTo n 12).length := by omega
          have hO := HO6.out
          rw [List.take_of_length_le (Nat.le_refl _), M.vecP_end, HSTEP.out] at hO
          have HO7 := Lib.hid hO
          clear hO
          go_wp2_with fail
          go_roundw
          case rel => exact ⟨k + 1, by omega, by go_num, HO7.out, HT5.out.trans HT6.out⟩
          case measure => simp [intOf]; omega
    · obtain rfl : k = (M.nearL m o).length := by omega
      have hO := HO.out
      rw [M.leftV1_end HV.out] at hO
      have HO8 := Lib.hid hO
      obtain ⟨x0, x1, x2⟩ := (X4.out.turned HT.out (.inl (by omega))).cells
      have HB8 := Lib.hid (Below.thenTurned HB4.out HT.out (by omega) (by omega))
      have O8 := Lib.hid (O4.out.turned HT.out (.inl (by omega)))
      have X8 := Lib.hid (X4.out.turned HT.out (.inl (by omega)))
      have hb8 := HB8.out.size
      have ho8 := O8.out.lt
      clear hO HO HO4 O4 X4 HT HNR HB4
      obtain ⟨wo, hwo⟩ : ∃ x, x = wr := ⟨_, rfl⟩
      subst hwo
      go_wp2_with fail
      go_loopw [10, 11, 13, 46, 59] (fun _ _ _ i _ wq => ∃ (k : Nat), k ≤ m.doors.length ∧ i = .int .i64 (k : Int) ∧ wq.ownsRow (w.heap.size + 2) 3 1 (.slice (some ⟨w.heap.size + 2, 0, none⟩) 6 6) 6 (M.encIs (M.vecL (M.leftV2 m o k))) ∧ Turned (w.heap.size + 2) (w.heap.size + 2 + 1) wo wq) (fun _ _ _ i _ _ => m.doors.length - (intOf i).toNat)
      case atStart => exact ⟨0, Nat.zero_le _, rfl, HO8.out, Turned.refl _ _ _⟩
      case round =>
        obtain ⟨k, hk, rfl, hown, ht⟩ := hrel
        have HO := Lib.hid hown
        have HT := Lib.hid ht
        have hzq := ht.size
        have hol := (hown.lt _ rfl).2
        clear hown ht x0 x1 x2
        by_cases hkl : k < m.doors.length
        · have hrow := (H.out.doors.below HB8.out hz).turned HT.out (by omega) (.inl (by omega))
          obtain ⟨db, off, rfl, _, hdb, hc0⟩ := hrow.at_ (k := k * 3) (by rw [M.encDs_len]; omega)
          have a0 := hc0 _ _ (M.encDs_at0 hkl)
          have a1 : wr.cell? ⟨db, off + k * 3 + 1, none⟩ = some (.int .i64 m.doors[k].2.1) := hc0 _ _ (M.encDs_at1 hkl)
          have a2 : wr.cell? ⟨db, off + k * 3 + 2, none⟩ = some (.int .i64 m.doors[k].2.2) := hc0 _ _ (M.encDs_at2 hkl)
          obtain ⟨_, _, _, _, _, d6, d7⟩ := HV.out.door k hkl
          clear hc0 hrow
          go_upto_region 14 with fail
          refine wp_named ?_
          intro W2 hW2
          have hb2 : Below wr.heap.size wr W2 := by rw [hW2]; exact below_alloc _ _
          have hd3 : Box3 W2 wr.heap.size 48 (.int .i64 m.doors[k].1) (.int .i64 m.doors[k].2.1) (.int .i64 m.doors[k].2.2) := by rw [hW2]; exact Box3.new _ _ _ _ rfl
          clear hW2 a0 a1 a2
          have HT2 := Lib.hid (HT.out.trans (Turned.of_below hb2 (w.heap.size + 2) (w.heap.size + 2 + 1)))
          have HO2 := Lib.hid (own_below HO.out hb2)
          have hz2' := hb2.size
          have BO2 := O8.out.turned HT2.out (.inl (by omega))
          have hcell := BO2.cell (k := k) (by omega)
          have hdl := hd3.lt
          obtain ⟨e0, e1, e2⟩ := hd3.cells
          clear hb2 hd3 BO2
          cases q1 : o k with
          | false =>
            rw [q1] at hcell
            have hO := HO2.out
            rw [M.leftV2_no q1] at hO
            have HO7 := Lib.hid hO
            clear hO q1
            go_wp2_with fail
            go_roundw
            case rel => exact ⟨k + 1, by omega, by go_num, HO7.out, HT2.out⟩
            case measure => simp [intOf]; omega
          | true =>
            rw [q1] at hcell
            obtain ⟨n, hn⟩ : ∃ n : Nat, m.doors[k].2.2 = (n : Int) := ⟨m.doors[k].2.2.toNat, by omega⟩
            have HSTEP := Lib.hid (M.leftV2_yes (m := m) (n := n) q1 (by rw [M.need_at hkl]; exact hn))
            rw [hn] at e2 d6 d7
            have hn64 : n < 64 := by omega
            clear hn q1
            go_wp2_with fail
            refine (digits_any n (by omega) W2).mono ?_
            rintro e w5 ⟨ka, kc', rfl, hr, hr1, hr2, hb5⟩
            have HRW := Lib.hid hr.row
            have HT5 := Lib.hid (HT2.out.trans (Turned.of_below hb5 (w.heap.size + 2) (w.heap.size + 2 + 1)))
            have HO5 := Lib.hid (own_below HO2.out hb5)
            have hz5 := hb5.size
            have hl12 := M.digsTo_len n 12
            have hol5 := (HO2.out.lt _ rfl).2
            clear hr hb5 e0 e1 e2 hcell
            go_wp2_with fail
            go_loopw [13, 59] (fun _ i wp => ∃ (j : Nat), j ≤ (M.digsTo n 12).length ∧ i = .int .i64 (j : Int) ∧ wp.ownsRow (w.heap.size + 2) 3 1 (.slice (some ⟨w.heap.size + 2, 0, none⟩) 6 6) 6 (M.encIs (M.vecL (M.vecP (M.leftV2 m o k) (-1) ((M.digsTo n 12).take j)))) ∧ Turned (w.heap.size + 2) (w.heap.size + 2 + 1) w5 wp) (fun _ i _ => (M.digsTo n 12).length - (intOf i).toNat)
            case atStart => exact ⟨0, Nat.zero_le _, rfl, by rw [M.vecP_zero]; exact HO5.out, Turned.refl _ _ _⟩
            case round =>
              obtain ⟨j, hj, rfl, hown, ht⟩ := hrel
              have HO6 := Lib.hid hown
              have HT6 := Lib.hid ht
              have hz6 := ht.size
              clear hown ht
              by_cases hjl : j < (M.digsTo n 12).length
              · have hrr := HRW.out.turned HT6.out (Nat.le_refl _) (.inr (by omega))
                obtain ⟨rb, roff, rfl, _, hrb2, hrc⟩ := hrr.at_ (k := j) (by rw [M.encIs_len]; exact hjl)
                have q0 := hrc _ _ (M.encIs_at hjl)
                obtain ⟨p, hp, hp6⟩ := M.digs_six hn64 hjl
                rw [hp] at q0
                have HST := Lib.hid (M.vecP_step (M.leftV2 m o k) (-1) (M.digs_nodup n 12) hjl hp)
                have hbd := (M.vecP_bnd (M.leftV2_bnd m o k) ((M.digsTo n 12).take j) p).2
                have q1 := HO6.out.cellAt p (by omega)
                rw [M.vecL_at _ hp6] at q1
                have q2 : wr.frozen? ⟨w.heap.size + 2, p, none⟩ = false := HO6.out.frozenAt p
                have HSO := Lib.hid (HO6.out.stored p (.int .i64 (M.vecP (M.leftV2 m o k) (-1) ((M.digsTo n 12).take j) p + -1)))
                clear hrr hrc hp
                generalize M.vecP (M.leftV2 m o k) (-1) ((M.digsTo n 12).take j) p = u at *
                go_wp2_with fail
                go_roundw
                case rel =>
                  refine ⟨j + 1, by omega, by go_num, ?_, HT6.out.trans (Turned.setCell _ _ _ _ (Nat.le_refl _) (Nat.lt_succ_self _))⟩
                  have := HSO.out.1
                  rw [M.vecL_set _ hp6, HST.out] at this
                  exact this
                case measure => simp [intOf]; omega
              · obtain rfl : j = (M.digsTo n 12).length := by omega
                have hO := HO6.out
                rw [List.take_of_length_le (Nat.le_refl _), M.vecP_end, HSTEP.out] at hO
                have HO7 := Lib.hid hO
                clear hO
                go_wp2_with fail
                go_roundw
                case rel => exact ⟨k + 1, by omega, by go_num, HO7.out, HT5.out.trans HT6.out⟩
                case measure => simp [intOf]; omega
        · obtain rfl : k = m.doors.length := by omega
          have hO := HO.out
          rw [M.leftV2_end] at hO
          have HE := Lib.hid hO
          have HBE := Lib.hid (Below.thenTurned HB8.out HT.out (by omega) (by omega))
          clear hO
          go_wp2_with fail
          go_ret
          exact ints_end (l := M.leftL m o) (own_weak7 HE.out (by omega)) HBE.out
end C
end Go.Proofs.Ythgmkkkfhbjhoaa
namespace Go.Proofs.Ythgmkkkfhbjhoaa
open Go.RowKit
namespace M
/-- the colours of which a vector has one left, by binary digits -/
def posN (f : Nat → Int) : Nat → Nat
  | 0 => 0
  | k + 1 => if 0 < f k then posN f k ||| 2 ^ k else posN f k
theorem posN_digB (f : Nat → Int) (p : Nat) : ∀ n, digB (posN f n) p = (decide (p < n) && decide (0 < f p))
  | 0 => by simp [posN, digB]
  | n + 1 => by
    have ih := posN_digB f p n
    unfold posN
    rcases Nat.lt_trichotomy p n with h | h | h
    · rw [decide_eq_true h] at ih
      rw [decide_eq_true (show p < n + 1 by omega)]
      have hne : decide (n = p) = false := decide_eq_false (by omega)
      split
      · rw [digB_or, ih, digB_pow, hne, Bool.or_false]
      · exact ih
    · subst h
      rw [decide_eq_false (by omega), Bool.false_and] at ih
      rw [decide_eq_true (show p < p + 1 by omega), Bool.true_and]
      split
      · rename_i hc
        rw [digB_or, ih, digB_pow, decide_eq_true rfl, decide_eq_true hc]
        rfl
      · rename_i hc
        rw [ih, decide_eq_false hc]
    · rw [decide_eq_false (by omega), Bool.false_and] at ih
      rw [decide_eq_false (show ¬ p < n + 1 by omega), Bool.false_and]
      split
      · rw [digB_or, ih, digB_pow, decide_eq_false (by omega)]
        rfl
      · exact ih
theorem posN_lt (f : Nat → Int) : ∀ n, posN f n < 2 ^ n
  | 0 => by show (0 : Nat) < 1; decide
  | n + 1 => by
    have ih := posN_lt f n
    have hp : (2 : Nat) ^ n < 2 ^ (n + 1) := Nat.pow_lt_pow_of_lt (by decide) (by omega)
    unfold posN
    split
    · exact Nat.or_lt_two_pow (by omega) hp
    · omega
theorem posN_64 (f : Nat → Int) {n : Nat} (h : n ≤ 6) : posN f n < 64 := by
  have h1 := posN_lt f n
  have h2 : (2 : Nat) ^ n ≤ 2 ^ 6 := Nat.pow_le_pow_right (by decide) h
  have h3 : (2 : Nat) ^ 6 = 64 := rfl
  omega
theorem or_sub {a b : Nat} : a ||| b = a ↔ ∀ p, digB b p = true → digB a p = true := by
  constructor
  · intro h p hp
    rw [← h, digB_or, hp, Bool.or_true]
  · intro h
    refine ext_digB fun p => ?_
    rw [digB_or]
    cases e : digB b p with
    | false => rw [Bool.or_false]
    | true => rw [h p e]; rfl
theorem pay_pos {m : Mz} {o : Op} {k n : Nat} (hn : need m k = (n : Int)) (h64 : n < 64) : hasB ((posN (leftC m o) 6 : Nat) : Int) (n : Int) = payB m o k := by
  have h6 := posN_64 (leftC m o) (Nat.le_refl 6)
  rw [hasN (by omega) (by omega), Bool.eq_iff_iff, decide_eq_true_iff, or_sub]
  unfold payB
  rw [List.all_eq_true, hn, Int.toNat_natCast]
  constructor
  · intro h c hc
    have hc6 := List.mem_range.1 hc
    cases e : digB n c with
    | false => rfl
    | true =>
      have := h c e
      rw [posN_digB, Bool.and_eq_true] at this
      rw [this.2]; rfl
  · intro h p hp
    rcases Nat.lt_or_ge p 6 with h6 | h6
    · have := h p (List.mem_range.2 h6)
      rw [hp] at this
      rw [posN_digB, decide_eq_true h6, Bool.true_and]
      simpa using this
    · rw [digB_lt (k := 6) (Nat.div_eq_of_lt h64) h6] at hp; cases hp
theorem near_and {m : Mz} (V : Valid m) {o : Op} {k : Nat} (hk : k < m.doors.length) : nearN m o &&& endsN m.doors[k] = 0 ↔ nearD m o k = false := by
  obtain ⟨a, b, c, d, _⟩ := V.door k hk
  have key : ∀ x : Int, 0 ≤ x → digB (nearN m o) x.toNat = (nearL m o).contains x := fun x hx => by
    rw [Bool.eq_iff_iff, digB_near V, List.contains_iff_mem, show ((x.toNat : Nat) : Int) = x by omega]
  rw [and_ends, key _ a, key _ c]
  unfold nearD
  rw [doorD hk, Bool.or_eq_false_iff]
end M
namespace C
set_option maxHeartbeats 3200000
set_option maxRecDepth 20000
theorem nextLocks_any (w : World) (lo hi : Nat) (m : M.Mz) (a b : Option Addr) (c d : Nat) (h : MzIn lo hi w m a c b d) (hz : hi ≤ w.heap.size) (V : M.Valid m) (o : M.Op) :
    Calls Try.prog 68 #[.agg #[.int .i64 m.size, .slice a m.doors.length c, .slice b m.keys.length d], .agg (encO o).toArray] w (IntsPost w (M.nextO m o)) := by
  obtain ⟨i0, hi0, hz0, hz1, hz2⟩ := info_parts infoI
  have H := Lib.hid h
  have v30 := V.few
  have v12 := V.size12
  have HV := Lib.hid V
  clear h V
  go_enter Try.func68, Try.ntmps68
  go_upto_region 1 with fail
  refine wp_named ?_
  intro W hW
  have X1 := Lib.hid (show Box3 W w.heap.size 29 (.int .i64 m.size) (.slice a m.doors.length c) (.slice b m.keys.length d) by rw [hW]; exact (Box3.new _ _ _ _ rfl).alloc _)
  have O1 := Lib.hid (show BoxO W (w.heap.size + 1) o by rw [hW]; simpa using BoxO.new (w.alloc (.cells #[.int .i64 m.size, .slice a m.doors.length c, .slice b m.keys.length d] 29)) o)
  have HB := Lib.hid (show Below w.heap.size w W by rw [hW]; exact (below_alloc _ _).alloc (by simp) _)
  clear hW
  have hzw := HB.out.size
  obtain ⟨c0, c1, c2⟩ := X1.out.cells
  have hbo := O1.out
  go_wp2_with (first | (refine wpList_loadO rfl _ rfl _ rfl _ hbo ?_))
  refine (nearI_any W lo hi m a b c d (H.out.below HB.out hz) (by omega) HV.out o).mono ?_
  rintro e w2 ⟨rfl, hb2⟩
  have HB2 := Lib.hid (HB.out.trans (hb2.mono (by omega)))
  have X2 := Lib.hid (X1.out.below hb2)
  have O2 := Lib.hid (O1.out.below hb2)
  have hzw2 := hb2.size
  clear hb2 hbo c0 c1 c2
  obtain ⟨c0, c1, c2⟩ := X2.out.cells
  have hbo := O2.out
  go_wp2_with (first | (refine wpList_loadO rfl _ rfl _ rfl _ hbo ?_))
  refine (keysLeft_any w2 lo hi m a b c d (H.out.below HB2.out hz) (by omega) HV.out o).mono ?_
  rintro e w3 ⟨la, lc, rfl, hl, hl1, hl2, hb3⟩
  have HB3 := Lib.hid (HB2.out.trans (hb3.mono (by omega)))
  have X3 := Lib.hid (X2.out.below hb3)
  have O3 := Lib.hid (O2.out.below hb3)
  have HLR := Lib.hid hl.row
  have hzw3 := hb3.size
  have hbl3 := X3.out.lt
  have hl6 : (M.leftL m o).length = 6 := M.vecL_len _
  rw [hl6] at hl1
  clear hb3 hbo c0 c1 c2 hl X1 X2 O1 O2 HB HB2
  rw [hl6]
  clear hl6
  go_wp2_with fail
  go_loopw [6, 7, 8, 20] (fun v _ _ i wr => ∃ (k : Nat), k ≤ 6 ∧ i = .int .i64 (k : Int) ∧ v = .int .i64 ((M.posN (M.leftC m o) k : Nat) : Int) ∧ wr = w3) (fun _ _ _ i _ => 6 - (intOf i).toNat)
  case atStart => exact ⟨0, Nat.zero_le _, rfl, rfl, rfl⟩
  case round =>
    obtain ⟨k, hk, rfl, rfl, rfl⟩ := hrel
    by_cases hlt : k < 6
    · obtain ⟨lb, loff, rfl, _, hlb2, hlc⟩ := HLR.out.at_ (k := k) (by rw [show M.encIs (M.leftL m o) = M.encIs (M.vecL (M.leftC m o)) from rfl, M.encIs_len, M.vecL_len]; exact hlt)
      have p0 := hlc k _ (M.vecL_at (M.leftC m o) hlt)
      have h64 := M.posN_64 (M.leftC m o) hk
      have hpw := M.pow12 (k := k) (by omega)
      have hsh : wrap64 (2 ^ k) = (2 : Int) ^ k := by rw [M.wrap_pow (by omega)]; simp
      have hor : bits .or .i64 ((M.posN (M.leftC m o) k : Nat) : Int) ((2 : Int) ^ k) = ((M.posN (M.leftC m o) k ||| 2 ^ k : Nat) : Int) := by
        have := M.or4 (M.posN (M.leftC m o) k) (2 ^ k) (by omega) hpw
        simpa using this
      clear hpw
      clear hlc
      rcases Int.lt_or_le 0 (M.leftC m o k) with hpos | hpos
      · have HS : Hid (M.posN (M.leftC m o) (k + 1) = M.posN (M.leftC m o) k ||| 2 ^ k) := Lib.hid (by show (if _ then _ else _) = _; rw [if_pos hpos])
        generalize M.posN (M.leftC m o) k = n at *
        generalize M.leftC m o k = u at *
        have hng : ¬ (k : Int) < 0 := by omega
        go_wp2_with fail
        go_roundw
        case rel => exact ⟨k + 1, by omega, by go_num, by rw [HS.out], trivial⟩
        case measure => simp [intOf]; omega
      · have HS : Hid (M.posN (M.leftC m o) (k + 1) = M.posN (M.leftC m o) k) := Lib.hid (by show (if _ then _ else _) = _; rw [if_neg (by omega)])
        generalize M.posN (M.leftC m o) k = n at *
        generalize M.leftC m o k = u at *
        clear hsh hor
        go_wp2_with fail
        go_roundw
        case rel => exact ⟨k + 1, by omega, by go_num, by rw [HS.out], trivial⟩
        case measure => simp [intOf]; omega
    · have hk6 : k = 6 := by omega
      have hle6 : ¬ (k : Int) < 6 := by omega
      obtain ⟨c0, c1, c2⟩ := X3.out.cells
      have h64 := M.posN_64 (M.leftC m o) hk
      obtain ⟨k', hk'⟩ : ∃ x, x = k := ⟨_, rfl⟩
      have hk6' : k' = 6 := by omega
      rw [← hk'] at h64 hle6 ⊢
      have HPAY := Lib.hid (fun (k n : Nat) (hn : M.need m k = (n : Int)) (h : n < 64) => show M.hasB ((M.posN (M.leftC m o) k' : Nat) : Int) (n : Int) = M.payB m o k from by rw [hk6']; exact M.pay_pos (m := m) (o := o) (k := k) (n := n) hn h)
      have hnn := M.nearN_lt HV.out o
      have HNR := Lib.hid (fun k (hk : k < m.doors.length) => M.near_and (o := o) HV.out hk)
      clear hk6 hk' hk hlt
      generalize M.posN (M.leftC m o) k' = cols at *
      clear hk6'
      generalize M.nearN m o = nn at *
      obtain ⟨wo, hwo⟩ : ∃ x, x = wr := ⟨_, rfl⟩
      subst hwo
      go_wp2_with fail
      go_loopw [9, 10, 11, 12, 36] (fun v _ _ _ i wq => ∃ (k : Nat), k ≤ m.doors.length ∧ i = .int .i64 (k : Int) ∧ wq.ownsRow wo.heap.size 3 1 v (M.nextTo m o k).length (M.encIs (M.nextTo m o k)) ∧ Below wo.heap.size wo wq) (fun _ _ _ _ i _ => m.doors.length - (intOf i).toNat)
      case atStart => exact ⟨0, Nat.zero_le _, rfl, ownsRow_empty _ _ _ _ (Nat.le_refl _), below_alloc _ _⟩
      case round =>
        obtain ⟨k, hk, rfl, hown, hni⟩ := hrel
        have HO := Lib.hid hown
        have HI := Lib.hid hni
        have hzi := hni.size
        have hlen := M.nextTo_len m o k
        clear hown hni c0 c1 c2
        by_cases hkl : k < m.doors.length
        · have hrow := H.out.doors.below (HB3.out.trans (HI.out.mono (by omega))) hz
          obtain ⟨db, off, rfl, _, hdb, hc0⟩ := hrow.at_ (k := k * 3) (by rw [M.encDs_len]; omega)
          have a0 := hc0 _ _ (M.encDs_at0 hkl)
          have a1 : wr.cell? ⟨db, off + k * 3 + 1, none⟩ = some (.int .i64 m.doors[k].2.1) := hc0 _ _ (M.encDs_at1 hkl)
          have a2 : wr.cell? ⟨db, off + k * 3 + 2, none⟩ = some (.int .i64 m.doors[k].2.2) := hc0 _ _ (M.encDs_at2 hkl)
          obtain ⟨d1, d2, d3, d4, d5, d6, d7⟩ := HV.out.door k hkl
          clear hc0 hrow
          go_upto_region 13 with fail
          refine wp_named ?_
          intro W2 hW2
          have hb2 : Below wr.heap.size wr W2 := by rw [hW2]; exact below_alloc _ _
          have hdb3 : Box3 W2 wr.heap.size 48 (.int .i64 m.doors[k].1) (.int .i64 m.doors[k].2.1) (.int .i64 m.doors[k].2.2) := by rw [hW2]; exact Box3.new _ _ _ _ rfl
          clear hW2 a0 a1 a2
          have HI2 := Lib.hid (HI.out.trans (hb2.mono hzi))
          have HO2 := Lib.hid (own_below HO.out hb2)
          have hdl := hdb3.lt
          have hz2' := hb2.size
          have HD3 := Lib.hid hdb3
          obtain ⟨e0, e1, e2⟩ := hdb3.cells
          have E0 := cell_grown hdl e0
          have E1 := cell_grown hdl e1
          have E2 := cell_grown hdl e2
          have mixed : Try.prog.follows .mixedOrders = true := by kernel_rfl
          have g1 : ¬ m.doors[k].1 < 0 := by omega
          have g2 : ¬ m.doors[k].2.1 < 0 := by omega
          have hends := M.endsN_lt (d := m.doors[k]) (by omega) (by omega)
          have hE := M.endsI m.doors[k] (by omega) (by omega)
          have hA := M.and4 nn (M.endsN m.doors[k]) hnn hends
          have HNK := Lib.hid (HNR.out k hkl)
          clear hb2 hdb3 e0 e1 e2
          refine wp_region_quiet_grown (by assumption) (by kernel_rfl) ?_
          repeat (first | go_big_quiet_step (fail) | quiet_step (fail))
          refine wpQuiet_nil ?_
          intro _ hw'
          obtain ⟨⟨nq, osq⟩, hw''⟩ := hw'
          subst hw''
          go_upto_region 14 with fail
          refine wp_named ?_
          intro W3 hW3
          have hb3 : Below W2.heap.size W2 W3 := by rw [hW3]; exact below_grown W2 _ _
          clear hW3 E0 E1 E2 hE hA
          have HI3 := Lib.hid (HI2.out.trans (hb3.mono (by omega)))
          have HO3 := Lib.hid (own_below HO2.out hb3)
          have hz3 := hb3.size
          have hd3 := HD3.out.below hb3
          obtain ⟨e0, e1, e2⟩ := hd3.cells
          have hdl3 := hd3.lt
          have BO3 := O3.out.below HI3.out
          have hcell := BO3.cell (k := k) (by omega)
          obtain ⟨n, hn⟩ : ∃ n : Nat, m.doors[k].2.2 = (n : Int) := ⟨m.doors[k].2.2.toNat, by omega⟩
          rw [hn] at e2 d6 d7
          have hhas := HPAY.out k n (by rw [M.need_at hkl]; exact hn) (by omega)
          have hOB : M.nextOB m o k = (!o k && (M.nearD m o k && M.payB m o k)) := rfl
          clear hb3 hd3 BO3 hn
          cases q1 : o k with
          | true =>
            rw [q1] at hcell hOB
            have HS := Lib.hid (M.nextTo_no (m := m) (o := o) (k := k) (by rw [hOB]; rfl))
            clear hOB q1
            go_wp2_with fail
            go_roundw
            case rel => exact ⟨k + 1, by omega, by go_num, by rw [HS.out]; exact HO3.out, HI3.out⟩
            case measure => simp [intOf]; omega
          | false =>
            rw [q1] at hcell hOB
            rcases Decidable.em (nn &&& M.endsN m.doors[k] = 0) with hnz | hnz
            · have HS := Lib.hid (M.nextTo_no (m := m) (o := o) (k := k) (by rw [hOB, HNK.out.1 hnz]; rfl))
              have hzb : (((nn &&& M.endsN m.doors[k] : Nat) : Int) != 0) = false := by rw [hnz]; rfl
              clear hOB q1 hnz
              go_wp2_with fail
              go_roundw
              case rel => exact ⟨k + 1, by omega, by go_num, by rw [HS.out]; exact HO3.out, HI3.out⟩
              case measure => simp [intOf]; omega
            · have hnd : M.nearD m o k = true := by
                cases e : M.nearD m o k with
                | true => rfl
                | false => exact absurd (HNK.out.2 e) hnz
              have hzb : (((nn &&& M.endsN m.doors[k] : Nat) : Int) != 0) = true := by simpa using hnz
              rw [hnd] at hOB
              clear hnz hnd
              cases q2 : M.payB m o k with
              | false =>
                rw [q2] at hOB hhas
                have HS := Lib.hid (M.nextTo_no (m := m) (o := o) (k := k) (by rw [hOB]; rfl))
                clear hOB q1 q2
                go_wp2_with (go_at_call 93; refine (hasAll_any _ _ _).mono ?_; rintro e w5 ⟨rfl, rfl⟩)
                go_roundw
                case rel => exact ⟨k + 1, by omega, by go_num, by rw [HS.out]; exact HO3.out, HI3.out⟩
                case measure => simp [intOf]; omega
              | true =>
                rw [q2] at hOB hhas
                have HS := Lib.hid (M.nextTo_yes (m := m) (o := o) (k := k) (by rw [hOB]; rfl))
                clear hOB q1 q2
                go_upto_region 15 with (go_at_call 93; refine (hasAll_any _ _ _).mono ?_; rintro e w5 ⟨rfl, rfl⟩)
                have hown := HO3.out
                have hcn := cell_one_new W3 (.int .i64 (k : Int)) 3
                go_wp2_with (at_builtin; refine wpList_append_own _ rfl _ _ 23 rfl wo.heap.size 3 i0 (.int .i64 0) 1 8 Try.underlying23 hi0 hz0 hz1 hz2 rfl (by decide) _ _ _ rfl (hown.alloc _) ⟨W3.heap.size, 0, none⟩ 1 1 [.int .i64 (k : Int)] rfl rfl hcn (fun x hx => by simp at hx; subst hx; rfl) (by unfold maxLen; omega) (by omega) (by simp; omega) ?_; intro v' w3 hown' hgrow3 hnil3)
                go_roundw
                case rel =>
                  refine ⟨k + 1, by omega, by go_num, ?_, (HI3.out.alloc (by omega) _).grown hgrow3 (by simp; omega) (own_base hown)⟩
                  rw [HS.out]
                  simpa [M.encIs] using hown'
                case measure => simp [intOf]; omega
        · obtain rfl : k = m.doors.length := by omega
          have HBE := Lib.hid (HB3.out.trans (HI.out.mono (by omega)))
          go_wp2_with fail
          go_ret
          exact ints_end (l := M.nextO m o) (own_weak7 HO.out (by omega)) HBE.out
end C
end Go.Proofs.Ythgmkkkfhbjhoaa
