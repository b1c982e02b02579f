/-
  WORDS for openings as the program keeps them, own to these proofs: 30 reports and a slice, by value, in rows; LAWS for making, loading and storing one, for the map of what has been seen. No condition.
  WORDS for what the program's search over openings has found: the row of openings, the map of what has been seen, the lists; how they go on. No condition.
  CONTRACT of impl.Maze.openingsFrom: the first openings of all sets of locks behind one opening, with what is open behind them, in memory of the call's own; what lay in memory stays. Condition: a valid maze with few locks, an opening.
  CONTRACTS of impl.Maze.firstFrom and impl.firstOpening: the first opening that is wanted; what lay in memory stays. Condition: the function value answers of each opening's doors.
  CONTRACTS of impl.firstOpening, FirstWin, FirstStuck, IsSafe and CountStates: the first openings that win or are stuck, whether a maze is safe, how many sets of locks can be opened; what lay in memory stays. Condition: none.
-/
import Derived.Test.YthgmkkkfhbjhoaaVWord
import Derived.Test.YthgmkkkfhbjhoaaOwnMaz3
import Derived.Maps.AppendAt
import Derived.Test.YthgmkkkfhbjhoaaVGoal
import Derived.Test.YthgmkkkfhbjhoaaBoolOk
import Derived.Test.YthgmkkkfhbjhoaaLate
import Derived.Test.YthgmkkkfhbjhoaaStep
namespace Go.Proofs.Ythgmkkkfhbjhoaa
open Go.RowKit
namespace C
set_option maxHeartbeats 1600000
set_option maxRecDepth 20000
theorem infoP : (Try.prog.info? 82).map (·.size) = some 31 := by kernel_rfl
/-- the cells of an opening -/
def celO (o : M.Op) (v : Value) : List Value := encO o ++ [v]
theorem celO_len (o : M.Op) (v : Value) : (celO o v).length = 31 := by unfold celO; rw [List.length_append, encO_len]; rfl
theorem celO_lo (o : M.Op) (v : Value) {k : Nat} (h : k < 30) : (celO o v)[k]? = some (.bool (o k)) := by
  unfold celO; rw [List.getElem?_append_left (by rw [encO_len]; exact h)]; exact encO_at o h
theorem celO_hi (o : M.Op) (v : Value) : (celO o v)[30]? = some v := by
  unfold celO; rw [List.getElem?_append_right (by rw [encO_len]; exact Nat.le_refl _), encO_len]; rfl
theorem celO_one (o : M.Op) {v : Value} (hv : v.oneCell' = true) : ∀ u ∈ celO o v, u.oneCell' = true := by
  intro u hu
  unfold celO at hu
  rw [List.mem_append, List.mem_singleton] at hu
  rcases hu with hu | rfl
  · exact encO_one o u hu
  · exact hv
theorem built1 (o : M.Op) : Try.prog.built 82 [(0, .agg (encO o).toArray)] = some (celO o (.slice none 0 0)).toArray := by kernel_rfl
theorem built2 (o : M.Op) (a : Option Addr) (n c : Nat) : Try.prog.built 82 [(0, .agg (encO o).toArray), (1, .slice a n c)] = some (celO o (.slice a n c)).toArray := by kernel_rfl
theorem run_sliceP (w : World) (o : M.Op) (a : Option Addr) (n c : Nat) : (Instr.buildSlice 65 1 #[(0, .agg (celO o (.slice a n c)).toArray)]).run Try.prog w = .ok (.slice (some ⟨w.heap.size, 0, none⟩) 1 1) (w.alloc (.cells (celO o (.slice a n c)).toArray 82)) := by kernel_rfl

section
variable {ops : Array Oper} {rest : List Oper} {op : Oper} {a : Act} {w : World} {Q : Exit → Act → World → Prop}
theorem wpList_build1 (hg : op.guard = none) (x : Operand) (ho : op.op = .build 82 #[(0, x)]) (o : M.Op) (hx : a.eval x = .agg (encO o).toArray)
    (k : wpList Try.prog ops Q rest (a.put op.dst (.agg (celO o (.slice none 0 0)).toArray)) w) : wpList Try.prog ops Q (op :: rest) a w :=
  wpList_plain hg fun K hK => by
    unfold Oper.wp execOp
    have hb := run_build (P := Try.prog) w 82 #[(0, .agg (encO o).toArray)] _ (built1 o)
    simp only [ho, List.map_toArray, List.map_cons, List.map_nil, hx, Sem.run_bind, hb, Result.andThen_ok]
    exact hK _ _ k
theorem wpList_sliceP (hg : op.guard = none) (x : Operand) (ho : op.op = .buildSlice 65 1 #[(0, x)]) (o : M.Op) (b : Option Addr) (n c : Nat) (hx : a.eval x = .agg (celO o (.slice b n c)).toArray)
    (k : wpList Try.prog ops Q rest (a.put op.dst (.slice (some ⟨w.heap.size, 0, none⟩) 1 1)) (w.alloc (.cells (celO o (.slice b n c)).toArray 82))) : wpList Try.prog ops Q (op :: rest) a w :=
  wpList_plain hg fun K hK => by
    unfold Oper.wp execOp
    simp only [ho, List.map_toArray, List.map_cons, List.map_nil, hx, Sem.run_bind, run_sliceP, Result.andThen_ok]
    exact hK _ _ k
theorem wp_build2 {K : Act → World → Prop} (x y : Operand) (ho : op.op = .build 82 #[(0, x), (1, y)]) (o : M.Op) (b : Option Addr) (n c : Nat) (hx : a.eval x = .agg (encO o).toArray) (hy : a.eval y = .slice b n c)
    (k : K (a.put op.dst (.agg (celO o (.slice b n c)).toArray)) w) : op.wp Try.prog a w K Q := by
  unfold Oper.wp execOp
  have hb := run_build (P := Try.prog) w 82 #[(0, .agg (encO o).toArray), (1, .slice b n c)] _ (built2 o b n c)
  simp only [ho, List.map_toArray, List.map_cons, List.map_nil, hx, hy, Sem.run_bind, hb, Result.andThen_ok]
  exact k
theorem wp_sliceP {K : Act → World → Prop} (x : Operand) (ho : op.op = .buildSlice 65 1 #[(0, x)]) (o : M.Op) (b : Option Addr) (n c : Nat) (hx : a.eval x = .agg (celO o (.slice b n c)).toArray)
    (k : K (a.put op.dst (.slice (some ⟨w.heap.size, 0, none⟩) 1 1)) (w.alloc (.cells (celO o (.slice b n c)).toArray 82))) : op.wp Try.prog a w K Q := by
  unfold Oper.wp execOp
  simp only [ho, List.map_toArray, List.map_cons, List.map_nil, hx, Sem.run_bind, run_sliceP, Result.andThen_ok]
  exact k
theorem wpList_insO (hg : op.guard = none) (x y z : Operand) (ho : op.op = .insert 83 x y z ∨ op.op = .mapUpdate 83 x y z) (b : Nat) (hx : a.eval x = .map (some b)) (o : M.Op) (hy : a.eval y = .agg (encO o).toArray) (hz : a.eval z = .bool true)
    (L : List (List Value)) (h : MapO w b L) (hs : encO o ∉ L) (hn : L.length < maxLen) (k : ∀ W, MapO W b (L ++ [encO o]) → Turned b (b + 1) w W → wpList Try.prog ops Q rest (a.put op.dst undef) W) : wpList Try.prog ops Q (op :: rest) a w :=
  wpList_plain hg fun K hK => by
    obtain ⟨W, hr, h1, h2⟩ := h.store o hs hn
    unfold Oper.wp execOp
    rcases ho with ho | ho <;>
    · simp only [ho, hx, hy, hz, Sem.run_bind, hr, Result.andThen_ok]
      exact hK _ _ (k W h1 h2)
theorem wpList_lookO (hg : op.guard = none) (x y : Operand) (ho : op.op = .lookup 83 x y false) (b : Nat) (hx : a.eval x = .map (some b)) (o : M.Op) (hy : a.eval y = .agg (encO o).toArray)
    (L : List (List Value)) (h : MapO w b L) (r : Bool) (hr : r = true ↔ encO o ∈ L) (k : wpList Try.prog ops Q rest (a.put op.dst (.bool r)) w) : wpList Try.prog ops Q (op :: rest) a w :=
  wpList_plain hg fun K hK => by
    obtain ⟨h1, h2⟩ := h.look o
    unfold Oper.wp execOp
    cases r with
    | true =>
      simp only [ho, hx, hy, Sem.run_bind, h1 (hr.1 rfl), Result.andThen_ok]
      exact hK _ _ k
    | false =>
      simp only [ho, hx, hy, Sem.run_bind, h2 (fun e => by have := hr.2 e; cases this), Result.andThen_ok]
      exact hK _ _ k
/-- an opening, whole, out of a row or a variable -/
theorem wpList_loadP (hgd : op.guard = none) (x : Operand) (ho : op.op = .load 82 x) (b off : Nat) (hx : a.eval x = .pointer (some ⟨b, off, none⟩)) (o : M.Op) (v : Value) (h : w.rangeAt b off (celO o v))
    (k : wpList Try.prog ops Q rest (a.put op.dst (.agg (celO o v).toArray)) w) : wpList Try.prog ops Q (op :: rest) a w :=
  wpList_load_mid hgd 82 x ho b off hx (celO o v) _ h Try.underlying82 rfl (by rw [celO_len]; exact infoP) k
/-- its reports -/
theorem wpList_loadQ (hgd : op.guard = none) (x : Operand) (ho : op.op = .load 52 x) (b off : Nat) (hx : a.eval x = .pointer (some ⟨b, off, none⟩)) (o : M.Op) (h : w.rangeAt b off (encO o))
    (k : wpList Try.prog ops Q rest (a.put op.dst (.agg (encO o).toArray)) w) : wpList Try.prog ops Q (op :: rest) a w :=
  wpList_load_mid hgd 52 x ho b off hx (encO o) _ h Try.underlying52 rfl (by rw [encO_len]; exact infoO) k
end
def BoxP (w : World) (g : Nat) (o : M.Op) (v : Value) : Prop := w.heap[g]? = some (.cells (celO o v).toArray 82 (0, 0))
section
variable {w w' : World} {g : Nat} {o : M.Op} {v : Value}
theorem BoxP.lt (h : BoxP w g o v) : g < w.heap.size := heap_lt h
theorem BoxP.cell (h : BoxP w g o v) {k : Nat} {u : Value} (hk : (celO o v)[k]? = some u) : w.cell? ⟨g, k, none⟩ = some u := by
  rw [cell_of_row w g k _ _ _ h, List.getElem?_toArray]
  exact hk
theorem BoxP.list (h : BoxP w g o v) : w.cell? ⟨g, 30, none⟩ = some v := h.cell (celO_hi o v)
theorem BoxP.all (h : BoxP w g o v) : w.rangeAt g 0 (celO o v) := fun j u hu => by rw [Nat.zero_add]; exact h.cell hu
theorem BoxP.range (h : BoxP w g o v) : w.rangeAt g 0 (encO o) := fun j u hu => by
  rw [Nat.zero_add]
  refine h.cell ?_
  unfold celO
  rw [List.getElem?_append_left (List.getElem?_eq_some_iff.1 hu).1]
  exact hu
theorem BoxP.below (h : BoxP w g o v) (t : Below w.heap.size w w') : BoxP w' g o v := (t.block g h.lt).trans h
theorem BoxP.step {Mu : Nat → Prop} (h : BoxP w g o v) (hb : ∀ b, b < w.heap.size → ¬ Mu b → w'.heap[b]? = w.heap[b]?) (hm : ¬ Mu g) : BoxP w' g o v := (hb g h.lt hm).trans h
theorem BoxP.new (w : World) (o : M.Op) (v : Value) : BoxP (w.alloc (.cells (celO o v).toArray 82)) w.heap.size o v := heap_alloc_new w _
theorem BoxP.zero (w : World) : BoxP (w.alloc (.cells #[.bool false, .bool false, .bool false, .bool false, .bool false, .bool false, .bool false, .bool false, .bool false, .bool false, .bool false, .bool false, .bool false, .bool false, .bool false, .bool false, .bool false, .bool false, .bool false, .bool false, .bool false, .bool false, .bool false, .bool false, .bool false, .bool false, .bool false, .bool false, .bool false, .bool false, .slice none 0 0] 82)) w.heap.size noO (.slice none 0 0) := by
  unfold BoxP
  have e : (celO noO (.slice none 0 0)).toArray = #[.bool false, .bool false, .bool false, .bool false, .bool false, .bool false, .bool false, .bool false, .bool false, .bool false, .bool false, .bool false, .bool false, .bool false, .bool false, .bool false, .bool false, .bool false, .bool false, .bool false, .bool false, .bool false, .bool false, .bool false, .bool false, .bool false, .bool false, .bool false, .bool false, .bool false, .slice none 0 0] := rfl
  rw [e]
  exact heap_alloc_new w _
theorem BoxP.store {o' : M.Op} {v' : Value} (h : BoxP w g o v) : BoxP (w.setCells g 0 (celO o' v')) g o' v' ∧ Turned g (g + 1) w (w.setCells g 0 (celO o' v')) := by
  obtain ⟨cur', a1, a2, _, a4, a5⟩ := heap_setCells (T := 82) g (celO o' v') 0 w (celO o v).toArray h
  refine ⟨?_, ⟨a5.os, a5.tape, a5.output, a5.size, fun k hk ho => a5.block k hk fun e => by injection e with e; omega⟩⟩
  unfold BoxP
  rw [a1]
  have : cur' = (celO o' v').toArray := by
    apply Array.ext_getElem?
    intro j
    rcases Nat.lt_or_ge j 31 with hj | hj
    · have hj' : j < (celO o' v').length := by rw [celO_len]; exact hj
      have := a4 j _ (List.getElem?_eq_getElem hj') (by rw [List.size_toArray, celO_len]; omega)
      rw [Nat.zero_add] at this
      rw [this, List.getElem?_toArray, List.getElem?_eq_getElem hj']
    · rw [Array.getElem?_eq_none (by rw [a2, List.size_toArray, celO_len]; exact hj), Array.getElem?_eq_none (by rw [List.size_toArray, celO_len]; exact hj)]
  rw [this]
theorem BoxP.there (h : BoxP w g o v) : w.there g 0 31 := fun j hj => by
  have hj' : j < (celO o v).length := by rw [celO_len]; exact hj
  rw [Nat.zero_add, h.cell (List.getElem?_eq_getElem hj')]
  refine ⟨rfl, ?_⟩
  unfold BoxP at h
  simp [World.frozen?, h]
theorem wpList_storeP {ops : Array Oper} {rest : List Oper} {op : Oper} {a : Act} {Q : Exit → Act → World → Prop} (hgd : op.guard = none) (x y : Operand) (ho : op.op = .store 82 x y) (b : Nat) (hx : a.eval x = .pointer (some ⟨b, 0, none⟩)) (o' : M.Op) (v' : Value) (hv : v'.oneCell' = true) (hy : a.eval y = .agg (celO o' v').toArray) (h : BoxP w b o v)
    (k : ∀ W, BoxP W b o' v' → Turned b (b + 1) w W → wpList Try.prog ops Q rest (a.put op.dst undef) W) : wpList Try.prog ops Q (op :: rest) a w := by
  obtain ⟨h1, h2⟩ := h.store (o' := o') (v' := v')
  refine wpList_store_mid hgd 82 x y ho b 0 (celO o' v').toArray hx hy (by rw [List.size_toArray, celO_len]; exact h.there) (by rw [List.size_toArray, celO_len]; exact infoP) (all_oneCell_toArray (celO_one o' hv)) ?_
  exact k _ h1 h2
end
theorem flat_at {n : Nat} : ∀ (L : List (List Value)), (∀ x ∈ L, x.length = n) → ∀ (i : Nat) (l : List Value), L[i]? = some l → ∀ j u, l[j]? = some u → L.flatten[i * n + j]? = some u
  | [], _, i, l, h, _, _, _ => by simp at h
  | x :: L, hL, i, l, h, j, u, hu => by
    have hx := hL x (List.mem_cons_self ..)
    cases i with
    | zero =>
      have e : x = l := by simpa using h
      subst e
      rw [List.flatten_cons, Nat.zero_mul, Nat.zero_add, List.getElem?_append_left (List.getElem?_eq_some_iff.1 hu).1]
      exact hu
    | succ i =>
      rw [List.flatten_cons, List.getElem?_append_right (by rw [hx, Nat.add_mul]; omega)]
      have e : (i + 1) * n + j - x.length = i * n + j := by rw [hx, Nat.add_mul]; omega
      rw [e]
      exact flat_at L (fun y hy => hL y (List.mem_cons_of_mem _ hy)) i l (by simpa using h) j u hu
/-- the cells of a row of openings -/
def cellsP (m : M.Mz) (nd : Nat) (U : List Sl7) (ops : List (List Int)) : List (List Value) := List.zipWith (fun u x => celO (M.behO m x) (slV7 nd u x)) U ops
def rowP (m : M.Mz) (nd : Nat) (U : List Sl7) (ops : List (List Int)) : List Value := (cellsP m nd U ops).flatten
theorem cellsP_at {m : M.Mz} {nd : Nat} {U : List Sl7} {ops : List (List Int)} {i : Nat} {u : Sl7} (hu : U[i]? = some u) (hi : i < ops.length) : (cellsP m nd U ops)[i]? = some (celO (M.behO m ops[i]) (slV7 nd u ops[i])) := by
  unfold cellsP
  rw [List.getElem?_zipWith, hu, List.getElem?_eq_getElem hi]
theorem rowP_push {m : M.Mz} {nd : Nat} {U : List Sl7} {ops : List (List Int)} (h : U.length = ops.length) (u : Sl7) (x : List Int) : rowP m nd (U ++ [u]) (ops ++ [x]) = rowP m nd U ops ++ celO (M.behO m x) (slV7 nd u x) := by
  unfold rowP cellsP
  rw [List.zipWith_append h, List.flatten_append]
  simp
theorem rowP_at {lo hi : Nat} {w : World} {a : Option Addr} {m : M.Mz} {nd : Nat} {U : List Sl7} {ops : List (List Int)} (h : RowIn lo hi w a (rowP m nd U ops)) {i : Nat} {u : Sl7} (hu : U[i]? = some u) (hi' : i < ops.length) :
    ∃ b off, a = some ⟨b, off, none⟩ ∧ lo ≤ b ∧ b < hi ∧ w.rangeAt b (off + i * 31) (celO (M.behO m ops[i]) (slV7 nd u ops[i])) := by
  have hL : ∀ x ∈ cellsP m nd U ops, x.length = 31 := by
    intro x hx
    unfold cellsP at hx
    rw [List.mem_iff_getElem?] at hx
    obtain ⟨j, hj⟩ := hx
    rw [List.getElem?_zipWith] at hj
    split at hj
    · injection hj with hj
      subst hj
      exact celO_len _ _
    · cases hj
  have hc := flat_at _ hL i _ (cellsP_at (m := m) (nd := nd) hu hi')
  rcases h with h | ⟨b, off, ha, h1, h2, h3⟩
  · have := hc 0 _ (celO_lo _ _ (by decide))
    unfold rowP at h
    rw [h] at this
    simp at this
  · refine ⟨b, off, ha, h1, h2, fun j v hv => ?_⟩
    rw [Nat.add_assoc]
    exact h3 _ _ (hc j v hv)
/-- what has been seen, as the map's keys -/
def keysO (m : M.Mz) (ops : List (List Int)) : List (List Value) := ops.map fun x => encO (M.behO m x)
theorem keysO_push (m : M.Mz) (ops : List (List Int)) (x : List Int) : keysO m (ops ++ [x]) = keysO m ops ++ [encO (M.behO m x)] := by unfold keysO; rw [List.map_append]; rfl
end C
end Go.Proofs.Ythgmkkkfhbjhoaa
namespace Go.Proofs.Ythgmkkkfhbjhoaa
open Go.RowKit
namespace M
theorem beh_far {m : Mz} (V : Valid m) {l : List Int} (h : isO m l = true) {k : Nat} (hk : 30 ≤ k) : behO m l k = false := by
  have hd := V.few
  rw [behO_at, Bool.or_eq_false_iff]
  constructor
  · unfold o0
    rw [decide_eq_false (by omega)]
    rfl
  · rw [Bool.eq_false_iff]
    intro hc
    rw [List.contains_iff_mem] at hc
    have := ((isO_opn V _ l rfl h).rng hc).2.1
    omega
theorem addP_old {m : Mz} {ops : List (List Int)} {x : List Int} (h : (ops.any fun y => codeN m y == codeN m x) = true) : addS m ops x = ops := by unfold addS; rw [if_pos h]
theorem addP_new {m : Mz} {ops : List (List Int)} {x : List Int} (h : (ops.any fun y => codeN m y == codeN m x) = false) : addS m ops x = ops ++ [x] := by unfold addS; rw [h]; rfl
end M
namespace C
set_option maxHeartbeats 1600000
set_option maxRecDepth 20000
theorem infoPP : (Try.prog.info? 82).map (fun i => (i.zero, i.size, i.bytes)) = some (some (.agg (celO noO (.slice none 0 0)).toArray), 31, 56) := by kernel_rfl
theorem keys_mem {m : M.Mz} (V : M.Valid m) {begun : List Int} {ops : List (List Int)} (h : M.Srch m begun ops) {x : List Int} (hx : M.isO m x = true) : (ops.any fun y => M.codeN m y == M.codeN m x) = true ↔ encO (M.behO m x) ∈ keysO m ops := by
  have hL := fun (l : List Int) (hl : M.isO m l = true) => (M.isO_opn V _ l rfl hl).lock
  rw [List.any_eq_true]
  unfold keysO
  rw [List.mem_map]
  constructor
  · rintro ⟨y, hy, e⟩
    rw [beq_iff_eq, M.code_beh (hL y (h.open_ y hy)) (hL x hx)] at e
    exact ⟨y, hy, encO_ext fun k _ => e k⟩
  · rintro ⟨y, hy, e⟩
    refine ⟨y, hy, ?_⟩
    rw [beq_iff_eq, M.code_beh (hL y (h.open_ y hy)) (hL x hx)]
    intro k
    rcases Nat.lt_or_ge k 30 with hk | hk
    · exact encO_inj e hk
    · rw [M.beh_far V (h.open_ y hy) hk, M.beh_far V hx hk]
/-- the blocks that the search may still write -/
def MuP (mb : Nat) (v : Value) : Nat → Prop := fun b => b = mb ∨ v.ownBlock = some b
/-- what a step turns -/
structure ChgP (w w' : World) (Mu Mu' : Nat → Prop) : Prop where
  os : w'.os = w.os
  tape : w'.tape = w.tape
  output : w'.output = w.output
  size : w.heap.size ≤ w'.heap.size
  block : ∀ b, b < w.heap.size → ¬ Mu b → w'.heap[b]? = w.heap[b]?
  mu : ∀ b, b < w.heap.size → ¬ Mu b → ¬ Mu' b
/-- what the search has found, in memory -/
structure SeenP (B0 B : Nat) (w : World) (mb : Nat) (m : M.Mz) (nd : Nat) (v : Value) (U : List Sl7) (ops : List (List Int)) (KS : List (List Value)) : Prop where
  ro : w.ownsRow B 82 31 v ops.length (rowP m nd U ops)
  mp : MapO w mb KS
  ls : Lists B0 w (MuP mb v) nd U ops
  base : B ≤ mb
section
variable {B0 B mb nd : Nat} {m : M.Mz} {w w' : World} {v : Value} {U : List Sl7} {ops : List (List Int)} {KS : List (List Value)}
theorem ChgP.below {Mu Mu' : Nat → Prop} (h : ChgP w w' Mu Mu') (hm : ∀ b, Mu b → B ≤ b) (hB : B ≤ w.heap.size) : Below B w w' :=
  ⟨h.os, h.tape, h.output, h.size, fun k hk => h.block k (by omega) fun e => by have := hm k e; omega⟩
theorem SeenP.below (h : SeenP B0 B w mb m nd v U ops KS) (t : Below w.heap.size w w') : SeenP B0 B w' mb m nd v U ops KS :=
  ⟨own_below h.ro t, h.mp.below t, h.ls.below t, h.base⟩
theorem SeenP.lt (h : SeenP B0 B w mb m nd v U ops KS) : ∀ b, MuP mb v b → B ≤ b ∧ b < w.heap.size := by
  rintro b (rfl | hb)
  · exact ⟨h.base, h.mp.lt⟩
  · exact h.ro.lt b hb
theorem SeenP.apart (h : SeenP B0 B w mb m nd v U ops KS) : v.ownBlock ≠ some mb := by
  rcases h.ro.2 with ⟨rfl, _⟩ | ⟨g, cap, cur, rfl, _, hh, _⟩
  · simp [Value.ownBlock]
  · intro he
    have : g = mb := by simpa [Value.ownBlock] using he
    subst this
    exact h.mp.block cur 82 (0, 0) hh
/-- one key more -/
theorem SeenP.key (h : SeenP B0 B w mb m nd v U ops KS) {KS' : List (List Value)} (hm : MapO w' mb KS') (t : Turned mb (mb + 1) w w') : SeenP B0 B w' mb m nd v U ops KS' ∧ ChgP w w' (MuP mb v) (MuP mb v) := by
  have hg : w.grownBy w' (some mb) := ⟨t.os, t.tape, t.output, t.size, fun k hk hne => t.block k hk (by
    rcases Nat.lt_trichotomy k mb with h1 | h1 | h1
    · omega
    · exact absurd (by rw [h1]) hne
    · omega)⟩
  have hc : ChgP w w' (MuP mb v) (MuP mb v) := ⟨t.os, t.tape, t.output, t.size, fun b hb hmu => hg.block b hb fun e => by injection e with e; exact hmu (.inl e), fun _ _ h => h⟩
  refine ⟨⟨?_, hm, h.ls.step hc.size hc.block hc.mu, h.base⟩, hc⟩
  rcases hv : v.ownBlock with _ | g
  · exact h.ro.kept hg (.inl hv)
  · exact h.ro.kept hg (.inr fun e => h.apart e)
/-- one opening more -/
theorem SeenP.push (h : SeenP B0 B w mb m nd v U ops KS) {o : Obj} {w8 : World} {v8 : Value} {u : Sl7} {x : List Int} (ho : w8.ownsRow B 82 31 v8 (ops.length + 1) (rowP m nd U ops ++ celO (M.behO m x) (slV7 nd u x))) (hg : (w.alloc o).grownBy w8 v.ownBlock) (ha : v8.ownBlock = v.ownBlock ∨ v8.ownBlock = some (w.alloc o).heap.size)
    (hr : RowM B0 w (MuP mb v) u.1 (M.encIs (x.drop nd))) (h1 : (x.drop nd).length ≤ u.2) (h2 : u.2 ≤ 9223372036854775807) (h3 : x.drop nd = [] ∨ ∃ b off, u.1 = some ⟨b, off, none⟩ ∧ B0 ≤ b) :
    SeenP B0 B w8 mb m nd v8 (U ++ [u]) (ops ++ [x]) KS ∧ ChgP w w8 (MuP mb v) (MuP mb v8) := by
  have hs8 := hg.size
  rw [World.size_alloc] at hs8
  have hch : ChgP w w8 (MuP mb v) (MuP mb v8) := by
    refine ⟨hg.os, hg.tape, hg.output, by omega, fun b hb hm => ?_, fun b hb hm => ?_⟩
    · have n2 : v.ownBlock ≠ some b := fun e => hm (.inr e)
      rw [hg.block b (by simp; omega) (fun e => n2 e.symm)]
      exact Below.heap_alloc w o b hb
    · rintro (e | e)
      · exact hm (.inl e)
      · rcases ha with ha | ha
        · rw [ha] at e; exact hm (.inr e)
        · rw [ha, World.size_alloc] at e; injection e with e; omega
  refine ⟨⟨?_, (h.mp.below (below_alloc w o)).grown hg h.apart, ?_, h.base⟩, hch⟩
  · rw [List.length_append, rowP_push h.ls.len]
    exact ho
  · exact (h.ls.push (u := u) (x := x) hr h1 h2 h3).step hch.size hch.block hch.mu
end
theorem ChgP.after {w w1 w2 : World} {Mu Mu' : Nat → Prop} (t : Below w.heap.size w w1) (h : ChgP w1 w2 Mu Mu') : ChgP w w2 Mu Mu' :=
  ⟨h.os.trans t.os, h.tape.trans t.tape, h.output.trans t.output, Nat.le_trans t.size h.size, fun b hb hm => (h.block b (Nat.lt_of_lt_of_le hb t.size) hm).trans (t.block b hb), fun b hb hm => h.mu b (Nat.lt_of_lt_of_le hb t.size) hm⟩
theorem BoxO.step {w w' : World} {g : Nat} {o : M.Op} {Mu : Nat → Prop} (h : BoxO w g o) (hb : ∀ b, b < w.heap.size → ¬ Mu b → w'.heap[b]? = w.heap[b]?) (hm : ¬ Mu g) : BoxO w' g o := (hb g h.lt hm).trans h
theorem own_some7 {w : World} {B B0 : Nat} {n : Nat} {a : Option Addr} {c : Nat} {xs : List Value} {l : List Int} (h : w.ownsRow B 3 1 (.slice a (n + 1) c) (n + 1) xs) (hB : B0 ≤ B) : l = [] ∨ ∃ b off, a = some ⟨b, off, none⟩ ∧ B0 ≤ b := by
  rcases h.2 with ⟨_, h0⟩ | ⟨g', cap, cur, e, hge, _⟩
  · omega
  · injection e with e _ _
    exact .inr ⟨g', 0, e, by omega⟩
/-- at the end nothing is written any more -/
theorem SeenP.done {B0 B mb nd : Nat} {m : M.Mz} {w : World} {v : Value} {U : List Sl7} {ops : List (List Int)} {KS : List (List Value)} (h : SeenP B0 B w mb m nd v U ops KS) (_hB : B0 ≤ B) : Lists B0 w (fun _ => False) nd U ops := by
  exact h.ls.step (Nat.le_refl _) (fun _ _ _ => rfl) (fun _ _ _ h => h)
/-- an opening of two cells' kinds, laid in a block of its own ahead of an append -/
theorem cell_one_newP (w : World) (o : M.Op) (v : Value) : ∀ j u, (celO o v)[j]? = some u → (w.alloc (.cells (celO o v).toArray 82)).cell? ((⟨w.heap.size, 0, none⟩ : Addr).add j) = some u := by
  intro j u hu
  rw [Addr.add_mid, Nat.zero_add]
  exact (BoxP.new w o v).cell hu
theorem step_append_own_at {P : Program} {w : World} {ops : Array Oper} {o : Oper} {a : Act} {K : Act → World → Prop} {Q : Exit → Act → World → Prop} {E : Prop} (hgd : o.guard = none) (s x : Operand) (t : TypeId)
    (ho : o.op = .call { callee := .builtin .append, args := #[s, x], argTypes := #[t, t] })
    (base : Nat) (e : TypeId) (i : TypeInfo) (z : Value) (size bytes : Nat) (ht : P.underlying t = some (.slice e)) (hi : P.info? e = some i) (hz : i.zero = some z)
    (hsize : i.size = size) (hby : i.bytes = bytes) (hzs : z.cells.size = size) (hsz : 0 < size)
    (v : Value) (n : Nat) (xs : List Value) (hown : w.ownsRow base e size v n xs) (hs : a.eval s = v)
    (ad : Addr) (m c : Nat) (news : List Value) (hx : a.eval x = .slice (some ad) m c) (hl : news.length = m * size) (hnews : ∀ j u, news[j]? = some u → w.cell? (ad.add j) = some u) (h1 : ∀ u ∈ news, u.oneCell' = true)
    (h63 : n + m ≤ maxLen) (hbytes : (n + m) * bytes ≤ 140737488355328) (hbase : base ≤ w.heap.size)
    (h : ∀ v' w', w'.ownsRow base e size v' (n + m) (xs ++ news) → w.grownBy w' v.ownBlock → (v' = .slice none 0 0 ↔ v = .slice none 0 0 ∧ m = 0) → (v'.ownBlock = v.ownBlock ∨ v'.ownBlock = some w.heap.size) → K (a.put o.dst v') w') :
    if Region.wanted o (yielded ops a.tmps) = true then Oper.wp P o a w K Q else E := by
  have hw : Region.wanted o (yielded ops a.tmps) = true := by simp [Region.wanted, hgd]
  rw [if_pos hw]
  obtain ⟨v', w', hr, h2, h3, h4, h5⟩ := run_append_own_at (P := P) w base t o.type e i z size bytes ht hi hz hsize hby hzs hsz v n xs hown ad m c news hl hnews h1 h63 hbytes hbase
  unfold Oper.wp execOp
  simp only [ho, resolve, invoke, builtin, Sem.run_bind, Sem.run_pure, Result.andThen_ok, List.map_toArray, List.map_cons, List.map_nil, hs, hx, hr]
  exact h v' w' h2 h3 h4 h5
theorem step_build2 {w : World} {ops : Array Oper} {op : Oper} {a : Act} {K : Act → World → Prop} {Q : Exit → Act → World → Prop} {E : Prop} (hgd : op.guard = none) (x y : Operand) (ho : op.op = .build 82 #[(0, x), (1, y)]) (o : M.Op) (b : Option Addr) (n c : Nat) (hx : a.eval x = .agg (encO o).toArray) (hy : a.eval y = .slice b n c)
    (k : K (a.put op.dst (.agg (celO o (.slice b n c)).toArray)) w) : if Region.wanted op (yielded ops a.tmps) = true then Oper.wp Try.prog op a w K Q else E := by
  have hw : Region.wanted op (yielded ops a.tmps) = true := by simp [Region.wanted, hgd]
  rw [if_pos hw]
  exact wp_build2 x y ho o b n c hx hy k
theorem step_sliceP {w : World} {ops : Array Oper} {op : Oper} {a : Act} {K : Act → World → Prop} {Q : Exit → Act → World → Prop} {E : Prop} (hgd : op.guard = none) (x : Operand) (ho : op.op = .buildSlice 65 1 #[(0, x)]) (o : M.Op) (b : Option Addr) (n c : Nat) (hx : a.eval x = .agg (celO o (.slice b n c)).toArray)
    (k : K (a.put op.dst (.slice (some ⟨w.heap.size, 0, none⟩) 1 1)) (w.alloc (.cells (celO o (.slice b n c)).toArray 82))) : if Region.wanted op (yielded ops a.tmps) = true then Oper.wp Try.prog op a w K Q else E := by
  have hw : Region.wanted op (yielded ops a.tmps) = true := by simp [Region.wanted, hgd]
  rw [if_pos hw]
  exact wp_sliceP x ho o b n c hx k
theorem ownsRow_oneP (w : World) (B : Nat) (o : M.Op) (v : Value) (hB : B ≤ w.heap.size) : (w.alloc (.cells (celO o v).toArray 82)).ownsRow B 82 31 (.slice (some ⟨w.heap.size, 0, none⟩) 1 1) 1 (celO o v) :=
  ⟨by rw [celO_len], .inr ⟨w.heap.size, 1, (celO o v).toArray, rfl, hB, heap_alloc_new w _, Nat.le_refl _, by unfold maxLen; omega, by rw [List.size_toArray, celO_len], by
    rw [List.take_of_length_le (by simp [celO_len])]⟩⟩
end C
end Go.Proofs.Ythgmkkkfhbjhoaa
namespace Go.Proofs.Ythgmkkkfhbjhoaa
open Go.RowKit
namespace C
set_option maxHeartbeats 6400000
set_option maxRecDepth 40000
def OpnPost (w : World) (m : M.Mz) (nd : Nat) (SR : List (List Int)) (e : Ending) (w' : World) : Prop :=
  ∃ (U : List Sl7) (ao : Option Addr) (co : Nat), e = .returned (.slice ao SR.length co) ∧ RowIn w.heap.size w'.heap.size w' ao (rowP m nd U SR) ∧ SR.length ≤ co ∧ co ≤ 9223372036854775807 ∧ Lists w.heap.size w' (fun _ => False) nd U SR ∧ Below w.heap.size w w'
theorem openF_any (w : World) (lo hi : Nat) (m : M.Mz) (a b : Option Addr) (c d : Nat) (h : MzIn lo hi w m a c b d) (hz : hi ≤ w.heap.size) (V : M.Valid m) (hf : (M.lockL m).length ≤ 10) (begun : List Int) (hio : M.isO m begun = true) :
    Calls Try.prog 75 #[.agg #[.int .i64 m.size, .slice a m.doors.length c, .slice b m.keys.length d], .agg (encO (M.behO m begun)).toArray] w (OpnPost w m begun.length (M.srchL m begun)) := by
  obtain ⟨i0, hi0, hz0, hz1, hz2⟩ := info_parts infoI
  obtain ⟨j0, hj0, hjz0, hjz1, hjz2⟩ := info_parts infoPP
  have H := Lib.hid h
  have HV := Lib.hid V
  have HST := Lib.hid (M.Srch.start hio)
  have HLEN := Lib.hid (fun ops (ho : M.Srch m begun ops) => ho.len hf)
  have HIOL := Lib.hid (fun x (hx : M.isO m x = true) => show x.length ≤ 10 by have := M.isO_len V hx; omega)
  have HFI := Lib.hid (show M.srch m (1025 - 0) [begun] 0 = M.srchL m begun from rfl)
  obtain ⟨nd, hnd⟩ : ∃ nd, nd = begun.length := ⟨_, rfl⟩
  have HND := Lib.hid hnd
  rw [← hnd]
  generalize M.srchL m begun = SR at *
  clear h V hnd hio
  go_enter Try.func75, Try.ntmps75
  go_upto_region 1 with fail
  refine wp_named ?_
  intro W hW
  have X1 := Lib.hid (show Box3 W w.heap.size 29 (.int .i64 m.size) (.slice a m.doors.length c) (.slice b m.keys.length d) by rw [hW]; exact (Box3.new _ _ _ _ rfl).alloc _)
  have O1 : BoxO W (w.heap.size + 1) (M.behO m begun) := by rw [hW]; simpa using BoxO.new (w.alloc (.cells #[.int .i64 m.size, .slice a m.doors.length c, .slice b m.keys.length d] 29)) (M.behO m begun)
  have HB := Lib.hid (show Below w.heap.size w W by rw [hW]; exact (below_alloc _ _).alloc (by simp) _)
  have hzw : W.heap.size = w.heap.size + 1 + 1 := by rw [hW]; simp
  have HZW := Lib.hid hzw
  clear hW hzw
  have HMD : ∀ ob, MapO ((W.alloc ob).alloc (.map #[] 0)) (W.heap.size + 1) [] := fun ob => by have h := MapO.made (W.alloc ob); rw [World.size_alloc] at h; exact h
  have hmm := @run_makeMap Try.prog
  go_upto_region 3 with (first | (refine wpList_loadO rfl _ rfl _ rfl _ O1 ?_) | (refine wpList_loadO rfl _ rfl _ rfl _ ((O1.alloc _).alloc _) ?_) | (refine wpList_build1 rfl _ rfl _ rfl ?_) | (refine wpList_sliceP rfl _ rfl _ _ _ _ rfl ?_) | (refine wpList_insO rfl _ _ _ (Or.inl rfl) _ rfl _ rfl rfl _ (HMD _) (by simp) (by unfold maxLen; simp) ?_; intro W2 hM2 hT2))
  refine wp_named ?_
  intro W3 hW3
  obtain rfl : W3 = W2 := hW3

  have hb1 : Below W.heap.size W ((W.alloc (.cells (celO (M.behO m begun) (.slice none 0 0)).toArray 82)).alloc (.map #[] 0)) := (below_alloc _ _).alloc (by simp) _
  have hb3 : Below W.heap.size W W3 := Below.thenTurned hb1 hT2 (by omega) (by simp; omega)
  have SN0 : SeenP w.heap.size W.heap.size ((W.alloc (.cells (celO (M.behO m begun) (.slice none 0 0)).toArray 82)).alloc (.map #[] 0)) (W.heap.size + 1) m nd (.slice (some ⟨W.heap.size, 0, none⟩) 1 1) [(none, 0)] [begun] [] := by
    refine ⟨?_, HMD _, ⟨rfl, fun i u x hu hx => ?_, fun i u x hi hu hx => ?_⟩, by omega⟩
    · have hq := (ownsRow_oneP W W.heap.size (M.behO m begun) (.slice none 0 0) (Nat.le_refl _)).alloc (.map #[] 0)
      have e : rowP m nd [(none, 0)] [begun] = celO (M.behO m begun) (.slice none 0 0) := by simp [rowP, cellsP, slV7, HND.out]
      rw [e]
      exact hq
    · cases i with
      | zero =>
        simp at hu hx
        subst hu; subst hx
        exact ⟨.inl (by simp [HND.out, M.encIs]), by simp [HND.out], by simp⟩
      | succ i => simp at hu
    · cases i with
      | zero => omega
      | succ i => simp at hu
  have SN := Lib.hid (SN0.key hM2 hT2).1
  obtain ⟨B, hB⟩ : ∃ B, B = W.heap.size := ⟨_, rfl⟩
  have HBE := Lib.hid hB
  have hBw : w.heap.size + 2 ≤ B := by have := HZW.out; omega
  have hBle : B ≤ W.heap.size := by omega
  have hBge : W.heap.size ≤ B := by omega
  obtain ⟨mb, hmb⟩ : ∃ mb, mb = W.heap.size + 1 := ⟨_, rfl⟩
  have BB0 := Lib.hid hb3
  rw [← hmb, ← hB] at SN
  rw [← hB] at BB0
  rw [← hmb, ← hB]
  have H1 := Lib.hid (H.out.below HB.out hz)
  have hzB := hb3.size
  clear SN0 hM2 hT2 hb1 hb3 HMD hmm O1 hmb hB
  go_wp2_with fail
  go_loopw [5, 7, 8, 10, 11, 33] (fun v5 v7 _ _ _ _ wr => ∃ (i : Nat) (ops : List (List Int)) (U : List Sl7), i ≤ ops.length ∧ v7 = .int .i64 (i : Int) ∧ M.Srch m begun ops ∧ M.srch m (1025 - i) ops i = SR ∧ SeenP w.heap.size B wr mb m nd v5 U ops (keysO m ops) ∧ Below B W wr) (fun _ v7 _ _ _ _ _ => 1025 - (intOf v7).toNat)
  case atStart => exact ⟨0, [begun], _, by simp, rfl, HST.out, HFI.out, SN.out, BB0.out⟩
  case round =>
    obtain ⟨i, ops, U, hii, rfl, hs, hfi, hsn, hbb⟩ := hrel
    have hlen := HLEN.out ops hs
    have HS := Lib.hid hs
    have HF := Lib.hid hfi
    have SN1 := Lib.hid hsn
    have BB := Lib.hid hbb
    have hzr := hbb.size
    have BW := Lib.hid (HB.out.trans (hbb.mono (by omega)))
    have X3 := Lib.hid (X1.out.below (hbb.mono (by omega)))
    have hxl := X1.out.lt
    obtain ⟨ao, co, rfl, ho1, ho2, hor⟩ := own_slice hsn.ro
    clear hs hfi hsn hbb
    by_cases hil : i < ops.length
    · obtain ⟨u, hu, hrx, hcx, hcx2⟩ := SN1.out.ls.at_ hil
      obtain ⟨ua, uc⟩ := u
      obtain ⟨ob, ooff, rfl, _, hob, hrg⟩ := rowP_at hor.row hu hil
      unfold slV7 at hrg
      have HIX := Lib.hid (HS.out.open_ _ (List.getElem_mem hil))
      have HFS := Lib.hid (M.srch_step (m := m) hil (by omega))
      have hgd : ops.getD i [] = ops[i] := by rw [List.getD_eq_getElem?_getD, List.getElem?_eq_getElem hil]; rfl
      have HFU : Hid (M.fullS m ops i = M.roundS m ops[i] ops (M.nextO m (M.behO m ops[i]))) := Lib.hid (by unfold M.fullS; rw [hgd])
      have HGI : Hid (ops[i]? = some ops[i]) := Lib.hid (List.getElem?_eq_getElem hil)
      have hxl10 := HIOL.out _ HIX.out
      obtain ⟨x, hx⟩ : ∃ x, x = ops[i] := ⟨_, rfl⟩
      rw [← hx] at hrg hrx hcx HIX HFU HGI hxl10
      have hxd : (x.drop nd).length ≤ 10 := by rw [List.length_drop]; omega
      have RX := Lib.hid hrx
      obtain ⟨y, hy⟩ : ∃ y, y = x.drop nd := ⟨_, rfl⟩
      have HY := Lib.hid hy
      rw [← hy] at hrg RX hcx hxd
      have HRG := Lib.hid hrg
      obtain ⟨c0, c1, c2⟩ := X3.out.cells
      clear hu hgd hx hrx hor hy hrg
      go_upto_region 7 with (first | (refine wpList_loadP rfl _ rfl _ _ rfl _ _ HRG.out ?_) | (refine wpList_storeP rfl _ _ rfl _ rfl _ _ rfl rfl (BoxP.zero _) ?_; intro W7 hP7 hT7))
      refine wp_named ?_
      intro W8 hW8
      obtain rfl : W8 = W7 := hW8
      have hb7 : Below wr.heap.size wr W8 := Below.thenTurned (below_alloc _ _) hT7 (by omega) (by simp)
      have hz7 := hb7.size
      have P7 := Lib.hid hP7
      obtain ⟨g8, hg8⟩ : ∃ g8, g8 = wr.heap.size := ⟨_, rfl⟩
      rw [← hg8] at P7
      rw [← hg8]
      have hg8l := P7.out.lt
      have HG8 := Lib.hid hg8
      have hg8w : w.heap.size + 2 ≤ g8 := by omega
      have X4 := Lib.hid (X3.out.below hb7)
      have SN2 := Lib.hid (SN1.out.below hb7)
      have BB2 := Lib.hid (BB.out.trans (hb7.mono (by omega)))
      have RX2 := Lib.hid (RX.out.step hz7 (fun b' hb' _ => hb7.block b' hb') fun _ _ h => h)
      have HMU := Lib.hid (show ¬ MuP mb (.slice (some ⟨ob, ooff, none⟩) ops.length co) g8 from fun hm => by have := (SN1.out.lt g8 hm).2; omega)
      clear hg8 hP7 hT7 c0 c1 c2 HRG RX
      obtain ⟨c0, c1, c2⟩ := X4.out.cells
      go_wp2_with (refine wpList_loadQ rfl _ rfl _ _ rfl _ P7.out.range ?_)
      refine (nextLocks_any W8 lo hi m a b c d (H1.out.below (BB2.out.mono hBge) (by have := HB.out.size; omega)) (by have := HB.out.size; omega) HV.out (M.behO m x)).mono ?_
      rintro e w5 ⟨na, nc, rfl, hr, hr1, hr2, hb5⟩
      have hnx := M.nextO_len m (M.behO m x)
      have hv30 := HV.out.few
      have SN5 := Lib.hid (SN2.out.below hb5)
      have BB5 := Lib.hid (BB2.out.trans (hb5.mono (by omega)))
      have P5 := Lib.hid (P7.out.below hb5)
      have RY5 := Lib.hid (RX2.out.step hb5.size (fun b' hb' _ => hb5.block b' hb') fun _ _ h => h)
      have NR : Hid (RowM w.heap.size w5 (MuP mb (.slice (some ⟨ob, ooff, none⟩) ops.length co)) na (M.encIs (M.nextO m (M.behO m x)))) := Lib.hid (by
        rcases hr with hr | ⟨g, o', cur, e1, h1, h2, h3, h4⟩
        · exact .inl hr
        · refine .inr ⟨g, o', e1, h2, fun hm => ?_, fun i' u' hu' => (cell_of_row w5 g (o' + i') cur 3 (0, 0) h3).trans (h4 i' u' hu'), fun _ => ⟨cur, h3, h4⟩⟩
          have h5 := (SN2.out.lt g hm).2
          omega)
      have HNM := Lib.hid (fun z (hz : z ∈ M.nextO m (M.behO m x)) => hz)
      have HNK := Lib.hid (fun z (hz : z ∈ M.nextO m (M.behO m x)) => show ∃ kn : Nat, z = (kn : Int) ∧ kn < 30 from by
        obtain ⟨kn, e, h1, _⟩ := M.mem_fl.1 hz
        exact ⟨kn, by rw [e], by omega⟩)
      obtain ⟨nx, hnxe⟩ : ∃ nx, nx = M.nextO m (M.behO m x) := ⟨_, rfl⟩
      rw [← hnxe] at hnx NR HFU HNM HNK hr1
      rw [← hnxe]
      have HNX := Lib.hid hnxe
      have hz5 := hb5.size
      have HOI := Lib.hid (show ∀ l : List Int, ∃ t, M.roundS m x ops l = ops ++ t from fun l => M.roundS_pre m x l ops)
      have HS0 := HS
      clear hr hb5 hnxe c0 c1 c2 hb7 SN2 RX2
      go_wp2_with fail
      go_loopw [5, 10, 11, 33] (fun v5 _ _ v33 wr => ∃ (j : Nat) (U : List Sl7), j ≤ nx.length ∧ v33 = .int .i64 (j : Int) ∧ M.Srch m begun (M.roundS m x ops (nx.take j)) ∧ SeenP w.heap.size B wr mb m nd v5 U (M.roundS m x ops (nx.take j)) (keysO m (M.roundS m x ops (nx.take j))) ∧ RowM w.heap.size wr (MuP mb v5) na (M.encIs nx) ∧ RowM w.heap.size wr (MuP mb v5) ua (M.encIs y) ∧ BoxP wr g8 (M.behO m x) (.slice ua y.length uc) ∧ ¬ MuP mb v5 g8 ∧ Below B W wr) (fun _ _ _ v33 _ => nx.length - (intOf v33).toNat)
      case atStart => exact ⟨0, U, Nat.zero_le _, rfl, HS0.out, SN5.out, NR.out, RY5.out, P5.out, HMU.out, BB5.out⟩
      case round =>
        obtain ⟨j, U, hj, rfl, hs, hsn, hnr, hyr, hp8, hmu, hbb⟩ := hrel
        have hlen2 := HLEN.out _ hs
        have HS2 := Lib.hid hs
        have SN3 := Lib.hid hsn
        have BB3 := Lib.hid hbb
        have NR3 := Lib.hid hnr
        have RY3 := Lib.hid hyr
        have P3 := Lib.hid hp8
        have HM3 := Lib.hid hmu
        have hzr2 := hbb.size
        have hg8r := hp8.lt
        obtain ⟨ao, co, rfl, ho1, ho2, _⟩ := own_slice hsn.ro
        clear hs hsn hnr hyr hp8 hmu hbb
        by_cases hjl : j < nx.length
        · obtain ⟨ops2, hops2⟩ : ∃ o2, o2 = M.roundS m x ops (nx.take j) := ⟨_, rfl⟩
          obtain ⟨tl, htl⟩ := HOI.out (nx.take j)
          have hil2 : i < ops2.length := by rw [hops2, htl, List.length_append]; omega
          have hx2 : ops2[i] = x := by
            have h1 : ops2[i]? = some x := by rw [hops2, htl, List.getElem?_append_left hil]; exact HGI.out
            rw [List.getElem?_eq_getElem hil2] at h1
            injection h1
          have HT := Lib.hid (M.roundS_take (m := m) (cur := x) (ops := ops) hjl)
          have HKM := Lib.hid (HNM.out _ (List.getElem_mem hjl))
          obtain ⟨kn, hkn, hk30⟩ := HNK.out _ (List.getElem_mem hjl)
          have HSN := Lib.hid (fun h => HS2.out.add (cur := x) h (k := nx[j]) (by rw [← HNX.out]; exact List.getElem_mem hjl))
          rw [← hops2] at HS2 SN3 hlen2 HT HSN ho1 NR3 RY3 HM3
          rw [← hops2]
          have HXM := Lib.hid (show x ∈ ops2 from hx2 ▸ List.getElem_mem hil2)
          obtain ⟨yy, hyy⟩ := HS2.out.from_ x HXM.out
          have hndx : nd ≤ x.length := by rw [hyy, List.length_append, HND.out]; omega
          obtain ⟨nb, noff, rfl, _, hnb, hnc⟩ := NR3.out.row.at_ (k := j) (by rw [M.encIs_len]; exact hjl)
          have p1 := hnc _ _ (M.encIs_at hjl)
          rw [hkn] at p1 HT HSN HKM
          have HIZ : Hid (M.isO m (x ++ [(kn : Int)]) = true) := Lib.hid (by rw [M.isO_snoc, HIX.out, Bool.true_and, List.contains_iff_mem, ← HNX.out]; exact HKM.out)
          have hyl1 : (y ++ [(kn : Int)]).length = y.length + 1 := by rw [List.length_append]; rfl
          have HZY0 : Hid (y ++ [(kn : Int)] = (x ++ [(kn : Int)]).drop nd) := Lib.hid (by rw [HY.out, List.drop_append_of_le_length hndx])
          have hand := fun W' => and_any W' (M.behO m x) kn hk30
          rw [← M.behO_snoc] at hand
          obtain ⟨z, hze⟩ : ∃ z, z = x ++ [(kn : Int)] := ⟨_, rfl⟩
          rw [← hze] at HIZ HZY0 hand HT HSN
          have HZY := HZY0
          have KM := Lib.hid (keys_mem HV.out HS2.out HIZ.out)
          have HAND := Lib.hid hand
          clear hnc hx2 htl hops2 hkn hyy hze hand HZY0
          go_wp2_with (refine wpList_loadQ rfl _ rfl _ _ rfl _ P3.out.range ?_)
          refine (HAND.out wr).mono ?_
          rintro e w6 ⟨rfl, hb6⟩
          have hz6 := hb6.size
          obtain ⟨g11, hg11⟩ : ∃ g, g = w6.heap.size := ⟨_, rfl⟩
          have SN6 := Lib.hid (SN3.out.below hb6)
          go_upto_region 11 with (refine wpList_storeO rfl _ _ rfl _ rfl _ rfl _ (BoxO.zero _) ?_; intro W7 hO7 hT7)
          refine wp_named ?_
          intro W8 hW8
          obtain rfl : W8 = W7 := hW8
          have hb8 : Below wr.heap.size wr W8 := hb6.trans ((Below.thenTurned (below_alloc _ _) hT7 (by omega) (by simp) : Below w6.heap.size w6 W8).mono hz6)
          have hz8 := hb8.size
          have O8 := Lib.hid hO7
          rw [← hg11] at O8
          rw [← hg11]
          have hg11l := O8.out.lt
          have hg11r : wr.heap.size ≤ g11 := by omega
          have SN8 := Lib.hid (SN3.out.below hb8)
          have BB8 := Lib.hid (BB3.out.trans (hb8.mono (by omega)))
          have NR8 := Lib.hid (NR3.out.step hb8.size (fun b' hb' _ => hb8.block b' hb') fun _ _ h => h)
          have RY8 := Lib.hid (RY3.out.step hb8.size (fun b' hb' _ => hb8.block b' hb') fun _ _ h => h)
          have P8 := Lib.hid (P3.out.below hb8)
          have hmbl := (SN3.out.lt mb (.inl rfl)).2
          have HM11 := Lib.hid (show ¬ MuP mb (.slice ao ops2.length co) g11 from fun hm => by have := (SN3.out.lt g11 hm).2; omega)
          clear hT7 hO7 hb8 hb6 p1 hg11 SN6
          cases q1 : ops2.any (fun y => M.codeN m y == M.codeN m z) with
          | true =>
            have HE := Lib.hid (M.addP_old q1)
            have HIN := Lib.hid (KM.out.1 q1)
            clear q1
            go_wp2_with (first | (refine wpList_loadO rfl _ rfl _ rfl _ O8.out ?_) | (refine wpList_lookO rfl _ _ rfl _ rfl _ rfl _ SN8.out.mp true ⟨fun _ => HIN.out, fun _ => rfl⟩ ?_))
            go_roundw
            case rel => exact ⟨j + 1, U, by omega, by go_num, by rw [HT.out, HE.out]; exact HS2.out, by rw [HT.out, HE.out]; exact SN8.out, NR8.out, RY8.out, P8.out, HM3.out, BB8.out⟩
            case measure => simp [intOf]; omega
          | false =>
            have HE := Lib.hid (M.addP_new q1)
            have HS3 := Lib.hid (HSN.out HXM.out)
            have HNI : Hid (encO (M.behO m z) ∉ keysO m ops2) := Lib.hid (fun h => by have := KM.out.2 h; rw [q1] at this; cases this)
            have HLF := Lib.hid (show (false = true ↔ encO (M.behO m z) ∈ keysO m ops2) from ⟨nofun, fun h => absurd h HNI.out⟩)
            have hkl : (keysO m ops2).length = ops2.length := by unfold keysO; rw [List.length_map]
            clear q1
            go_upto_region 13 with (first | (refine wpList_loadO rfl _ rfl _ rfl _ O8.out ?_) | (refine wpList_lookO rfl _ _ rfl _ rfl _ rfl _ SN8.out.mp false HLF.out ?_) | (refine wpList_insO rfl _ _ _ (Or.inr rfl) _ rfl _ rfl rfl _ SN8.out.mp HNI.out (by rw [hkl]; unfold maxLen; omega) ?_; intro V9 hM9 hT9))
            refine wp_named ?_
            intro W9 hW9
            obtain rfl : W9 = V9 := hW9
            have hkey := SN8.out.key hM9 hT9
            have SN9 := Lib.hid hkey.1
            have hz9 := hkey.2.size
            have BB9 := Lib.hid (BB8.out.trans (hkey.2.below (fun b' hb' => (SN8.out.lt b' hb').1) (by omega)))
            have NR9 := Lib.hid (NR8.out.step hkey.2.size hkey.2.block hkey.2.mu)
            have RY9 := Lib.hid (RY8.out.step hkey.2.size hkey.2.block hkey.2.mu)
            have P9 := Lib.hid (P8.out.step hkey.2.block HM3.out)
            have O9 := Lib.hid (O8.out.step hkey.2.block HM11.out)
            have HM8 := HM3
            clear hkey hM9 hT9 hkl
            refine wp_region_late2 (fun (wq : World) => wq.cell? ⟨g8, 30, none⟩ = some (.slice ua y.length uc) ∧ BoxO wq g11 (M.behO m z)) [] 12 #[false, false, false, false, false, false, false, false, false, false, false, false] rfl rfl (by kernel_rfl) ?_
            have hS : (fun (wq : World) => wq.cell? ⟨g8, 30, none⟩ = some (.slice ua y.length uc) ∧ BoxO wq g11 (M.behO m z)) W9.drew := ⟨P9.out.list, O9.out⟩
            refine wpAnyL_take (i := 0) (oi := { dst := some 47, op := Go.Op.move (Go.Operand.tmp 5), type := 65, pos := "l7_spent.go:126", after := #[], guard := none }) (v := ?qv0) rfl (by kernel_rfl) (by kernel_rfl) (by kernel_rfl) (by kernel_rfl) (fun _ _ _ h => h) (Or.inl ⟨by rfl, ?qh0⟩) hS ?qr0
            case qh0 => (intro wS hSw; (try dsimp only at hSw); go_split_ands; go_simp; try with_reducible rfl)
            try simp only [Act.put, List.setIfInBounds_toArray, List.set_cons_zero, List.set_cons_succ]
            refine wpAnyL_take (i := 1) (oi := { dst := some 48, op := Go.Op.load 52 (Go.Operand.tmp 11), type := 52, pos := "l7_spent.go:126", after := #[], guard := none }) (v := .agg (encO (M.behO m z)).toArray) rfl (by kernel_rfl) (by kernel_rfl) (by kernel_rfl) (by kernel_rfl) (fun _ _ _ h => h) (yieldsO (by rfl) _ rfl (g11) rfl (M.behO m z) (fun wS hSw => hSw.2)) hS ?qr1
            try simp only [Act.put, List.setIfInBounds_toArray, List.set_cons_zero, List.set_cons_succ]
            refine wpAnyL_take (i := 2) (oi := { dst := some 49, op := Go.Op.fieldAddr 82 (Go.Operand.tmp 8) 1, type := 0, pos := "l7_spent.go:126", after := #[], guard := none }) (v := ?qv2) rfl (by kernel_rfl) (by kernel_rfl) (by kernel_rfl) (by kernel_rfl) (fun _ _ _ h => h) (Or.inl ⟨by rfl, ?qh2⟩) hS ?qr2
            case qh2 => (intro wS hSw; (try dsimp only at hSw); go_split_ands; go_simp; try with_reducible rfl)
            try simp only [Act.put, List.setIfInBounds_toArray, List.set_cons_zero, List.set_cons_succ]
            refine wpAnyL_take (i := 3) (oi := { dst := some 50, op := Go.Op.load 23 (Go.Operand.tmp 49), type := 23, pos := "l7_spent.go:126", after := #[{ on := 2, ground := Go.Ground.data }], guard := none }) (v := ?qv3) rfl (by kernel_rfl) (by kernel_rfl) (by kernel_rfl) (by kernel_rfl) (fun _ _ _ h => h) (Or.inl ⟨by rfl, ?qh3⟩) hS ?qr3
            case qh3 => (intro wS hSw; (try dsimp only at hSw); go_split_ands; go_simp; try with_reducible rfl)
            try simp only [Act.put, List.setIfInBounds_toArray, List.set_cons_zero, List.set_cons_succ]
            refine wpAnyL_take (i := 5) (oi := { dst := some 52, op := Go.Op.move (Go.Operand.tmp 10), type := 3, pos := "l7_spent.go:126", after := #[], guard := none }) (v := ?qv5) rfl (by kernel_rfl) (by kernel_rfl) (by kernel_rfl) (by kernel_rfl) (fun _ _ _ h => h) (Or.inl ⟨by rfl, ?qh5⟩) hS ?qr5
            case qh5 => (intro wS hSw; (try dsimp only at hSw); go_split_ands; go_simp; try with_reducible rfl)
            try simp only [Act.put, List.setIfInBounds_toArray, List.set_cons_zero, List.set_cons_succ]
            refine wpAnyL_two (i := 4) (j := 6) (oi := { dst := some 51, op := Go.Op.call { callee := Go.Callee.value (Go.Operand.func 96), args := #[Go.Operand.tmp 50], argTypes := #[23] }, type := 23, pos := "l7_spent.go:126", after := #[{ on := 3, ground := Go.Ground.data }], guard := none }) (oj := { dst := some 53, op := Go.Op.buildSlice 23 1 #[(0, Go.Operand.tmp 52)], type := 23, pos := "l7_spent.go:126", after := #[{ on := 5, ground := Go.Ground.data }], guard := none }) (by kernel_rfl) rfl rfl (fun KA hKA => ?_) (fun KA hKA => ?_)
            · refine step_call (by rfl) 96 #[.slice ua y.length uc] (by go_simp; try rfl) (cloneInts_own W9.drew 0 _ ua uc y (show RowIn 0 W9.drew.heap.size W9.drew ua (M.encIs y) from RY9.out.row) (Nat.le_refl _) (by omega)) ?_
              rintro e w5 ⟨pa, pc, rfl, hp, hbw5⟩
              refine ⟨_, rfl, ?_⟩
              have hbw5x : Below W9.heap.size W9 w5 := (Below.refl W9.heap.size W9).drew.trans hbw5
              have hsw5 : (fun (wq : World) => wq.cell? ⟨g8, 30, none⟩ = some (.slice ua y.length uc) ∧ BoxO wq g11 (M.behO m z)) w5 := ⟨(P9.out.below hbw5x).list, O9.out.below hbw5x⟩
              refine hKA _ _ (fun _ => hsw5) ?_
              clear hS
              have hS := hsw5
              try simp only [Act.put, List.setIfInBounds_toArray, List.set_cons_zero, List.set_cons_succ]
              refine wpAnyL_one (i := 6) (oi := { dst := some 53, op := Go.Op.buildSlice 23 1 #[(0, Go.Operand.tmp 52)], type := 23, pos := "l7_spent.go:126", after := #[{ on := 5, ground := Go.Ground.data }], guard := none }) (by kernel_rfl) rfl (fun KB hKB => ?_)
              go_simp
              have hbw6x : Below W9.heap.size W9 (w5.alloc (.cells #[.int .i64 (kn : Int)] 3)) := hbw5x.alloc (by have := hbw5x.size; omega) _
              have hsw6 : (fun (wq : World) => wq.cell? ⟨g8, 30, none⟩ = some (.slice ua y.length uc) ∧ BoxO wq g11 (M.behO m z)) (w5.alloc (.cells #[.int .i64 (kn : Int)] 3)) := ⟨(P9.out.below hbw6x).list, O9.out.below hbw6x⟩
              have hsz5 := hbw5x.size
              refine hKB _ _ (fun _ => hsw6) ?_
              clear hS
              have hS := hsw6
              try simp only [List.setIfInBounds_toArray, List.set_cons_zero, List.set_cons_succ]
              refine wpAnyL_one (i := 7) (oi := { dst := some 54, op := Go.Op.call { callee := Go.Callee.builtin Go.Builtin.append, args := #[Go.Operand.tmp 51, Go.Operand.tmp 53], argTypes := #[23, 23] }, type := 23, pos := "l7_spent.go:126", after := #[{ on := 4, ground := Go.Ground.data }, { on := 6, ground := Go.Ground.data }, { on := 4, ground := Go.Ground.chain }], guard := none }) (by kernel_rfl) rfl (fun KC hKC => ?_)
              refine step_append_own rfl (.tmp 51) (.tmp 53) 23 rfl W9.heap.size 3 i0 (.int .i64 0) 1 8 Try.underlying23 hi0 hz0 hz1 hz2 rfl (by decide) _ _ _ ((show w5.ownsRow W9.heap.size 3 1 (.slice pa y.length pc) y.length (M.encIs y) from hp).alloc _) (by first | (simp [Act.eval]; done) | simp [Act.eval, Act.put]) ⟨w5.heap.size, 0, none⟩ 1 1 [.int .i64 (kn : Int)] (by first | (simp [Act.eval]; done) | simp [Act.eval, Act.put]) rfl (cell_one_new w5 _ _) (fun x hx => by simp at hx; subst hx; rfl) (by unfold maxLen; omega) (by omega) (by first | omega | (simp; omega)) ?_
              intro v7 w7 hown7 hgrow7 hnil7
              obtain ⟨ga, gc, hv7, hg1, hg2, _⟩ := own_slice hown7
              subst hv7
              have hbw7x : Below W9.heap.size W9 w7 := (hbw6x).grown hgrow7 (by first | omega | (simp; omega)) (own_base (show w5.ownsRow W9.heap.size 3 1 (.slice pa y.length pc) y.length (M.encIs y) from hp))
              have hsw7 : (fun (wq : World) => wq.cell? ⟨g8, 30, none⟩ = some (.slice ua y.length uc) ∧ BoxO wq g11 (M.behO m z)) w7 := ⟨(P9.out.below hbw7x).list, O9.out.below hbw7x⟩
              have hsz7 := hbw7x.size
              refine hKC _ _ (fun _ => hsw7) ?_
              clear hS
              have hS := hsw7
              try simp only [Act.put, List.setIfInBounds_toArray, List.set_cons_zero, List.set_cons_succ]
              refine wpAnyL_one (i := 8) (oi := { dst := some 55, op := Go.Op.build 82 #[(0, Go.Operand.tmp 48), (1, Go.Operand.tmp 54)], type := 82, pos := "l7_spent.go:126", after := #[{ on := 1, ground := Go.Ground.data }, { on := 7, ground := Go.Ground.data }], guard := none }) (by kernel_rfl) rfl (fun KD hKD => ?_)
              refine step_build2 rfl _ _ rfl (M.behO m z) ga (y.length + 1) gc (by first | (simp [Act.eval]; done) | simp [Act.eval, Act.put]) (by first | (simp [Act.eval]; done) | simp [Act.eval, Act.put]) ?_
              refine hKD _ _ (fun _ => hsw7) ?_
              try simp only [Act.put, List.setIfInBounds_toArray, List.set_cons_zero, List.set_cons_succ]
              refine wpAnyL_one (i := 9) (oi := { dst := some 56, op := Go.Op.buildSlice 65 1 #[(0, Go.Operand.tmp 55)], type := 65, pos := "l7_spent.go:126", after := #[{ on := 8, ground := Go.Ground.data }], guard := none }) (by kernel_rfl) rfl (fun KE hKE => ?_)
              refine step_sliceP rfl _ rfl (M.behO m z) ga (y.length + 1) gc (by first | (simp [Act.eval]; done) | simp [Act.eval, Act.put]) ?_
              have hbw8x : Below W9.heap.size W9 (w7.alloc (.cells (celO (M.behO m z) (.slice ga (y.length + 1) gc)).toArray 82)) := hbw7x.alloc hsz7 _
              have hsw8 : (fun (wq : World) => wq.cell? ⟨g8, 30, none⟩ = some (.slice ua y.length uc) ∧ BoxO wq g11 (M.behO m z)) (w7.alloc (.cells (celO (M.behO m z) (.slice ga (y.length + 1) gc)).toArray 82)) := ⟨(P9.out.below hbw8x).list, O9.out.below hbw8x⟩
              refine hKE _ _ (fun _ => hsw8) ?_
              clear hS
              have hS := hsw8
              try simp only [Act.put, List.setIfInBounds_toArray, List.set_cons_zero, List.set_cons_succ]
              have SN7 := Lib.hid (SN9.out.below hbw7x)
              have hro := SN7.out.ro
              refine wpAnyL_one (i := 10) (oi := { dst := some 57, op := Go.Op.call { callee := Go.Callee.builtin Go.Builtin.append, args := #[Go.Operand.tmp 47, Go.Operand.tmp 56], argTypes := #[65, 65] }, type := 65, pos := "l7_spent.go:126", after := #[{ on := 0, ground := Go.Ground.data }, { on := 9, ground := Go.Ground.data }, { on := 7, ground := Go.Ground.chain }], guard := none }) (by kernel_rfl) rfl (fun KF hKF => ?_)
              refine step_append_own_at rfl (.tmp 47) (.tmp 56) 65 rfl B 82 j0 _ 31 56 Try.underlying65 hj0 hjz0 hjz1 hjz2 (by rfl) (by decide) _ _ _ (hro.alloc _) (by first | (simp [Act.eval]; done) | simp [Act.eval, Act.put]) ⟨w7.heap.size, 0, none⟩ 1 1 (celO (M.behO m z) (.slice ga (y.length + 1) gc)) (by first | (simp [Act.eval]; done) | simp [Act.eval, Act.put]) (by rw [celO_len]) (cell_one_newP _ _ _) (celO_one _ rfl) (by unfold maxLen; omega) (by omega) (by simp; omega) ?_
              intro v8 w8 hown8 hgrow8 hnil8 hat8
              have hpush := SN7.out.push (u := (ga, gc)) (x := z) (by unfold slV7; rw [← HZY.out, hyl1]; exact hown8) hgrow8 hat8 (by rw [← HZY.out, M.encIs_append]; exact RowM.of_own hown7 fun b' hb' hm => by have h1 := (hown7.lt b' hb').1; have h2 := (SN9.out.lt b' hm).2; omega) (by rw [← HZY.out, hyl1]; exact hg1) hg2 (by rw [← HZY.out]; exact own_some7 hown7 (by omega))
              have hch := ChgP.after hbw7x hpush.2
              have hs8 : (fun (wq : World) => wq.cell? ⟨g8, 30, none⟩ = some (.slice ua y.length uc) ∧ BoxO wq g11 (M.behO m z)) w8 := ⟨(P9.out.step hch.block HM8.out).list, O9.out.step hch.block HM11.out⟩
              refine hKF _ _ (fun _ => hs8) ?_
              clear hS
              have hS := hs8
              try simp only [Act.put, List.setIfInBounds_toArray, List.set_cons_zero, List.set_cons_succ]
              refine wpAnyL_take (i := 11) (oi := { dst := some 5, op := Go.Op.assign (Go.Operand.tmp 57), type := 65, pos := "l7_spent.go:126", after := #[{ on := 10, ground := Go.Ground.data }, { on := 10, ground := Go.Ground.chain }, { on := 0, ground := Go.Ground.phase }, { on := 1, ground := Go.Ground.phase }, { on := 2, ground := Go.Ground.phase }, { on := 3, ground := Go.Ground.phase }, { on := 4, ground := Go.Ground.phase }, { on := 5, ground := Go.Ground.phase }, { on := 6, ground := Go.Ground.phase }, { on := 7, ground := Go.Ground.phase }, { on := 8, ground := Go.Ground.phase }, { on := 9, ground := Go.Ground.phase }, { on := 10, ground := Go.Ground.phase }], guard := none }) (v := ?eav11) rfl (by kernel_rfl) (by kernel_rfl) (by kernel_rfl) (by kernel_rfl) (fun _ _ _ h => h) (Or.inl ⟨by rfl, ?eah11⟩) hS ?ear11
              case eah11 => (intro wS hSw; (try dsimp only at hSw); go_split_ands; go_simp; try with_reducible rfl)
              try simp only [Act.put, List.setIfInBounds_toArray, List.set_cons_zero, List.set_cons_succ]
              refine wpAnyL_done (by kernel_rfl) ?_ _
              have hsn8 := hpush.1
              have SN10 := Lib.hid hsn8
              have BB10 := Lib.hid (BB9.out.trans (hch.below (fun b' hb' => (SN9.out.lt b' hb').1) (by omega)))
              have NR10 := Lib.hid (NR9.out.step hch.size hch.block hch.mu)
              have RY10 := Lib.hid (RY9.out.step hch.size hch.block hch.mu)
              have P10 := Lib.hid (P9.out.step hch.block HM8.out)
              have HM10 := Lib.hid (hch.mu g8 P9.out.lt HM8.out)
              rw [← keysO_push] at SN10
              rw [HE.out] at HS3
              clear hsn8 hch hpush hown8 hgrow8 hnil8 hat8 hS hs8
              go_wp2_with fail
              go_roundw
              case rel => exact ⟨j + 1, U ++ [(ga, gc)], by omega, by go_num, by rw [HT.out, HE.out]; exact HS3.out, by rw [HT.out, HE.out]; exact SN10.out, NR10.out, RY10.out, P10.out, HM10.out, BB10.out⟩
              case measure => simp [intOf]; omega
            · go_simp
              have hbw6x : Below W9.heap.size W9 (W9.drew.alloc (.cells #[.int .i64 (kn : Int)] 3)) := (Below.refl W9.heap.size W9).drew.alloc (Nat.le_refl _) _
              have hsw6 : (fun (wq : World) => wq.cell? ⟨g8, 30, none⟩ = some (.slice ua y.length uc) ∧ BoxO wq g11 (M.behO m z)) (W9.drew.alloc (.cells #[.int .i64 (kn : Int)] 3)) := ⟨(P9.out.below hbw6x).list, O9.out.below hbw6x⟩
              refine hKA _ _ (fun _ => hsw6) ?_
              clear hS
              have hS := hsw6
              try simp only [List.setIfInBounds_toArray, List.set_cons_zero, List.set_cons_succ]
              refine wpAnyL_one (i := 4) (oi := { dst := some 51, op := Go.Op.call { callee := Go.Callee.value (Go.Operand.func 96), args := #[Go.Operand.tmp 50], argTypes := #[23] }, type := 23, pos := "l7_spent.go:126", after := #[{ on := 3, ground := Go.Ground.data }], guard := none }) (by kernel_rfl) rfl (fun KB hKB => ?_)
              refine step_call (by rfl) 96 #[.slice ua y.length uc] (by go_simp; try rfl) (cloneInts_own (W9.drew.alloc (.cells #[.int .i64 (kn : Int)] 3)) 0 _ ua uc y (RY9.out.row.below hbw6x (Nat.le_refl _) |>.mono (Nat.le_refl _) (by simp)) (Nat.le_refl _) (by omega)) ?_
              rintro e w5 ⟨pa, pc, rfl, hp, hbw5⟩
              refine ⟨_, rfl, ?_⟩
              have hbw5x : Below W9.heap.size W9 w5 := hbw6x.trans (hbw5.mono (by simp))
              have hsw5 : (fun (wq : World) => wq.cell? ⟨g8, 30, none⟩ = some (.slice ua y.length uc) ∧ BoxO wq g11 (M.behO m z)) w5 := ⟨(P9.out.below hbw5x).list, O9.out.below hbw5x⟩
              refine hKB _ _ (fun _ => hsw5) ?_
              clear hS
              have hS := hsw5
              try simp only [Act.put, List.setIfInBounds_toArray, List.set_cons_zero, List.set_cons_succ]
              have hsz5 := hbw5x.size
              have hcn : ∀ j u, ([Value.int .i64 (kn : Int)])[j]? = some u → w5.cell? ((⟨W9.heap.size, 0, none⟩ : Addr).add j) = some u := (fun j u hu => by have h1 := cell_one_new W9.drew (.int .i64 (kn : Int)) 3 j u hu; have h2 : ((⟨W9.heap.size, 0, none⟩ : Addr).add j).block = W9.heap.size := (by unfold Addr.add; split <;> rfl); exact (hbw5.cell (p := (⟨W9.heap.size, 0, none⟩ : Addr).add j) (by rw [h2]; simp)).trans h1)
              refine wpAnyL_one (i := 7) (oi := { dst := some 54, op := Go.Op.call { callee := Go.Callee.builtin Go.Builtin.append, args := #[Go.Operand.tmp 51, Go.Operand.tmp 53], argTypes := #[23, 23] }, type := 23, pos := "l7_spent.go:126", after := #[{ on := 4, ground := Go.Ground.data }, { on := 6, ground := Go.Ground.data }, { on := 4, ground := Go.Ground.chain }], guard := none }) (by kernel_rfl) rfl (fun KC hKC => ?_)
              refine step_append_own rfl (.tmp 51) (.tmp 53) 23 rfl W9.heap.size 3 i0 (.int .i64 0) 1 8 Try.underlying23 hi0 hz0 hz1 hz2 rfl (by decide) _ _ _ (own_weaken (show w5.ownsRow (W9.heap.size + 1) 3 1 (.slice pa y.length pc) y.length (M.encIs y) from by simpa using hp) (Nat.le_succ _)) (by first | (simp [Act.eval]; done) | simp [Act.eval, Act.put]) ⟨W9.heap.size, 0, none⟩ 1 1 [.int .i64 (kn : Int)] (by first | (simp [Act.eval]; done) | simp [Act.eval, Act.put]) rfl (hcn) (fun x hx => by simp at hx; subst hx; rfl) (by unfold maxLen; omega) (by omega) (by first | omega | (simp; omega)) ?_
              intro v7 w7 hown7 hgrow7 hnil7
              obtain ⟨ga, gc, hv7, hg1, hg2, _⟩ := own_slice hown7
              subst hv7
              have hbw7x : Below W9.heap.size W9 w7 := (hbw5x).grown hgrow7 (by first | omega | (simp; omega)) (own_base (own_weaken (show w5.ownsRow (W9.heap.size + 1) 3 1 (.slice pa y.length pc) y.length (M.encIs y) from by simpa using hp) (Nat.le_succ _)))
              have hsw7 : (fun (wq : World) => wq.cell? ⟨g8, 30, none⟩ = some (.slice ua y.length uc) ∧ BoxO wq g11 (M.behO m z)) w7 := ⟨(P9.out.below hbw7x).list, O9.out.below hbw7x⟩
              have hsz7 := hbw7x.size
              refine hKC _ _ (fun _ => hsw7) ?_
              clear hS
              have hS := hsw7
              try simp only [Act.put, List.setIfInBounds_toArray, List.set_cons_zero, List.set_cons_succ]
              refine wpAnyL_one (i := 8) (oi := { dst := some 55, op := Go.Op.build 82 #[(0, Go.Operand.tmp 48), (1, Go.Operand.tmp 54)], type := 82, pos := "l7_spent.go:126", after := #[{ on := 1, ground := Go.Ground.data }, { on := 7, ground := Go.Ground.data }], guard := none }) (by kernel_rfl) rfl (fun KD hKD => ?_)
              refine step_build2 rfl _ _ rfl (M.behO m z) ga (y.length + 1) gc (by first | (simp [Act.eval]; done) | simp [Act.eval, Act.put]) (by first | (simp [Act.eval]; done) | simp [Act.eval, Act.put]) ?_
              refine hKD _ _ (fun _ => hsw7) ?_
              try simp only [Act.put, List.setIfInBounds_toArray, List.set_cons_zero, List.set_cons_succ]
              refine wpAnyL_one (i := 9) (oi := { dst := some 56, op := Go.Op.buildSlice 65 1 #[(0, Go.Operand.tmp 55)], type := 65, pos := "l7_spent.go:126", after := #[{ on := 8, ground := Go.Ground.data }], guard := none }) (by kernel_rfl) rfl (fun KE hKE => ?_)
              refine step_sliceP rfl _ rfl (M.behO m z) ga (y.length + 1) gc (by first | (simp [Act.eval]; done) | simp [Act.eval, Act.put]) ?_
              have hbw8x : Below W9.heap.size W9 (w7.alloc (.cells (celO (M.behO m z) (.slice ga (y.length + 1) gc)).toArray 82)) := hbw7x.alloc hsz7 _
              have hsw8 : (fun (wq : World) => wq.cell? ⟨g8, 30, none⟩ = some (.slice ua y.length uc) ∧ BoxO wq g11 (M.behO m z)) (w7.alloc (.cells (celO (M.behO m z) (.slice ga (y.length + 1) gc)).toArray 82)) := ⟨(P9.out.below hbw8x).list, O9.out.below hbw8x⟩
              refine hKE _ _ (fun _ => hsw8) ?_
              clear hS
              have hS := hsw8
              try simp only [Act.put, List.setIfInBounds_toArray, List.set_cons_zero, List.set_cons_succ]
              have SN7 := Lib.hid (SN9.out.below hbw7x)
              have hro := SN7.out.ro
              refine wpAnyL_one (i := 10) (oi := { dst := some 57, op := Go.Op.call { callee := Go.Callee.builtin Go.Builtin.append, args := #[Go.Operand.tmp 47, Go.Operand.tmp 56], argTypes := #[65, 65] }, type := 65, pos := "l7_spent.go:126", after := #[{ on := 0, ground := Go.Ground.data }, { on := 9, ground := Go.Ground.data }, { on := 7, ground := Go.Ground.chain }], guard := none }) (by kernel_rfl) rfl (fun KF hKF => ?_)
              refine step_append_own_at rfl (.tmp 47) (.tmp 56) 65 rfl B 82 j0 _ 31 56 Try.underlying65 hj0 hjz0 hjz1 hjz2 (by rfl) (by decide) _ _ _ (hro.alloc _) (by first | (simp [Act.eval]; done) | simp [Act.eval, Act.put]) ⟨w7.heap.size, 0, none⟩ 1 1 (celO (M.behO m z) (.slice ga (y.length + 1) gc)) (by first | (simp [Act.eval]; done) | simp [Act.eval, Act.put]) (by rw [celO_len]) (cell_one_newP _ _ _) (celO_one _ rfl) (by unfold maxLen; omega) (by omega) (by simp; omega) ?_
              intro v8 w8 hown8 hgrow8 hnil8 hat8
              have hpush := SN7.out.push (u := (ga, gc)) (x := z) (by unfold slV7; rw [← HZY.out, hyl1]; exact hown8) hgrow8 hat8 (by rw [← HZY.out, M.encIs_append]; exact RowM.of_own hown7 fun b' hb' hm => by have h1 := (hown7.lt b' hb').1; have h2 := (SN9.out.lt b' hm).2; omega) (by rw [← HZY.out, hyl1]; exact hg1) hg2 (by rw [← HZY.out]; exact own_some7 hown7 (by omega))
              have hch := ChgP.after hbw7x hpush.2
              have hs8 : (fun (wq : World) => wq.cell? ⟨g8, 30, none⟩ = some (.slice ua y.length uc) ∧ BoxO wq g11 (M.behO m z)) w8 := ⟨(P9.out.step hch.block HM8.out).list, O9.out.step hch.block HM11.out⟩
              refine hKF _ _ (fun _ => hs8) ?_
              clear hS
              have hS := hs8
              try simp only [Act.put, List.setIfInBounds_toArray, List.set_cons_zero, List.set_cons_succ]
              refine wpAnyL_take (i := 11) (oi := { dst := some 5, op := Go.Op.assign (Go.Operand.tmp 57), type := 65, pos := "l7_spent.go:126", after := #[{ on := 10, ground := Go.Ground.data }, { on := 10, ground := Go.Ground.chain }, { on := 0, ground := Go.Ground.phase }, { on := 1, ground := Go.Ground.phase }, { on := 2, ground := Go.Ground.phase }, { on := 3, ground := Go.Ground.phase }, { on := 4, ground := Go.Ground.phase }, { on := 5, ground := Go.Ground.phase }, { on := 6, ground := Go.Ground.phase }, { on := 7, ground := Go.Ground.phase }, { on := 8, ground := Go.Ground.phase }, { on := 9, ground := Go.Ground.phase }, { on := 10, ground := Go.Ground.phase }], guard := none }) (v := ?ebv11) rfl (by kernel_rfl) (by kernel_rfl) (by kernel_rfl) (by kernel_rfl) (fun _ _ _ h => h) (Or.inl ⟨by rfl, ?ebh11⟩) hS ?ebr11
              case ebh11 => (intro wS hSw; (try dsimp only at hSw); go_split_ands; go_simp; try with_reducible rfl)
              try simp only [Act.put, List.setIfInBounds_toArray, List.set_cons_zero, List.set_cons_succ]
              refine wpAnyL_done (by kernel_rfl) ?_ _
              have hsn8 := hpush.1
              have SN10 := Lib.hid hsn8
              have BB10 := Lib.hid (BB9.out.trans (hch.below (fun b' hb' => (SN9.out.lt b' hb').1) (by omega)))
              have NR10 := Lib.hid (NR9.out.step hch.size hch.block hch.mu)
              have RY10 := Lib.hid (RY9.out.step hch.size hch.block hch.mu)
              have P10 := Lib.hid (P9.out.step hch.block HM8.out)
              have HM10 := Lib.hid (hch.mu g8 P9.out.lt HM8.out)
              rw [← keysO_push] at SN10
              rw [HE.out] at HS3
              clear hsn8 hch hpush hown8 hgrow8 hnil8 hat8 hS hs8
              go_wp2_with fail
              go_roundw
              case rel => exact ⟨j + 1, U ++ [(ga, gc)], by omega, by go_num, by rw [HT.out, HE.out]; exact HS3.out, by rw [HT.out, HE.out]; exact SN10.out, NR10.out, RY10.out, P10.out, HM10.out, BB10.out⟩
              case measure => simp [intOf]; omega
        · obtain rfl : j = nx.length := by omega
          have hsn := SN3.out
          have hs := HS2.out
          rw [List.take_of_length_le (Nat.le_refl _), ← HFU.out] at hsn hs ho1
          rw [List.take_of_length_le (Nat.le_refl _), ← HFU.out]
          have SN6 := Lib.hid hsn
          have HS6 := Lib.hid hs
          have hil6 : i + 1 ≤ (M.fullS m ops i).length := by have := M.fullS_len (m := m) (ops := ops) (i := i); omega
          have HF6 := Lib.hid (show M.srch m (1025 - (i + 1)) (M.fullS m ops i) (i + 1) = SR by rw [← HFS.out]; exact HF.out)
          clear hsn hs
          go_wp2_with fail
          go_roundw
          case rel => exact ⟨i + 1, M.fullS m ops i, U, hil6, by go_num, HS6.out, HF6.out, SN6.out, BB3.out⟩
          case measure => simp [intOf]; omega
    · have hie : i = ops.length := by omega
      have HSE := Lib.hid (show SR = ops by rw [← HF.out]; exact M.srch_end (by omega))
      have HOR := Lib.hid hor
      clear hie hor
      go_wp2_with fail
      go_ret
      rw [HSE.out]
      exact ⟨U, ao, co, rfl, HOR.out.row.mono (by omega) (Nat.le_refl _), ho1, ho2, SN1.out.done (by omega), BW.out⟩
end C
end Go.Proofs.Ythgmkkkfhbjhoaa
namespace Go.Proofs.Ythgmkkkfhbjhoaa
open Go.RowKit
namespace C
set_option maxHeartbeats 6400000
set_option maxRecDepth 40000
def WantOk (F : FuncId) (pre caps : Array Value) (m : M.Mz) (p : List Int → Bool) (w : World) : Prop :=
  ∀ W (x : List Int), M.isO m x = true → Below w.heap.size w W → Calls Try.prog F (pre.push (.agg (encO (M.behO m x)).toArray) ++ caps) W (BoolPost W (p x))
theorem firstFrom_any (w : World) (lo hi : Nat) (m : M.Mz) (a b : Option Addr) (c d : Nat) (h : MzIn lo hi w m a c b d) (hz : hi ≤ w.heap.size) (V : M.Valid m) (hf : (M.lockL m).length ≤ 10) (begun : List Int) (hio : M.isO m begun = true) (F : FuncId) (eg : ∀ args w, (callFunc F args).run Try.prog w = .ok (.enter F args) w) (pre caps : Array Value) (p : List Int → Bool) (hp : WantOk F pre caps m p w) :
    Calls Try.prog 80 #[.agg #[.int .i64 m.size, .slice a m.doors.length c, .slice b m.keys.length d], .agg (encO (M.behO m begun)).toArray, .func (.func F) pre caps] w (IntsOkPost w ((M.fstV p (M.srchL m begun)).drop begun.length) (M.fstB p (M.srchL m begun))) := by
  have H := Lib.hid h
  have HV := Lib.hid V
  have HP := Lib.hid hp
  have HSO := Lib.hid (M.srchL_ok hf (begun := begun) hio)
  have hlen := HSO.out.len hf
  have HS0 := Lib.hid (M.srchL_first m begun)
  have HOF := Lib.hid (fun W' (hq : Below w.heap.size w W') => openF_any W' lo hi m a b c d (h.below hq hz) (by have := hq.size; omega) V hf begun hio)
  obtain ⟨nd, hnd⟩ : ∃ nd, nd = begun.length := ⟨_, rfl⟩
  have HND := Lib.hid hnd
  rw [← hnd] at HOF
  rw [← hnd]
  generalize M.srchL m begun = SR at *
  clear h V hp hio hnd
  go_enter Try.func80, Try.ntmps80
  go_upto_region 1 with fail
  refine wp_named ?_
  intro W hW
  have X1 := Lib.hid (show Box3 W w.heap.size 29 (.int .i64 m.size) (.slice a m.doors.length c) (.slice b m.keys.length d) by rw [hW]; exact (Box3.new _ _ _ _ rfl).alloc _)
  have O1 := Lib.hid (show BoxO W (w.heap.size + 1) (M.behO m begun) by rw [hW]; simpa using BoxO.new (w.alloc (.cells #[.int .i64 m.size, .slice a m.doors.length c, .slice b m.keys.length d] 29)) (M.behO m begun))
  have HB := Lib.hid (show Below w.heap.size w W by rw [hW]; exact (below_alloc _ _).alloc (by simp) _)
  clear hW
  have hzw := HB.out.size
  obtain ⟨c0, c1, c2⟩ := X1.out.cells
  go_wp2_with (refine wpList_loadO rfl _ rfl _ rfl _ O1.out ?_)
  refine (HOF.out W HB.out).mono ?_
  rintro e w1 ⟨U, ao, co, rfl, hrow, hco, hco2, hls, hb1⟩
  have R1 := Lib.hid hrow
  have L1 := Lib.hid hls
  have B1 := Lib.hid (HB.out.trans (hb1.mono hzw))
  have hz1 := hb1.size
  clear hrow hls hb1 c0 c1 c2 O1
  go_wp2_with fail
  go_loopw [9, 14] (fun _ v wr => ∃ (i : Nat), i ≤ SR.length ∧ v = .int .i64 (i : Int) ∧ (∀ j (hj : j < SR.length), j < i → p SR[j] = false) ∧ Below w1.heap.size w1 wr) (fun _ v _ => SR.length - (intOf v).toNat)
  case atStart => exact ⟨0, Nat.zero_le _, rfl, fun j _ h => by omega, Below.refl _ _⟩
  case round =>
    obtain ⟨i, hii, rfl, hall, hbb⟩ := hrel
    have HA := Lib.hid hall
    have BB := Lib.hid hbb
    have hzr := hbb.size
    have L5 := Lib.hid (L1.out.below hbb)
    have BW := Lib.hid (B1.out.trans (hbb.mono (by omega)))
    clear hall hbb
    by_cases hil : i < SR.length
    · obtain ⟨u, hu, hrx, hcx, hcx2⟩ := L5.out.at_ hil
      obtain ⟨ua, uc⟩ := u
      obtain ⟨ob, ooff, rfl, _, hob, hrg⟩ := rowP_at (R1.out.below BB.out (Nat.le_refl _)) hu hil
      unfold slV7 at hrg
      have HIX := Lib.hid (HSO.out.open_ _ (List.getElem_mem hil))
      have HNXT := Lib.hid (fun (hq : p SR[i] = false) => show ∀ j (hj : j < SR.length), j < i + 1 → p SR[j] = false from fun j hj hji => by
        rcases Nat.lt_or_ge j i with h | h
        · exact HA.out j hj h
        · obtain rfl : j = i := by omega
          exact hq)
      have HFD := Lib.hid (fun (hq : p SR[i] = true) => M.fst_yes hil HA.out hq)
      have hi0 : 0 < i ∨ SR[i].drop nd = [] := by
        rcases Nat.eq_zero_or_pos i with h0 | h0
        · right
          subst h0
          have h1 := HS0.out
          rw [List.getElem?_eq_getElem hil] at h1
          injection h1 with h1
          rw [h1, HND.out]
          exact List.drop_length
        · exact .inl h0
      have HGV := Lib.hid (L5.out.give hil hu hi0)
      obtain ⟨x, hx⟩ : ∃ x, x = SR[i] := ⟨_, rfl⟩
      rw [← hx] at hrg hrx hcx HIX HFD HNXT HGV
      obtain ⟨y, hy⟩ : ∃ y, y = x.drop nd := ⟨_, rfl⟩
      have HY := Lib.hid hy
      rw [← hy] at hrg hcx HGV
      have HRG := Lib.hid hrg
      clear hu hrx hx hrg hi0 hy
      go_upto_region 4 with (first | (refine wpList_loadP rfl _ rfl _ _ rfl _ _ HRG.out ?_) | (refine wpList_storeP rfl _ _ rfl _ rfl _ _ rfl rfl (BoxP.zero _) ?_; intro W7 hP7 hT7))
      refine wp_named ?_
      intro W8 hW8
      obtain rfl : W8 = W7 := hW8
      have hb7 : Below wr.heap.size wr W8 := Below.thenTurned (below_alloc _ _) hT7 (by omega) (by simp)
      have hz7 := hb7.size
      have P7 := Lib.hid hP7
      obtain ⟨g8, hg8⟩ : ∃ g8, g8 = wr.heap.size := ⟨_, rfl⟩
      rw [← hg8] at P7
      rw [← hg8]
      have hg8l := P7.out.lt
      have B7 := Lib.hid (BW.out.trans (hb7.mono (by omega)))
      have BB7 := Lib.hid (BB.out.trans (hb7.mono hzr))
      have V7 := Lib.hid (HGV.out.below hb7 (Nat.le_refl _))
      clear hg8 hP7 hT7 HRG hb7
      have hC := HP.out W8 x HIX.out B7.out
      cases q1 : p x with
      | false =>
        rw [q1] at hC
        have HC := Lib.hid hC
        have HQ := Lib.hid q1
        clear q1 hC
        go_wp2_with (first | (refine wpList_loadQ rfl _ rfl _ _ rfl _ P7.out.range ?_) | (go_at_fn F; refine (HC.out).mono ?_; rintro e w5 ⟨rfl, hb5⟩))
        go_roundw
        case rel => exact ⟨i + 1, by omega, by go_num, HNXT.out HQ.out, BB7.out.trans (hb5.mono (by omega))⟩
        case measure => simp [intOf]; omega
      | true =>
        rw [q1] at hC
        have HC := Lib.hid hC
        have HF2 := Lib.hid (HFD.out q1)
        clear q1 hC
        go_wp2_with (first | (refine wpList_loadQ rfl _ rfl _ _ rfl _ P7.out.range ?_) | (go_at_fn F; refine (HC.out).mono ?_; rintro e w5 ⟨rfl, hb5⟩; have p0 := (P7.out.below hb5).list))
        go_ret2
        rw [HF2.out.1, HF2.out.2, ← HY.out]
        have hz5 := hb5.size
        exact ⟨ua, uc, rfl, (V7.out.below hb5 (by omega)).mono (by omega) (by omega), hcx, hcx2, B7.out.trans (hb5.mono (by omega))⟩
    · have hie : i = SR.length := by omega
      have HNF := Lib.hid (M.fst_no (p := p) (L := SR) fun j hj => HA.out j hj (by omega))
      clear hie
      go_wp2_with fail
      go_ret2
      rw [HNF.out.1, HNF.out.2, List.drop_nil]
      exact intsOk_end (l := []) (ownsRow_empty _ _ _ _ (by omega)) (BW.out.alloc (by omega) _)
end C
end Go.Proofs.Ythgmkkkfhbjhoaa
namespace Go.Proofs.Ythgmkkkfhbjhoaa
open Go.RowKit
namespace M
noncomputable def foV (m : Mz) (p : List Int → Bool) : List Int := if goodB m then fstV p (srchL m []) else []
noncomputable def foB (m : Mz) (p : List Int → Bool) : Bool := goodB m && fstB p (srchL m [])
theorem fo_no {m : Mz} (p : List Int → Bool) (h : goodB m = false) : foV m p = [] ∧ foB m p = false := by unfold foV foB; rw [h]; exact ⟨rfl, rfl⟩
theorem fo_yes {m : Mz} (p : List Int → Bool) (h : goodB m = true) : foV m p = fstV p (srchL m []) ∧ foB m p = fstB p (srchL m []) := by unfold foV foB; rw [h]; exact ⟨rfl, rfl⟩
end M
namespace C
set_option maxHeartbeats 6400000
set_option maxRecDepth 40000
theorem wantGoal (w : World) (lo hi : Nat) (m : M.Mz) (a b : Option Addr) (c d : Nat) (h : MzIn lo hi w m a c b d) (hz : hi ≤ w.heap.size) (V : M.Valid m) : WantOk 70 #[.agg #[.int .i64 m.size, .slice a m.doors.length c, .slice b m.keys.length d]] #[] m (M.winsB m) w := fun W x _ hb => by
  have := isGoal_any W lo hi m a b c d (h.below hb hz) (by have := hb.size; omega) V (M.behO m x)
  exact this
theorem wantStuck (w : World) (lo hi : Nat) (m : M.Mz) (a b : Option Addr) (c d : Nat) (h : MzIn lo hi w m a c b d) (hz : hi ≤ w.heap.size) (V : M.Valid m) : WantOk 74 #[.agg #[.int .i64 m.size, .slice a m.doors.length c, .slice b m.keys.length d]] #[] m (M.stuckB m) w := fun W x _ hb => by
  have := isStuck_any W lo hi m a b c d (h.below hb hz) (by have := hb.size; omega) V (M.behO m x)
  exact this
theorem WantOk.below {F : FuncId} {pre caps : Array Value} {m : M.Mz} {p : List Int → Bool} {w W : World} (h : WantOk F pre caps m p w) (hb : Below w.heap.size w W) : WantOk F pre caps m p W := fun W' x hx hb' => h W' x hx (hb.trans (hb'.mono hb.size))
theorem firstOpening_any (w : World) (lo hi : Nat) (m : M.Mz) (a b : Option Addr) (c d : Nat) (h : MzIn lo hi w m a c b d) (hz : hi ≤ w.heap.size) (_h1 : m.doors.length ≤ 1048576) (_h2 : m.keys.length ≤ 1048576) (F : FuncId) (eg : ∀ args w, (callFunc F args).run Try.prog w = .ok (.enter F args) w) (pre caps : Array Value) (p : List Int → Bool) (hp : M.goodB m = true → WantOk F pre caps m p w) :
    Calls Try.prog 72 #[.agg #[.int .i64 m.size, .slice a m.doors.length c, .slice b m.keys.length d], .func (.func F) pre caps] w (IntsOkPost w (M.foV m p) (M.foB m p)) := by
  have H := Lib.hid h
  have HP0 := Lib.hid hp
  have HH1 := Lib.hid _h1
  have HH2 := Lib.hid _h2
  clear h hp
  go_enter Try.func72, Try.ntmps72
  go_upto_region 1 with fail
  refine wp_named ?_
  intro W hW
  have X1 := Lib.hid (show Box3 W w.heap.size 29 (.int .i64 m.size) (.slice a m.doors.length c) (.slice b m.keys.length d) by rw [hW]; exact Box3.new _ _ _ _ rfl)
  have HB := Lib.hid (show Below w.heap.size w W by rw [hW]; exact below_alloc _ _)
  clear hW
  have hzw := HB.out.size
  have hwl := X1.out.lt
  obtain ⟨c0, c1, c2⟩ := X1.out.cells
  go_wp2_with fail
  refine (isLock_any W lo hi m a b c d (H.out.below HB.out hz) (by omega) HH1.out HH2.out).mono ?_
  rintro e w1 ⟨rfl, hb1⟩
  have X2 := Lib.hid (X1.out.below hb1)
  have B2 := Lib.hid (HB.out.trans (hb1.mono hzw))
  have hz1 := hb1.size
  clear hb1 c0 c1 c2
  cases q0 : M.goodB m with
  | false =>
    have HG := Lib.hid (M.fo_no p q0)
    clear q0
    go_wp2_with fail
    go_ret2
    rw [HG.out.1, HG.out.2]
    exact intsOk_end (l := []) (ownsRow_empty _ _ _ _ (by omega)) (B2.out.alloc (by omega) _)
  | true =>
    have HV := Lib.hid (M.valid_of (M.good_maze q0))
    have hf := M.good_few q0
    have HP := Lib.hid (fun (W' : World) (hq : Below w.heap.size w W') => (HP0.out q0).below hq)
    have HG := Lib.hid (M.fo_yes p q0)
    clear q0
    go_upto_region 3 with fail
    refine wp_region_late2 (fun (wq : World) => wq.cell? ⟨w.heap.size, 0, none⟩ = some (.int .i64 m.size) ∧ wq.cell? ⟨w.heap.size, 1, none⟩ = some (.slice a m.doors.length c) ∧ wq.cell? ⟨w.heap.size, 2, none⟩ = some (.slice b m.keys.length d)) [] 9 #[false, false, false, false, false, false, false, false, false] rfl rfl (by kernel_rfl) ?_
    have hS : (fun (wq : World) => wq.cell? ⟨w.heap.size, 0, none⟩ = some (.int .i64 m.size) ∧ wq.cell? ⟨w.heap.size, 1, none⟩ = some (.slice a m.doors.length c) ∧ wq.cell? ⟨w.heap.size, 2, none⟩ = some (.slice b m.keys.length d)) w1.drew := X2.out.cells
    refine wpAnyL_take (i := 0) (oi := { dst := some 10, op := Go.Op.load 29 (Go.Operand.tmp 2), type := 29, pos := "l7_spent.go:150", after := #[], guard := none }) (v := ?fv0) rfl (by kernel_rfl) (by kernel_rfl) (by kernel_rfl) (by kernel_rfl) (fun _ _ _ h => h) (Or.inl ⟨by rfl, ?fh0⟩) hS ?fr0
    case fh0 => (intro wS hSw; (try dsimp only at hSw); go_split_ands; go_simp; try with_reducible rfl)
    try simp only [Act.put, List.setIfInBounds_toArray, List.set_cons_zero, List.set_cons_succ]
    refine wpAnyL_take (i := 1) (oi := { dst := some 11, op := Go.Op.load 29 (Go.Operand.tmp 2), type := 29, pos := "l7_spent.go:150", after := #[], guard := none }) (v := ?fv1) rfl (by kernel_rfl) (by kernel_rfl) (by kernel_rfl) (by kernel_rfl) (fun _ _ _ h => h) (Or.inl ⟨by rfl, ?fh1⟩) hS ?fr1
    case fh1 => (intro wS hSw; (try dsimp only at hSw); go_split_ands; go_simp; try with_reducible rfl)
    try simp only [Act.put, List.setIfInBounds_toArray, List.set_cons_zero, List.set_cons_succ]
    refine wpAnyL_take (i := 3) (oi := { dst := some 13, op := Go.Op.move (Go.Operand.tmp 1), type := 59, pos := "l7_spent.go:150", after := #[], guard := none }) (v := ?fv3) rfl (by kernel_rfl) (by kernel_rfl) (by kernel_rfl) (by kernel_rfl) (fun _ _ _ h => h) (Or.inl ⟨by rfl, ?fh3⟩) hS ?fr3
    case fh3 => (intro wS hSw; (try dsimp only at hSw); go_split_ands; go_simp; try with_reducible rfl)
    try simp only [Act.put, List.setIfInBounds_toArray, List.set_cons_zero, List.set_cons_succ]
    refine wpAnyL_one (i := 2) (oi := { dst := some 12, op := Go.Op.call { callee := Go.Callee.value (Go.Operand.func 76), args := #[Go.Operand.tmp 11], argTypes := #[29] }, type := 52, pos := "l7_spent.go:150", after := #[{ on := 1, ground := Go.Ground.data }], guard := none }) (by kernel_rfl) rfl (fun Kf2 hKf2 => ?_)
    refine step_call (by rfl) 76 #[.agg #[.int .i64 m.size, .slice a m.doors.length c, .slice b m.keys.length d]] (by go_simp; try rfl) (openFirst_any w1.drew lo hi m a b c d (H.out.below (B2.out.drew) hz) (by show hi ≤ w1.heap.size; omega) HV.out) ?_
    rintro e w5 ⟨rfl, hb5⟩
    refine ⟨_, rfl, ?_⟩
    have hb5x : Below w1.heap.size w1 w5 := (Below.refl w1.heap.size w1).drew.trans hb5
    have X5 := Lib.hid (X2.out.below hb5x)
    have B5 := Lib.hid (B2.out.trans (hb5x.mono (by omega)))
    have hz5 := hb5x.size
    have hs5 : (fun (wq : World) => wq.cell? ⟨w.heap.size, 0, none⟩ = some (.int .i64 m.size) ∧ wq.cell? ⟨w.heap.size, 1, none⟩ = some (.slice a m.doors.length c) ∧ wq.cell? ⟨w.heap.size, 2, none⟩ = some (.slice b m.keys.length d)) w5 := X5.out.cells
    refine hKf2 _ _ (fun _ => hs5) ?_
    clear hS
    have hS := hs5
    try simp only [Act.put, List.setIfInBounds_toArray, List.set_cons_zero, List.set_cons_succ]
    refine wpAnyL_one (i := 4) (oi := { dst := some 14, op := Go.Op.call { callee := Go.Callee.value (Go.Operand.func 80), args := #[Go.Operand.tmp 10, Go.Operand.tmp 12, Go.Operand.tmp 13], argTypes := #[29, 52, 59] }, type := 27, pos := "l7_spent.go:150", after := #[{ on := 0, ground := Go.Ground.data }, { on := 2, ground := Go.Ground.data }, { on := 3, ground := Go.Ground.data }, { on := 2, ground := Go.Ground.chain }], guard := none }) (by kernel_rfl) rfl (fun Kf4 hKf4 => ?_)
    refine step_call (by rfl) 80 #[.agg #[.int .i64 m.size, .slice a m.doors.length c, .slice b m.keys.length d], .agg (encO (M.behO m [])).toArray, .func (.func F) pre caps] (by go_simp; try rfl) (firstFrom_any w5 lo hi m a b c d (H.out.below B5.out hz) (by omega) HV.out hf [] rfl F eg pre caps p (HP.out _ B5.out)) ?_
    rintro e w6 ⟨ra, rc, rfl, hr, hr1, hr2, hb6⟩
    refine ⟨_, rfl, ?_⟩
    have B6 := Lib.hid (B5.out.trans (hb6.mono (by omega)))
    have X6 := Lib.hid (X5.out.below hb6)
    have hs6 : (fun (wq : World) => wq.cell? ⟨w.heap.size, 0, none⟩ = some (.int .i64 m.size) ∧ wq.cell? ⟨w.heap.size, 1, none⟩ = some (.slice a m.doors.length c) ∧ wq.cell? ⟨w.heap.size, 2, none⟩ = some (.slice b m.keys.length d)) w6 := X6.out.cells
    refine hKf4 _ _ (fun _ => hs6) ?_
    clear hS
    have hS := hs6
    try simp only [Act.put, List.setIfInBounds_toArray, List.set_cons_zero, List.set_cons_succ]
    refine wpAnyL_take (i := 5) (oi := { dst := some 15, op := Go.Op.extract (Go.Operand.tmp 14) 0, type := 23, pos := "l7_spent.go:150", after := #[{ on := 4, ground := Go.Ground.data }], guard := none }) (v := ?fv5) rfl (by kernel_rfl) (by kernel_rfl) (by kernel_rfl) (by kernel_rfl) (fun _ _ _ h => h) (Or.inl ⟨by rfl, ?fh5⟩) hS ?fr5
    case fh5 => (intro wS hSw; (try dsimp only at hSw); go_split_ands; go_simp; try with_reducible rfl)
    try simp only [Act.put, List.setIfInBounds_toArray, List.set_cons_zero, List.set_cons_succ]
    refine wpAnyL_take (i := 6) (oi := { dst := some 16, op := Go.Op.extract (Go.Operand.tmp 14) 1, type := 4, pos := "l7_spent.go:150", after := #[{ on := 4, ground := Go.Ground.data }], guard := none }) (v := ?fv6) rfl (by kernel_rfl) (by kernel_rfl) (by kernel_rfl) (by kernel_rfl) (fun _ _ _ h => h) (Or.inl ⟨by rfl, ?fh6⟩) hS ?fr6
    case fh6 => (intro wS hSw; (try dsimp only at hSw); go_split_ands; go_simp; try with_reducible rfl)
    try simp only [Act.put, List.setIfInBounds_toArray, List.set_cons_zero, List.set_cons_succ]
    refine wpAnyL_take (i := 7) (oi := { dst := some 4, op := Go.Op.assign (Go.Operand.tmp 15), type := 23, pos := "l7_spent.go:150", after := #[{ on := 5, ground := Go.Ground.data }, { on := 4, ground := Go.Ground.chain }, { on := 0, ground := Go.Ground.phase }, { on := 1, ground := Go.Ground.phase }, { on := 2, ground := Go.Ground.phase }, { on := 3, ground := Go.Ground.phase }, { on := 4, ground := Go.Ground.phase }, { on := 5, ground := Go.Ground.phase }, { on := 6, ground := Go.Ground.phase }], guard := none }) (v := ?fv7) rfl (by kernel_rfl) (by kernel_rfl) (by kernel_rfl) (by kernel_rfl) (fun _ _ _ h => h) (Or.inl ⟨by rfl, ?fh7⟩) hS ?fr7
    case fh7 => (intro wS hSw; (try dsimp only at hSw); go_split_ands; go_simp; try with_reducible rfl)
    try simp only [Act.put, List.setIfInBounds_toArray, List.set_cons_zero, List.set_cons_succ]
    refine wpAnyL_take (i := 8) (oi := { dst := some 5, op := Go.Op.assign (Go.Operand.tmp 16), type := 4, pos := "l7_spent.go:150", after := #[{ on := 6, ground := Go.Ground.data }, { on := 7, ground := Go.Ground.chain }, { on := 0, ground := Go.Ground.phase }, { on := 1, ground := Go.Ground.phase }, { on := 2, ground := Go.Ground.phase }, { on := 3, ground := Go.Ground.phase }, { on := 4, ground := Go.Ground.phase }, { on := 5, ground := Go.Ground.phase }, { on := 6, ground := Go.Ground.phase }, { on := 7, ground := Go.Ground.phase }], guard := none }) (v := ?fv8) rfl (by kernel_rfl) (by kernel_rfl) (by kernel_rfl) (by kernel_rfl) (fun _ _ _ h => h) (Or.inl ⟨by rfl, ?fh8⟩) hS ?fr8
    case fh8 => (intro wS hSw; (try dsimp only at hSw); go_split_ands; go_simp; try with_reducible rfl)
    try simp only [Act.put, List.setIfInBounds_toArray, List.set_cons_zero, List.set_cons_succ]
    refine wpAnyL_done (by kernel_rfl) ?_ _
    have hr' := hr.mono (lo' := w.heap.size) (hi' := w6.heap.size) (by omega) (Nat.le_refl _)
    have HR := Lib.hid hr'
    clear hr hr' hs5 hs6 hS
    go_wp2_with fail
    go_ret2
    rw [HG.out.1, HG.out.2]
    exact ⟨ra, rc, rfl, HR.out, hr1, hr2, B6.out⟩
theorem implFw_lw (w : World) (lo hi : Nat) (m : M.Mz) (a b : Option Addr) (c d : Nat) (h : MzIn lo hi w m a c b d) (hz : hi ≤ w.heap.size) (_h1 : m.doors.length ≤ 1048576) (_h2 : m.keys.length ≤ 1048576) :
    Calls Try.prog 37 #[.agg #[.int .i64 m.size, .slice a m.doors.length c, .slice b m.keys.length d]] w (IntsOkPost w (M.fwV m) (M.fwB m)) := by
  have H := Lib.hid h
  have HH1 := Lib.hid _h1
  have HH2 := Lib.hid _h2
  clear h
  go_enter Try.func37, Try.ntmps37
  go_upto_region 1 with fail
  refine wp_named ?_
  intro W hW
  have X1 := Lib.hid (show Box3 W w.heap.size 29 (.int .i64 m.size) (.slice a m.doors.length c) (.slice b m.keys.length d) by rw [hW]; exact Box3.new _ _ _ _ rfl)
  have HB := Lib.hid (show Below w.heap.size w W by rw [hW]; exact below_alloc _ _)
  clear hW
  have hzw := HB.out.size
  have hwl := X1.out.lt
  obtain ⟨c0, c1, c2⟩ := X1.out.cells
  go_wp2_with fail
  have hfo : Calls Try.prog 72 #[.agg #[.int .i64 m.size, .slice a m.doors.length c, .slice b m.keys.length d], .func (.func 70) #[.agg #[.int .i64 m.size, .slice a m.doors.length c, .slice b m.keys.length d]] #[]] W (IntsOkPost W (M.fwV m) (M.fwB m)) := (firstOpening_any W lo hi m a b c d (H.out.below HB.out hz) (by omega) HH1.out HH2.out 70 (enters_of Try.func70 (by kernel_rfl) rfl) #[.agg #[.int .i64 m.size, .slice a m.doors.length c, .slice b m.keys.length d]] #[] (M.winsB m) (fun hg => wantGoal W lo hi m a b c d (H.out.below HB.out hz) (by omega) (M.valid_of (M.good_maze hg))))
  refine hfo.mono ?_
  clear hfo
  rintro e w1 ⟨ra, rc, rfl, hr, hr1, hr2, hb1⟩
  have hr' := hr.mono (lo' := w.heap.size) (hi' := w1.heap.size) (by omega) (Nat.le_refl _)
  have HR := Lib.hid hr'
  have B2 := Lib.hid (HB.out.trans (hb1.mono hzw))
  clear hr hr' hb1 c0 c1 c2
  go_wp2_with fail
  go_ret2
  exact ⟨ra, rc, rfl, HR.out, hr1, hr2, B2.out⟩
theorem implFs_lw (w : World) (lo hi : Nat) (m : M.Mz) (a b : Option Addr) (c d : Nat) (h : MzIn lo hi w m a c b d) (hz : hi ≤ w.heap.size) (_h1 : m.doors.length ≤ 1048576) (_h2 : m.keys.length ≤ 1048576) :
    Calls Try.prog 39 #[.agg #[.int .i64 m.size, .slice a m.doors.length c, .slice b m.keys.length d]] w (IntsOkPost w (M.fsV m) (M.fsB m)) := by
  have H := Lib.hid h
  have HH1 := Lib.hid _h1
  have HH2 := Lib.hid _h2
  clear h
  go_enter Try.func39, Try.ntmps39
  go_upto_region 1 with fail
  refine wp_named ?_
  intro W hW
  have X1 := Lib.hid (show Box3 W w.heap.size 29 (.int .i64 m.size) (.slice a m.doors.length c) (.slice b m.keys.length d) by rw [hW]; exact Box3.new _ _ _ _ rfl)
  have HB := Lib.hid (show Below w.heap.size w W by rw [hW]; exact below_alloc _ _)
  clear hW
  have hzw := HB.out.size
  have hwl := X1.out.lt
  obtain ⟨c0, c1, c2⟩ := X1.out.cells
  go_wp2_with fail
  have hfo : Calls Try.prog 72 #[.agg #[.int .i64 m.size, .slice a m.doors.length c, .slice b m.keys.length d], .func (.func 74) #[.agg #[.int .i64 m.size, .slice a m.doors.length c, .slice b m.keys.length d]] #[]] W (IntsOkPost W (M.fsV m) (M.fsB m)) := (firstOpening_any W lo hi m a b c d (H.out.below HB.out hz) (by omega) HH1.out HH2.out 74 (enters_of Try.func74 (by kernel_rfl) rfl) #[.agg #[.int .i64 m.size, .slice a m.doors.length c, .slice b m.keys.length d]] #[] (M.stuckB m) (fun hg => wantStuck W lo hi m a b c d (H.out.below HB.out hz) (by omega) (M.valid_of (M.good_maze hg))))
  refine hfo.mono ?_
  clear hfo
  rintro e w1 ⟨ra, rc, rfl, hr, hr1, hr2, hb1⟩
  have hr' := hr.mono (lo' := w.heap.size) (hi' := w1.heap.size) (by omega) (Nat.le_refl _)
  have HR := Lib.hid hr'
  have B2 := Lib.hid (HB.out.trans (hb1.mono hzw))
  clear hr hr' hb1 c0 c1 c2
  go_wp2_with fail
  go_ret2
  exact ⟨ra, rc, rfl, HR.out, hr1, hr2, B2.out⟩
theorem implSafe_lw (w : World) (lo hi : Nat) (m : M.Mz) (a b : Option Addr) (c d : Nat) (h : MzIn lo hi w m a c b d) (hz : hi ≤ w.heap.size) (_h1 : m.doors.length ≤ 1048576) (_h2 : m.keys.length ≤ 1048576) :
    Calls Try.prog 41 #[.agg #[.int .i64 m.size, .slice a m.doors.length c, .slice b m.keys.length d]] w (BoolOkPost w (M.safeV m) (M.goodB m)) := by
  have H := Lib.hid h
  have HH1 := Lib.hid _h1
  have HH2 := Lib.hid _h2
  clear h
  go_enter Try.func41, Try.ntmps41
  go_upto_region 1 with fail
  refine wp_named ?_
  intro W hW
  have X1 := Lib.hid (show Box3 W w.heap.size 29 (.int .i64 m.size) (.slice a m.doors.length c) (.slice b m.keys.length d) by rw [hW]; exact Box3.new _ _ _ _ rfl)
  have HB := Lib.hid (show Below w.heap.size w W by rw [hW]; exact below_alloc _ _)
  clear hW
  have hzw := HB.out.size
  have hwl := X1.out.lt
  obtain ⟨c0, c1, c2⟩ := X1.out.cells
  go_wp2_with fail
  refine (isLock_any W lo hi m a b c d (H.out.below HB.out hz) (by omega) HH1.out HH2.out).mono ?_
  rintro e w1 ⟨rfl, hb1⟩
  have X2 := Lib.hid (X1.out.below hb1)
  have B2 := Lib.hid (HB.out.trans (hb1.mono hzw))
  have hz1 := hb1.size
  clear hb1 c0 c1 c2
  have HSV : Hid (M.safeV m = (M.goodB m && !M.fsB m)) := Lib.hid rfl
  cases q0 : M.goodB m with
  | false =>
    have HG := Lib.hid q0
    clear q0
    go_wp2_with fail
    go_ret2
    exact ⟨by rw [HSV.out, HG.out]; rfl, B2.out⟩
  | true =>
    have HG := Lib.hid q0
    clear q0
    obtain ⟨c0, c1, c2⟩ := X2.out.cells
    go_wp2_with fail
    refine (implFs_lw w1 lo hi m a b c d (H.out.below B2.out hz) (by omega) HH1.out HH2.out).mono ?_
    rintro e w5 ⟨ra, rc, rfl, _, _, _, hb5⟩
    have B5 := Lib.hid (B2.out.trans (hb5.mono (by omega)))
    clear hb5 c0 c1 c2
    cases q1 : M.fsB m <;>
    · have HQ := Lib.hid q1
      clear q1
      go_wp2_with fail
      go_ret2
      exact ⟨by rw [HSV.out, HG.out, HQ.out]; rfl, B5.out⟩
theorem implCs_lw (w : World) (lo hi : Nat) (m : M.Mz) (a b : Option Addr) (c d : Nat) (h : MzIn lo hi w m a c b d) (hz : hi ≤ w.heap.size) (_h1 : m.doors.length ≤ 1048576) (_h2 : m.keys.length ≤ 1048576) :
    Calls Try.prog 43 #[.agg #[.int .i64 m.size, .slice a m.doors.length c, .slice b m.keys.length d]] w fun e w' => e = .returned (.tuple #[.int .i64 (M.csV m), .bool (M.goodB m)]) ∧ Below w.heap.size w w' := by
  have H := Lib.hid h
  have HH1 := Lib.hid _h1
  have HH2 := Lib.hid _h2
  clear h
  go_enter Try.func43, Try.ntmps43
  go_upto_region 1 with fail
  refine wp_named ?_
  intro W hW
  have X1 := Lib.hid (show Box3 W w.heap.size 29 (.int .i64 m.size) (.slice a m.doors.length c) (.slice b m.keys.length d) by rw [hW]; exact Box3.new _ _ _ _ rfl)
  have HB := Lib.hid (show Below w.heap.size w W by rw [hW]; exact below_alloc _ _)
  clear hW
  have hzw := HB.out.size
  have hwl := X1.out.lt
  obtain ⟨c0, c1, c2⟩ := X1.out.cells
  go_wp2_with fail
  refine (isLock_any W lo hi m a b c d (H.out.below HB.out hz) (by omega) HH1.out HH2.out).mono ?_
  rintro e w1 ⟨rfl, hb1⟩
  have X2 := Lib.hid (X1.out.below hb1)
  have B2 := Lib.hid (HB.out.trans (hb1.mono hzw))
  have hz1 := hb1.size
  clear hb1 c0 c1 c2
  cases q0 : M.goodB m with
  | false =>
    have HG := Lib.hid (show M.csV m = 0 by unfold M.csV; rw [q0]; rfl)
    have HQ := Lib.hid q0
    clear q0
    go_wp2_with fail
    go_ret2
    exact ⟨by rw [HG.out, HQ.out]; rfl, B2.out⟩
  | true =>
    have HG := Lib.hid (show M.csV m = ((M.srchL m []).length : Int) by unfold M.csV; rw [q0]; rfl)
    have HQ := Lib.hid q0
    have HV := Lib.hid (M.valid_of (M.good_maze q0))
    have hf := M.good_few q0
    have hlen := M.srchL_len hf (begun := []) rfl
    clear q0
    go_upto_region 3 with fail
    refine wp_region_late2 (fun (wq : World) => wq.cell? ⟨w.heap.size, 0, none⟩ = some (.int .i64 m.size) ∧ wq.cell? ⟨w.heap.size, 1, none⟩ = some (.slice a m.doors.length c) ∧ wq.cell? ⟨w.heap.size, 2, none⟩ = some (.slice b m.keys.length d)) [] 7 #[false, false, false, false, false, false, false] rfl rfl (by kernel_rfl) ?_
    have hS : (fun (wq : World) => wq.cell? ⟨w.heap.size, 0, none⟩ = some (.int .i64 m.size) ∧ wq.cell? ⟨w.heap.size, 1, none⟩ = some (.slice a m.doors.length c) ∧ wq.cell? ⟨w.heap.size, 2, none⟩ = some (.slice b m.keys.length d)) w1.drew := X2.out.cells
    refine wpAnyL_take (i := 0) (oi := { dst := some 7, op := Go.Op.load 29 (Go.Operand.tmp 1), type := 29, pos := "l7_spent.go:236", after := #[], guard := none }) (v := ?fv0) rfl (by kernel_rfl) (by kernel_rfl) (by kernel_rfl) (by kernel_rfl) (fun _ _ _ h => h) (Or.inl ⟨by rfl, ?fh0⟩) hS ?fr0
    case fh0 => (intro wS hSw; (try dsimp only at hSw); go_split_ands; go_simp; try with_reducible rfl)
    try simp only [Act.put, List.setIfInBounds_toArray, List.set_cons_zero, List.set_cons_succ]
    refine wpAnyL_take (i := 1) (oi := { dst := some 8, op := Go.Op.load 29 (Go.Operand.tmp 1), type := 29, pos := "l7_spent.go:236", after := #[], guard := none }) (v := ?fv1) rfl (by kernel_rfl) (by kernel_rfl) (by kernel_rfl) (by kernel_rfl) (fun _ _ _ h => h) (Or.inl ⟨by rfl, ?fh1⟩) hS ?fr1
    case fh1 => (intro wS hSw; (try dsimp only at hSw); go_split_ands; go_simp; try with_reducible rfl)
    try simp only [Act.put, List.setIfInBounds_toArray, List.set_cons_zero, List.set_cons_succ]
    refine wpAnyL_one (i := 2) (oi := { dst := some 9, op := Go.Op.call { callee := Go.Callee.value (Go.Operand.func 76), args := #[Go.Operand.tmp 8], argTypes := #[29] }, type := 52, pos := "l7_spent.go:236", after := #[{ on := 1, ground := Go.Ground.data }], guard := none }) (by kernel_rfl) rfl (fun Kf2 hKf2 => ?_)
    refine step_call (by rfl) 76 #[.agg #[.int .i64 m.size, .slice a m.doors.length c, .slice b m.keys.length d]] (by go_simp; try rfl) (openFirst_any w1.drew lo hi m a b c d (H.out.below (B2.out.drew) hz) (by show hi ≤ w1.heap.size; omega) HV.out) ?_
    rintro e w5 ⟨rfl, hb5⟩
    refine ⟨_, rfl, ?_⟩
    have hb5x : Below w1.heap.size w1 w5 := (Below.refl w1.heap.size w1).drew.trans hb5
    have X5 := Lib.hid (X2.out.below hb5x)
    have B5 := Lib.hid (B2.out.trans (hb5x.mono (by omega)))
    have hz5 := hb5x.size
    have hs5 : (fun (wq : World) => wq.cell? ⟨w.heap.size, 0, none⟩ = some (.int .i64 m.size) ∧ wq.cell? ⟨w.heap.size, 1, none⟩ = some (.slice a m.doors.length c) ∧ wq.cell? ⟨w.heap.size, 2, none⟩ = some (.slice b m.keys.length d)) w5 := X5.out.cells
    refine hKf2 _ _ (fun _ => hs5) ?_
    clear hS
    have hS := hs5
    try simp only [Act.put, List.setIfInBounds_toArray, List.set_cons_zero, List.set_cons_succ]
    refine wpAnyL_one (i := 3) (oi := { dst := some 10, op := Go.Op.call { callee := Go.Callee.value (Go.Operand.func 75), args := #[Go.Operand.tmp 7, Go.Operand.tmp 9], argTypes := #[29, 52] }, type := 65, pos := "l7_spent.go:236", after := #[{ on := 0, ground := Go.Ground.data }, { on := 2, ground := Go.Ground.data }, { on := 2, ground := Go.Ground.chain }], guard := none }) (by kernel_rfl) rfl (fun Kf3 hKf3 => ?_)
    refine step_call (by rfl) 75 #[.agg #[.int .i64 m.size, .slice a m.doors.length c, .slice b m.keys.length d], .agg (encO (M.behO m [])).toArray] (by go_simp; try rfl) (openF_any w5 lo hi m a b c d (H.out.below B5.out hz) (by omega) HV.out hf [] rfl) ?_
    rintro e w6 ⟨U, ao, co, rfl, hrow, hco, hco2, hls, hb6⟩
    refine ⟨_, rfl, ?_⟩
    have B6 := Lib.hid (B5.out.trans (hb6.mono (by omega)))
    have X6 := Lib.hid (X5.out.below hb6)
    have hs6 : (fun (wq : World) => wq.cell? ⟨w.heap.size, 0, none⟩ = some (.int .i64 m.size) ∧ wq.cell? ⟨w.heap.size, 1, none⟩ = some (.slice a m.doors.length c) ∧ wq.cell? ⟨w.heap.size, 2, none⟩ = some (.slice b m.keys.length d)) w6 := X6.out.cells
    refine hKf3 _ _ (fun _ => hs6) ?_
    clear hS
    have hS := hs6
    try simp only [Act.put, List.setIfInBounds_toArray, List.set_cons_zero, List.set_cons_succ]
    refine wpAnyL_take (i := 4) (oi := { dst := some 11, op := Go.Op.call { callee := Go.Callee.builtin Go.Builtin.len, args := #[Go.Operand.tmp 10], argTypes := #[65] }, type := 3, pos := "l7_spent.go:236", after := #[{ on := 3, ground := Go.Ground.data }], guard := none }) (v := ?fv4) rfl (by kernel_rfl) (by kernel_rfl) (by kernel_rfl) (by kernel_rfl) (fun _ _ _ h => h) (Or.inl ⟨by rfl, ?fh4⟩) hS ?fr4
    case fh4 => (intro wS hSw; (try dsimp only at hSw); go_split_ands; go_simp; try with_reducible rfl)
    try simp only [Act.put, List.setIfInBounds_toArray, List.set_cons_zero, List.set_cons_succ]
    refine wpAnyL_take (i := 5) (oi := { dst := some 2, op := Go.Op.assign (Go.Operand.tmp 11), type := 3, pos := "l7_spent.go:236", after := #[{ on := 4, ground := Go.Ground.data }, { on := 3, ground := Go.Ground.chain }, { on := 0, ground := Go.Ground.phase }, { on := 1, ground := Go.Ground.phase }, { on := 2, ground := Go.Ground.phase }, { on := 3, ground := Go.Ground.phase }, { on := 4, ground := Go.Ground.phase }], guard := none }) (v := ?fv5) rfl (by kernel_rfl) (by kernel_rfl) (by kernel_rfl) (by kernel_rfl) (fun _ _ _ h => h) (Or.inl ⟨by rfl, ?fh5⟩) hS ?fr5
    case fh5 => (intro wS hSw; (try dsimp only at hSw); go_split_ands; go_simp; try with_reducible rfl)
    try simp only [Act.put, List.setIfInBounds_toArray, List.set_cons_zero, List.set_cons_succ]
    refine wpAnyL_take (i := 6) (oi := { dst := some 3, op := Go.Op.assign (Go.Operand.const (Go.Value.bool true)), type := 4, pos := "l7_spent.go:236", after := #[{ on := 5, ground := Go.Ground.chain }, { on := 0, ground := Go.Ground.phase }, { on := 1, ground := Go.Ground.phase }, { on := 2, ground := Go.Ground.phase }, { on := 3, ground := Go.Ground.phase }, { on := 4, ground := Go.Ground.phase }, { on := 5, ground := Go.Ground.phase }], guard := none }) (v := ?fv6) rfl (by kernel_rfl) (by kernel_rfl) (by kernel_rfl) (by kernel_rfl) (fun _ _ _ h => h) (Or.inl ⟨by rfl, ?fh6⟩) hS ?fr6
    case fh6 => (intro wS hSw; (try dsimp only at hSw); go_split_ands; go_simp; try with_reducible rfl)
    try simp only [Act.put, List.setIfInBounds_toArray, List.set_cons_zero, List.set_cons_succ]
    refine wpAnyL_done (by kernel_rfl) ?_ _
    clear hrow hls hs5 hs6 hS
    go_wp2_with fail
    go_ret2
    exact ⟨by rw [HG.out, HQ.out]; rfl, B6.out⟩
end C
end Go.Proofs.Ythgmkkkfhbjhoaa
