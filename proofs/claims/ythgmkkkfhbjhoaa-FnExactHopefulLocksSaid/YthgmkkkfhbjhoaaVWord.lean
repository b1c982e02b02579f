/-
  WORDS for a map from arrays of reports to bools, own to these proofs: which arrays such a map holds; look-up and store. No condition.
  WORDS for lists in memory that a search has found, own to these proofs: each list lies in a block that is not written any more; which blocks may still be written. No condition.
  MATHEMATICS of what a search begins with, own to these proofs. No condition.
  CONTRACTS of slices.Clone at numbers and doors and of impl.Maze.clone: rows that the call owns and that may grow; what lay in memory stays. Condition: at most 1048576 elements.
  CONTRACT of spec.l1Own: a copy in a row of the call's own that may grow; what lay in memory stays. Condition: at most 1048576 numbers.
  LAW for a region that draws its order, own to these proofs: where two operations may come up. No condition.
  CONTRACT of spec.l7Code: the set of an opening by binary digits; memory stays. Condition: at most ten locks, lists that read so.
-/
import Derived.Test.YthgmkkkfhbjhoaaVNear
import Derived.Maps.Own
import Derived.Maps.OwnSet
import Derived.WideKeyPair
import Derived.Test.YthgmkkkfhbjhoaaVMath
import Derived.Test.YthgmkkkfhbjhoaaOwnQ
import Derived.Test.YthgmkkkfhbjhoaaSets
import Derived.Test.YthgmkkkfhbjhoaaOwnMaz
import Derived.Test.YthgmkkkfhbjhoaaCopy
import Derived.Test.YthgmkkkfhbjhoaaLate
import Derived.Test.YthgmkkkfhbjhoaaHas
import Derived.Test.YthgmkkkfhbjhoaaReachI
namespace Go.Proofs.Ythgmkkkfhbjhoaa
open Go.RowKit
namespace C
set_option maxHeartbeats 800000
set_option maxRecDepth 20000
theorem arrO : WideMaps.ArrKey Try.prog 52 4 30 := ⟨Try.underlying52, by kernel_rfl, by kernel_rfl, by kernel_rfl⟩
theorem lawO : Maps.Keyed Try.prog 52 := Maps.Keyed.of_law arrO.law
theorem sizeO : ∃ m, Try.prog.types.size = m + 1 := ⟨Try.prog.types.size - 1, by kernel_rfl⟩
theorem mapO : Try.prog.underlying 83 = some (.map 52 4) := Try.underlying83
theorem zeroB7 (w : World) : (zeroValue 4).run Try.prog w = .ok (.bool false) w := by kernel_rfl
theorem keyO_ex (o : M.Op) : ∃ l, keyOf Try.prog 52 (.agg (encO o).toArray) = some l := by
  have hkt := arrO.keyType sizeO
  obtain ⟨m, hm⟩ := sizeO
  have hmap : ∀ L : List Nat, (∀ i ∈ L, i < 30) → ∃ ys, L.mapM (fun i => Try.prog.keyLits (m + 1) 4 (((encO o).drop (i * 1)).take 1)) = some ys := by
    intro L
    induction L with
    | nil => intro _; exact ⟨[], rfl⟩
    | cons i L ih =>
      intro hL
      obtain ⟨ys, hy⟩ := ih fun j hj => hL j (List.mem_cons_of_mem _ hj)
      have hi := hL i (List.mem_cons_self ..)
      have he : ((encO o).drop (i * 1)).take 1 = [.bool (o i)] := by
        rw [Nat.mul_one]
        refine List.ext_getElem? fun j => ?_
        rw [List.getElem?_take, List.getElem?_drop]
        cases j with
        | zero => rw [if_pos (by omega), Nat.add_zero, encO_at o hi]; rfl
        | succ j => rw [if_neg (by omega)]; simp
      refine ⟨[.bool (o i)] :: ys, ?_⟩
      rw [List.mapM_cons, hy, he]
      simp [Program.keyLits, Try.underlying4]
  obtain ⟨ys, hy⟩ := hmap (List.range 30) fun i hi => List.mem_range.1 hi
  refine ⟨.string (keyBytes ys.flatten), ?_⟩
  unfold keyOf
  simp only [arrO.hu]
  rw [if_pos (by simp [hkt, Value.formed, arrO.hu, arrO.size, encO_len]), hm]
  unfold Program.keyLits
  simp only [arrO.hu, Value.cells]
  rw [if_pos (by rw [arrO.size]; simp [encO_len]), arrO.one]
  rw [hy]
  rfl
/-- the datum holds the arrays of L, each with true -/
def HoldsO (D : DataW Unit) (L : List (List Value)) : Prop :=
  (∀ s ∈ L, ∃ o, s = encO o) ∧ L.Nodup ∧ Maps.size D = L.length ∧ (∀ kl, Maps.has D kl = true → ∃ s ∈ L, keyOf Try.prog 52 (.agg s.toArray) = some kl) ∧
  (∀ s ∈ L, ∀ kl, keyOf Try.prog 52 (.agg s.toArray) = some kl → Maps.has D kl = true ∧ ∀ zd, D.atKey kl zd = .lit (.bool true))
def MapO (w : World) (b : Nat) (L : List (List Value)) : Prop := ∃ D : DataW Unit, w.ownsMap Try.prog 52 (plainElem Try.prog 4) b L.length D ∧ HoldsO D L
theorem agg_inj {s t : List Value} (h : Value.agg s.toArray = .agg t.toArray) : s = t := by
  injection h with h
  have := congrArg Array.toList h
  simpa using this
section
variable {w w' : World} {b : Nat} {L : List (List Value)}
theorem MapO.lt (h : MapO w b L) : b < w.heap.size := by obtain ⟨D, h, _⟩ := h; exact h.lt
theorem MapO.turned {lo hi : Nat} (h : MapO w b L) (t : Turned lo hi w w') (hd : b < lo ∨ hi ≤ b) : MapO w' b L := by
  have hlt := h.lt
  obtain ⟨D, ⟨es, cl, hb, r⟩, hD⟩ := h
  exact ⟨D, ⟨es, cl, (t.block b hlt hd).trans hb, r⟩, hD⟩
theorem MapO.below (h : MapO w b L) (t : Below w.heap.size w w') : MapO w' b L := h.turned (Turned.of_below t 0 0) (.inr (Nat.zero_le _))
theorem MapO.grown {row : Option Nat} (h : MapO w b L) (t : w.grownBy w' row) (hd : row ≠ some b) : MapO w' b L := by
  obtain ⟨D, h, hD⟩ := h
  exact ⟨D, h.kept t (fun e => hd e.symm), hD⟩
theorem MapO.made (w : World) : MapO (w.alloc (.map #[] 0)) w.heap.size [] :=
  ⟨.map [], World.ownsMap_made _ _ _ _, fun _ h => by simp at h, by simp, rfl, fun kl h => by simp [Maps.has] at h, fun _ h => by simp at h⟩
/-- a map's block holds no cells -/
theorem MapO.block (h : MapO w b L) (cur : Array Value) (T : TypeId) (fr : Nat × Nat) : w.heap[b]? ≠ some (.cells cur T fr) := by
  obtain ⟨D, ⟨es, cl, hb, _⟩, _⟩ := h
  rw [hb]
  intro e
  cases e
theorem HoldsO.not {D : DataW Unit} (h : HoldsO D L) {o : M.Op} {kl : Lit} (hk : keyOf Try.prog 52 (.agg (encO o).toArray) = some kl) (hs : encO o ∉ L) : Maps.has D kl = false := by
  cases e : Maps.has D kl with
  | false => rfl
  | true =>
    obtain ⟨t, ht, hk2⟩ := h.2.2.2.1 _ e
    have := agg_inj (lawO.inj hk hk2)
    exact absurd (this ▸ ht) hs
/-- 'm[k]' -/
theorem MapO.look (h : MapO w b L) (o : M.Op) : (encO o ∈ L → (Instr.lookup 83 (.map (some b)) (.agg (encO o).toArray) false).run Try.prog w = .ok (.bool true) w) ∧ (encO o ∉ L → (Instr.lookup 83 (.map (some b)) (.agg (encO o).toArray) false).run Try.prog w = .ok (.bool false) w) := by
  obtain ⟨D, hD, hH⟩ := h
  obtain ⟨kl, hk⟩ := keyO_ex o
  obtain ⟨v, ps, hrun, hv⟩ := hD.lookup lawO mapO (zeroB7 w) (plainElem_bool Try.underlying4 false) hk
  have hb : ∀ x : Bool, plainElem Try.prog 4 v = some (DataW.lit (H := Unit) (.bool x), ps) → v = .bool x := by
    intro x hx
    unfold plainElem at hx
    rw [Try.underlying4] at hx
    cases v <;> simp at hx
    rw [hx.1]
  refine ⟨fun hm => ?_, fun hm => ?_⟩
  · have := (hH.2.2.2.2 _ hm kl hk).2 (.lit (.bool false))
    rw [this] at hv
    rw [hrun, hb true hv]
  · have hn := hH.not hk hm
    rw [Maps.atKey_of_not_has hn] at hv
    rw [hrun, hb false hv]
/-- 'm[k] = true', k new -/
theorem MapO.store (h : MapO w b L) (o : M.Op) (hs : encO o ∉ L) (hn : L.length < maxLen) :
    ∃ w', (Instr.mapUpdate 83 (.map (some b)) (.agg (encO o).toArray) (.bool true)).run Try.prog w = .ok () w' ∧ MapO w' b (L ++ [encO o]) ∧ Turned b (b + 1) w w' := by
  obtain ⟨D, hD, hH⟩ := h
  obtain ⟨kl, hk⟩ := keyO_ex o
  obtain ⟨w', hrun, ho, ht⟩ := hD.update lawO mapO hn hk (plainElem_bool Try.underlying4 true)
  have hT := hD.tidy lawO
  have hM := hT.isMap
  have hlit : WideAt.IsKeyLit kl := lawO.key hk
  have hno := hH.not hk hs
  refine ⟨w', hrun, ⟨_, by rw [List.length_append]; exact ho, ?_, ?_, ?_, ?_, ?_⟩, ⟨ht.os, ht.tape, ht.output, ht.size, fun k hk' hne => ht.block k hk' fun e => by injection e with e; omega⟩⟩
  · intro s hs'
    rw [List.mem_append, List.mem_singleton] at hs'
    rcases hs' with hs' | rfl
    · exact hH.1 s hs'
    · exact ⟨o, rfl⟩
  · rw [List.nodup_append]
    exact ⟨hH.2.1, by simp, fun a ha c hc e => by rw [List.mem_singleton] at hc; subst hc; exact hs (e ▸ ha)⟩
  · rw [Maps.size_put hT, hno, hH.2.2.1, List.length_append]
    rfl
  · intro kl' hk'
    rcases Classical.em (kl' = kl) with e | e
    · exact ⟨encO o, by simp, by rw [e]; exact hk⟩
    · rw [Maps.has_put_other e] at hk'
      obtain ⟨t, ht', e2⟩ := hH.2.2.2.1 kl' hk'
      exact ⟨t, List.mem_append_left _ ht', e2⟩
  · intro s hs' kl' hk'
    rw [List.mem_append, List.mem_singleton] at hs'
    rcases hs' with hs' | rfl
    · have hne : kl' ≠ kl := fun e => by
        subst e
        have := agg_inj (lawO.inj hk' hk)
        exact hs (this ▸ hs')
      obtain ⟨h1, h2⟩ := hH.2.2.2.2 s hs' kl' hk'
      exact ⟨by rw [Maps.has_put_other hne]; exact h1, fun zd => by rw [Maps.atKey_put_other hne]; exact h2 zd⟩
    · rw [hk] at hk'
      injection hk' with hk'
      subst hk'
      exact ⟨Maps.has_put_same hM hlit _, fun zd => Maps.atKey_put_same hM hlit _ _⟩
end
end C
end Go.Proofs.Ythgmkkkfhbjhoaa
namespace Go.Proofs.Ythgmkkkfhbjhoaa
open Go.RowKit
namespace C
/-- a row of numbers in a block that is not of Mu; a row of the call's own where the block is B or later -/
def RowM (B : Nat) (w : World) (Mu : Nat → Prop) (a : Option Addr) (xs : List Value) : Prop :=
  xs = [] ∨ ∃ b off, a = some ⟨b, off, none⟩ ∧ b < w.heap.size ∧ ¬ Mu b ∧ (∀ i u, xs[i]? = some u → w.cell? ⟨b, off + i, none⟩ = some u) ∧ (B ≤ b → ∃ cur, w.heap[b]? = some (.cells cur 3 (0, 0)) ∧ ∀ i u, xs[i]? = some u → cur[off + i]? = some u)
section
variable {B : Nat} {w w' : World} {Mu Mu' : Nat → Prop} {a : Option Addr} {xs : List Value}
theorem RowM.row (h : RowM B w Mu a xs) : RowIn 0 w.heap.size w a xs := by
  rcases h with h | ⟨b, off, ha, h1, _, h2, _⟩
  · exact .inl h
  · exact .inr ⟨b, off, ha, Nat.zero_le _, h1, h2⟩
theorem RowM.step (h : RowM B w Mu a xs) (hs : w.heap.size ≤ w'.heap.size) (hk : ∀ b, b < w.heap.size → ¬ Mu b → w'.heap[b]? = w.heap[b]?) (hm : ∀ b, b < w.heap.size → ¬ Mu b → ¬ Mu' b) : RowM B w' Mu' a xs := by
  rcases h with h | ⟨b, off, ha, h1, h2, h3, h4⟩
  · exact .inl h
  · refine .inr ⟨b, off, ha, by omega, hm b h1 h2, fun i u hu => (World.cell?_of_block (w := w) (hk b h1 h2)).trans (h3 i u hu), fun hB => ?_⟩
    obtain ⟨cur, hc, hv⟩ := h4 hB
    exact ⟨cur, (hk b h1 h2).trans hc, hv⟩
theorem RowM.of_row {lo hi : Nat} (h : RowIn lo hi w a xs) (hh : hi ≤ w.heap.size) (hB : hi ≤ B) (hm : ∀ b, b < hi → ¬ Mu b) : RowM B w Mu a xs := by
  rcases h with h | ⟨b, off, ha, h1, h2, h3⟩
  · exact .inl h
  · exact .inr ⟨b, off, ha, by omega, hm b h2, h3, fun hb => by omega⟩
theorem RowM.of_own {base n c : Nat} (h : w.ownsRow base 3 1 (.slice a n c) n xs) (hm : ∀ b, (Value.slice a n c).ownBlock = some b → ¬ Mu b) : RowM B w Mu a xs := by
  rcases h with ⟨hl, ⟨hv, rfl⟩ | ⟨g, cap, cur, hv, hb, hh, hn, hcm, hcs, ht⟩⟩
  · exact .inl (List.eq_nil_of_length_eq_zero (by simpa using hl))
  · injection hv with ha _ _
    have hc : ∀ i u, xs[i]? = some u → cur[i]? = some u := fun i u hu => by
      rw [← ht, List.getElem?_take] at hu
      split at hu
      · simpa using hu
      · cases hu
    refine .inr ⟨g, 0, ha, heap_lt hh, hm g (by rw [ha]; rfl), fun i u hu => ?_, fun _ => ⟨cur, hh, fun i u hu => by rw [Nat.zero_add]; exact hc i u hu⟩⟩
    rw [Nat.zero_add]
    exact (cell_of_row w g i cur 3 (0, 0) hh).trans (hc i u hu)
end
/-- a slice: its address and its capacity -/
abbrev Sl7 := Option Addr × Nat
/-- the slice of a list, less its first nd numbers -/
def slV7 (nd : Nat) (u : Sl7) (x : List Int) : Value := .slice u.1 (x.drop nd).length u.2
/-- the lists that a search has found, in memory -/
structure Lists (B : Nat) (w : World) (Mu : Nat → Prop) (nd : Nat) (U : List Sl7) (ops : List (List Int)) : Prop where
  len : U.length = ops.length
  row : ∀ (i : Nat) (u : Sl7) (x : List Int), U[i]? = some u → ops[i]? = some x → RowM B w Mu u.1 (M.encIs (x.drop nd)) ∧ (x.drop nd).length ≤ u.2 ∧ u.2 ≤ 9223372036854775807
  own : ∀ (i : Nat) (u : Sl7) (x : List Int), 0 < i → U[i]? = some u → ops[i]? = some x → x.drop nd = [] ∨ ∃ b off, u.1 = some ⟨b, off, none⟩ ∧ B ≤ b
section
variable {B : Nat} {w w' : World} {Mu Mu' : Nat → Prop} {nd : Nat} {U : List Sl7} {ops : List (List Int)}
theorem Lists.step (h : Lists B w Mu nd U ops) (hs : w.heap.size ≤ w'.heap.size) (hk : ∀ b, b < w.heap.size → ¬ Mu b → w'.heap[b]? = w.heap[b]?) (hm : ∀ b, b < w.heap.size → ¬ Mu b → ¬ Mu' b) : Lists B w' Mu' nd U ops :=
  ⟨h.len, fun i u x hu hx => ⟨(h.row i u x hu hx).1.step hs hk hm, (h.row i u x hu hx).2⟩, h.own⟩
theorem Lists.below (h : Lists B w Mu nd U ops) (t : Below w.heap.size w w') : Lists B w' Mu nd U ops := h.step t.size (fun b hb _ => t.block b hb) fun _ _ h => h
theorem Lists.push (h : Lists B w Mu nd U ops) {u : Sl7} {x : List Int} (hr : RowM B w Mu u.1 (M.encIs (x.drop nd))) (h1 : (x.drop nd).length ≤ u.2) (h2 : u.2 ≤ 9223372036854775807) (ho : x.drop nd = [] ∨ ∃ b off, u.1 = some ⟨b, off, none⟩ ∧ B ≤ b) : Lists B w Mu nd (U ++ [u]) (ops ++ [x]) := by
  have key : ∀ (i : Nat) (v : Sl7) (y : List Int), (U ++ [u])[i]? = some v → (ops ++ [x])[i]? = some y → (U[i]? = some v ∧ ops[i]? = some y) ∨ (v = u ∧ y = x) := fun i v y hv hy => by
    rcases Nat.lt_or_ge i U.length with hi | hi
    · rw [List.getElem?_append_left hi] at hv
      rw [List.getElem?_append_left (by rw [← h.len]; exact hi)] at hy
      exact .inl ⟨hv, hy⟩
    · have e : i = U.length := by
        have := (List.getElem?_eq_some_iff.1 hv).1
        rw [List.length_append, List.length_singleton] at this
        omega
      subst e
      rw [List.getElem?_append_right (Nat.le_refl _), Nat.sub_self] at hv
      rw [h.len, List.getElem?_append_right (Nat.le_refl _), Nat.sub_self] at hy
      simp at hv hy
      exact .inr ⟨hv.symm, hy.symm⟩
  refine ⟨by rw [List.length_append, List.length_append, h.len]; rfl, fun i v y hv hy => ?_, fun i v y hi hv hy => ?_⟩
  · rcases key i v y hv hy with ⟨a, b⟩ | ⟨rfl, rfl⟩
    · exact h.row i v y a b
    · exact ⟨hr, h1, h2⟩
  · rcases key i v y hv hy with ⟨a, b⟩ | ⟨rfl, rfl⟩
    · exact h.own i v y hi a b
    · exact ho
theorem Lists.at_ (h : Lists B w Mu nd U ops) {i : Nat} (hi : i < ops.length) : ∃ u, U[i]? = some u ∧ RowM B w Mu u.1 (M.encIs (ops[i].drop nd)) ∧ (ops[i].drop nd).length ≤ u.2 ∧ u.2 ≤ 9223372036854775807 := by
  have hU : i < U.length := by rw [h.len]; exact hi
  exact ⟨U[i], List.getElem?_eq_getElem hU, h.row i _ _ (List.getElem?_eq_getElem hU) (List.getElem?_eq_getElem hi)⟩
/-- what is handed back of them -/
theorem Lists.give (h : Lists B w Mu nd U ops) {i : Nat} (hi : i < ops.length) {u : Sl7} (hu : U[i]? = some u) (h0 : 0 < i ∨ ops[i].drop nd = []) : OwnAt B w.heap.size w 3 u.1 (M.encIs (ops[i].drop nd)) := by
  obtain ⟨hr, _⟩ := h.row i u _ hu (List.getElem?_eq_getElem hi)
  have hn : ops[i].drop nd = [] → OwnAt B w.heap.size w 3 u.1 (M.encIs (ops[i].drop nd)) := fun e => .inl (by rw [e]; rfl)
  rcases h0 with h0 | h0
  · rcases h.own i u _ h0 hu (List.getElem?_eq_getElem hi) with e | ⟨b, off, e, hB⟩
    · exact hn e
    · rcases hr with hr | ⟨b', off', e', h1, _, _, h4⟩
      · exact .inl hr
      · rw [e] at e'
        injection e' with e'
        injection e' with e1 e2 _
        subst e1; subst e2
        obtain ⟨cur, hc, hv⟩ := h4 hB
        exact .inr ⟨b, off, cur, e, hB, h1, hc, hv⟩
  · exact hn h0
end
end C
end Go.Proofs.Ythgmkkkfhbjhoaa
namespace Go.Proofs.Ythgmkkkfhbjhoaa
open Go.RowKit
namespace M
theorem fullS_pre (m : Mz) (ops : List (List Int)) (i : Nat) : ∃ t, fullS m ops i = ops ++ t := by unfold fullS; exact roundS_pre _ _ _ _
theorem srch_pre (m : Mz) : ∀ (f : Nat) (ops : List (List Int)) (i : Nat), ∃ t, srch m f ops i = ops ++ t
  | 0, ops, _ => ⟨[], by simp [srch]⟩
  | f + 1, ops, i => by
    show ∃ t, (if i < ops.length then srch m f (fullS m ops i) (i + 1) else ops) = ops ++ t
    split
    · obtain ⟨t1, h1⟩ := fullS_pre m ops i
      obtain ⟨t2, h2⟩ := srch_pre m f (fullS m ops i) (i + 1)
      exact ⟨t1 ++ t2, by rw [h2, h1, List.append_assoc]⟩
    · exact ⟨[], by simp⟩
theorem srchL_first (m : Mz) (begun : List Int) : (srchL m begun)[0]? = some begun := by
  obtain ⟨t, ht⟩ := srch_pre m 1025 [begun] 0
  unfold srchL
  rw [ht]
  rfl
theorem fw_len (m : Mz) : (fwV m).length ≤ 1048576 := by
  unfold fwV
  split
  · rename_i hg
    have V := valid_of (good_maze hg)
    have hf := good_few hg
    rcases fstV_mem (p := winsB m) (L := srchL m []) with h | h
    · rw [h]; simp
    · have := isO_len V ((srchL_ok hf (begun := []) rfl).open_ _ h)
      omega
  · simp
theorem fs_len (m : Mz) : (fsV m).length ≤ 1048576 := by
  unfold fsV
  split
  · rename_i hg
    have V := valid_of (good_maze hg)
    have hf := good_few hg
    rcases fstV_mem (p := stuckB m) (L := srchL m []) with h | h
    · rw [h]; simp
    · have := isO_len V ((srchL_ok hf (begun := []) rfl).open_ _ h)
      omega
  · simp
end M
end Go.Proofs.Ythgmkkkfhbjhoaa
namespace Go.Proofs.Ythgmkkkfhbjhoaa
open Go.RowKit
namespace C
set_option maxHeartbeats 1600000
set_option maxRecDepth 20000
theorem own_weaken {w : World} {B B' : Nat} {e : TypeId} {size : Nat} {v : Value} {n : Nat} {xs : List Value} (h : w.ownsRow B e size v n xs) (hB : B' ≤ B) : w.ownsRow B' e size v n xs := by
  rcases h with ⟨hl, h | ⟨g, cap, cur, hv, hb, hr⟩⟩
  · exact ⟨hl, .inl h⟩
  · exact ⟨hl, .inr ⟨g, cap, cur, hv, Nat.le_trans hB hb, hr⟩⟩
theorem own_turned {w w' : World} {lo hi B : Nat} {e : TypeId} {size : Nat} {v : Value} {n : Nat} {xs : List Value} (h : w.ownsRow B e size v n xs) (t : Turned lo hi w w') (hd : hi ≤ B) : w'.ownsRow B e size v n xs := by
  rcases h with ⟨hl, h | ⟨g, cap, cur, hv, hb, hh, hr⟩⟩
  · exact ⟨hl, .inl h⟩
  · exact ⟨hl, .inr ⟨g, cap, cur, hv, hb, (t.block g (heap_lt hh) (.inr (by omega))).trans hh, hr⟩⟩
def IntsOwnPost (w : World) (l : List Int) (e : Ending) (w' : World) : Prop :=
  ∃ a c, e = .returned (.slice a l.length c) ∧ w'.ownsRow w.heap.size 3 1 (.slice a l.length c) l.length (M.encIs l) ∧ Below w.heap.size w w'
def DoorsOwnPost (w : World) (l : List M.Dr) (e : Ending) (w' : World) : Prop :=
  ∃ a c, e = .returned (.slice a l.length c) ∧ w'.ownsRow w.heap.size 48 3 (.slice a l.length c) l.length (M.encDs l) ∧ Below w.heap.size w w'
theorem intsOwn_end {w w' : World} {l : List Int} {v : Value} (h : w'.ownsRow w.heap.size 3 1 v l.length (M.encIs l)) (hb : Below w.heap.size w w') : IntsOwnPost w l (.returned v) w' := by
  have h0 := h
  obtain ⟨a, c, rfl, _, _, _⟩ := own_slice h
  exact ⟨a, c, rfl, h0, hb⟩
theorem doorsOwn_end {w w' : World} {l : List M.Dr} {v : Value} (h : w'.ownsRow w.heap.size 48 3 v l.length (M.encDs l)) (hb : Below w.heap.size w w') : DoorsOwnPost w l (.returned v) w' := by
  have h0 := h
  obtain ⟨a, c, rfl, _, _, _⟩ := own_slice h
  exact ⟨a, c, rfl, h0, hb⟩
theorem cloneInts_own (w : World) (lo hi : Nat) (a : Option Addr) (c : Nat) (l : List Int) (h : RowIn lo hi w a (M.encIs l)) (hz : hi ≤ w.heap.size) (hl : l.length ≤ 1048576) :
    Calls Try.prog 96 #[.slice a l.length c] w (IntsOwnPost w l) := by
  obtain ⟨i0, hi0, hz0, hz1, hz2⟩ := info_parts infoI
  have H := Lib.hid h
  clear h
  have ho := ownsRow_empty w w.heap.size 3 1 (Nat.le_refl _)
  have HO := Lib.hid ho
  clear ho
  rcases a with _ | ad
  · obtain rfl : l = [] := by
      rcases H.out with h | ⟨b, off, e, _⟩
      · exact List.eq_nil_of_length_eq_zero (by rw [← M.encIs_len, h]; rfl)
      · cases e
    have hq := fun W => Lib.run_eql_slice_nil (P := Try.prog) W 23 3 none 0 c 0 0 Try.underlying23
    go_enter Try.func96, Try.ntmps96
    go_wp2_with fail
    go_ret
    exact intsOwn_end (l := []) (World.ownsRow_nil _ _ _ _) (Below.refl _ _)
  · have hcells : ∀ j u, (M.encIs l)[j]? = some u → (w.alloc (.cells #[] 3)).cell? (ad.add j) = some u := by
      intro j u hu
      rcases H.out with h | ⟨b, off, e, _, hb, hc⟩
      · rw [h] at hu; simp at hu
      · injection e with e
        subst e
        have hadd : (⟨b, off, none⟩ : Addr).add j = ⟨b, off + j, none⟩ := by
          unfold Addr.add
          split
          · rename_i h; subst h; rfl
          · rfl
        rw [hadd]
        exact (World.cell?_alloc_lt w _ _ (show b < _ by omega)).trans (hc j u hu)
    have HC := Lib.hid hcells
    clear hcells
    have hq := fun W => Lib.run_eql_slice_nil (P := Try.prog) W 23 3 (some ad) l.length c 0 0 Try.underlying23
    go_enter Try.func96, Try.ntmps96
    go_wp2_with (at_builtin; refine wpList_append_own _ rfl _ _ 23 rfl w.heap.size 3 i0 (.int .i64 0) 1 8 Try.underlying23 hi0 hz0 hz1 hz2 rfl (by decide) _ _ _ rfl HO.out ad l.length c (M.encIs l) rfl (by rw [M.encIs_len, Nat.mul_one]) HC.out (fun x hx => by unfold M.encIs at hx; obtain ⟨z, _, rfl⟩ := List.mem_map.1 hx; rfl) (by unfold maxLen; omega) (by omega) (by simp) ?_; intro v' w3 hown' hgrow3 hnil3)
    go_ret
    refine intsOwn_end (by simpa using hown') ((below_alloc _ _).grown hgrow3 (by simp) (own_base HO.out))
/-- a maze in rows that the call owns -/
def MzRowPost (w : World) (m : M.Mz) (e : Ending) (w' : World) : Prop :=
  ∃ a c b d, e = .returned (.agg #[.int .i64 m.size, .slice a m.doors.length c, .slice b m.keys.length d]) ∧ w'.ownsRow w.heap.size 48 3 (.slice a m.doors.length c) m.doors.length (M.encDs m.doors) ∧ w'.ownsRow w.heap.size 3 1 (.slice b m.keys.length d) m.keys.length (M.encIs m.keys) ∧ Below w.heap.size w w'
theorem mzr_end {w w3 : World} {m : M.Mz} {da ia : Option Addr} {dc ic : Nat} {u0 u1 u2 : Value} (hB : Below w.heap.size w w3)
    (p1 : w3.ownsRow (w.heap.size + 1 + 1) 48 3 (.slice da m.doors.length dc) m.doors.length (M.encDs m.doors)) (p2 : w3.ownsRow (w.heap.size + 1 + 1) 3 1 (.slice ia m.keys.length ic) m.keys.length (M.encIs m.keys)) (hz : w.heap.size + 1 < w3.heap.size) :
    MzRowPost w m (.returned (.agg #[.int .i64 m.size, .slice da m.doors.length dc, .slice ia m.keys.length ic])) (((w3.setCell ⟨w.heap.size + 1, 0, none⟩ u0).setCell ⟨w.heap.size + 1, 1, none⟩ u1).setCell ⟨w.heap.size + 1, 2, none⟩ u2) := by
  have hT : Turned (w.heap.size + 1) (w.heap.size + 1 + 1) w3 (((w3.setCell ⟨w.heap.size + 1, 0, none⟩ u0).setCell ⟨w.heap.size + 1, 1, none⟩ u1).setCell ⟨w.heap.size + 1, 2, none⟩ u2) :=
    ((Turned.setCell _ _ _ _ (by omega) (by omega)).trans (Turned.setCell _ _ _ _ (by omega) (by omega))).trans (Turned.setCell _ _ _ _ (by omega) (by omega))
  exact ⟨_, _, _, _, rfl, own_weaken (own_turned p1 hT (Nat.le_refl _)) (by omega), own_weaken (own_turned p2 hT (Nat.le_refl _)) (by omega), Below.thenTurned hB hT (by omega) (by omega)⟩
end C
end Go.Proofs.Ythgmkkkfhbjhoaa
namespace Go.Proofs.Ythgmkkkfhbjhoaa
open Go.RowKit
namespace C
set_option maxHeartbeats 1600000
set_option maxRecDepth 20000
theorem l1Own_own (w : World) (lo hi : Nat) (a : Option Addr) (c : Nat) (l : List Int) (h : RowIn lo hi w a (M.encIs l)) (hz : hi ≤ w.heap.size) (hl : l.length ≤ 1048576) :
    Calls Try.prog 78 #[.slice a l.length c] w (IntsOwnPost w l) := by
  obtain ⟨i0, hi0, hz0, hz1, hz2⟩ := info_parts infoI
  have H := Lib.hid h
  clear h
  have ho := ownsRow_empty w w.heap.size 3 1 (Nat.le_refl _)
  have HO := Lib.hid ho
  clear ho
  rcases a with _ | ad
  · obtain rfl : l = [] := by
      rcases H.out with h | ⟨b, off, e, _⟩
      · exact List.eq_nil_of_length_eq_zero (by rw [← M.encIs_len, h]; rfl)
      · cases e
    have hrun := run_app_nil (P := Try.prog) (w.alloc (.cells #[] 3)) w.heap.size 23 23 3 i0 1 Try.underlying23 hi0 (.slice (some ⟨w.heap.size, 0, none⟩) 0 0) 0 [] HO.out c
    go_enter Try.func78, Try.ntmps78
    go_wp2_with fail
    go_ret
    exact intsOwn_end (l := []) HO.out (below_alloc _ _)
  · have hcells : ∀ j u, (M.encIs l)[j]? = some u → (w.alloc (.cells #[] 3)).cell? (ad.add j) = some u := by
      intro j u hu
      rcases H.out with h | ⟨b, off, e, _, hb, hc⟩
      · rw [h] at hu; simp at hu
      · injection e with e
        subst e
        have hadd : (⟨b, off, none⟩ : Addr).add j = ⟨b, off + j, none⟩ := by
          unfold Addr.add
          split
          · rename_i h; subst h; rfl
          · rfl
        rw [hadd]
        exact (World.cell?_alloc_lt w _ _ (show b < _ by omega)).trans (hc j u hu)
    have HC := Lib.hid hcells
    clear hcells
    go_enter Try.func78, Try.ntmps78
    go_wp2_with (at_builtin; refine wpList_append_own _ rfl _ _ 23 rfl w.heap.size 3 i0 (.int .i64 0) 1 8 Try.underlying23 hi0 hz0 hz1 hz2 rfl (by decide) _ _ _ rfl HO.out ad l.length c (M.encIs l) rfl (by rw [M.encIs_len, Nat.mul_one]) HC.out (fun x hx => by unfold M.encIs at hx; obtain ⟨z, _, rfl⟩ := List.mem_map.1 hx; rfl) (by unfold maxLen; omega) (by omega) (by simp) ?_; intro v' w3 hown' hgrow3 hnil3)
    go_ret
    refine intsOwn_end (by simpa using hown') ((below_alloc _ _).grown hgrow3 (by simp) (own_base HO.out))
end C
end Go.Proofs.Ythgmkkkfhbjhoaa
namespace Go.Proofs.Ythgmkkkfhbjhoaa
open Go
namespace C
section
variable {P : Program} {ops : Array Oper} {Q : Exit → Act → World → Prop} {md : Region.Mode} {S : World → Prop} {Wr : Nat → Bool}
theorem wpOp_one {i : Nat} {oi : Oper} {fuel : Nat} {listed : Array Bool} {a : Act} {w : World} (hi : ops[i]? = some oi)
    (h : ∀ K : Act → World → Prop, (∀ a' w', (Wr i = false → S w') → wpAnyL P md ops Q S Wr fuel (listed.setIfInBounds i true) a' w' → K a' w') → if Region.wanted oi (yielded ops a.tmps) = true then Oper.wp P oi a w K Q else K (a.put oi.dst undef) w) :
    wpOp P ops Q i (fun a' w' => (Wr i = false → S w') ∧ wpAnyL P md ops Q S Wr fuel (listed.setIfInBounds i true) a' w') a w := by
  unfold wpOp
  rw [hi]
  have := h (fun a' w' => (Wr i = false → S w') ∧ wpAnyL P md ops Q S Wr fuel (listed.setIfInBounds i true) a' w') (fun _ _ h1 h2 => ⟨h1, h2⟩)
  show if Region.wanted oi (yielded ops a.tmps) = true then _ else _
  split
  · rename_i hw
    rw [if_pos hw] at this
    exact .inl this
  · rename_i hw
    rw [if_neg hw] at this
    exact this
/-- two operations may come up -/
theorem wpAnyL_two {i j : Nat} {oi oj : Oper} {fuel : Nat} {listed : Array Bool} {a : Act} {w : World} (hr : Region.ready md ops listed = [i, j]) (hi : ops[i]? = some oi) (hj : ops[j]? = some oj)
    (h1 : ∀ K : Act → World → Prop, (∀ a' w', (Wr i = false → S w') → wpAnyL P md ops Q S Wr fuel (listed.setIfInBounds i true) a' w' → K a' w') → if Region.wanted oi (yielded ops a.tmps) = true then Oper.wp P oi a w K Q else K (a.put oi.dst undef) w)
    (h2 : ∀ K : Act → World → Prop, (∀ a' w', (Wr j = false → S w') → wpAnyL P md ops Q S Wr fuel (listed.setIfInBounds j true) a' w' → K a' w') → if Region.wanted oj (yielded ops a.tmps) = true then Oper.wp P oj a w K Q else K (a.put oj.dst undef) w) :
    wpAnyL P md ops Q S Wr (fuel + 1) listed a w := by
  refine wpAnyL_all hr (by simp) fun k hk => ?_
  rcases List.mem_cons.1 hk with rfl | hk
  · exact wpOp_one hi h1
  · obtain rfl : k = j := by simpa using hk
    exact wpOp_one hj h2
end
end C
end Go.Proofs.Ythgmkkkfhbjhoaa
namespace Go.Proofs.Ythgmkkkfhbjhoaa
open Go.RowKit
namespace C
set_option maxHeartbeats 1600000
set_option maxRecDepth 20000
theorem code7_any (w : World) (lo hi : Nat) (la : Option Addr) (lc : Nat) (L : List Int) (hL : RowIn lo hi w la (M.encIs L)) (hl : L.length ≤ 10) (lo' hi' : Nat) (wa : Option Addr) (wcap : Nat) (l : List Int) (hw : RowIn lo' hi' w wa (M.encIs l)) (hl' : l.length ≤ 1048576) :
    Calls Try.prog 95 #[.slice la L.length lc, .slice wa l.length wcap] w fun e w' => e = .returned (.int .i64 ((M.codeTo L l L.length : Nat) : Int)) ∧ w = w' := by
  have HL := Lib.hid hL
  have HW := Lib.hid hw
  have HBD := Lib.hid (fun n (hn : n ≤ 10) => show M.codeTo L l n < 4096 by
    have h1 := M.codeTo_lt L l n
    have h2 : (2 : Nat) ^ n ≤ 2 ^ 10 := Nat.pow_le_pow_right (by decide) hn
    have h3 : (2 : Nat) ^ 10 = 1024 := rfl
    omega)
  clear hL hw
  go_enter Try.func95, Try.ntmps95
  go_wp2_with fail
  go_loop [5, 6] (fun v5 v6 => ∃ (k : Nat), k ≤ L.length ∧ v6 = .int .i64 (k : Int) ∧ v5 = .int .i64 ((M.codeTo L l k : Nat) : Int)) (fun _ v6 => L.length - (intOf v6).toNat)
  case atStart => exact ⟨0, Nat.zero_le _, rfl, rfl⟩
  case round =>
    obtain ⟨k, hk, rfl, rfl⟩ := hrel
    have hbd := HBD.out k (by omega)
    by_cases hkl : k < L.length
    · obtain ⟨lb, loff, rfl, _, _, hc⟩ := HL.out.at_ (k := k) (by rw [M.encIs_len]; exact hkl)
      have p0 := hc _ _ (M.encIs_at hkl)
      have HS := Lib.hid (show M.codeTo L l (k + 1) = if l.contains L[k] then M.codeTo L l k ||| 2 ^ k else M.codeTo L l k by
        show (if l.contains (L.getD k 0) then _ else _) = _
        rw [List.getD_eq_getElem?_getD, List.getElem?_eq_getElem hkl]; rfl)
      have hpw := M.pow12 (k := k) (by omega)
      have hsh : wrap64 (2 ^ k) = (2 : Int) ^ k := by rw [M.wrap_pow (by omega)]; simp
      have hor : bits .or .i64 ((M.codeTo L l k : Nat) : Int) ((2 : Int) ^ k) = ((M.codeTo L l k ||| 2 ^ k : Nat) : Int) := by
        have := M.or4 (M.codeTo L l k) (2 ^ k) hbd hpw
        simpa using this
      have hng : ¬ (k : Int) < 0 := by omega
      obtain ⟨x, hx⟩ : ∃ x, L[k] = x := ⟨_, rfl⟩
      rw [hx] at p0 HS
      clear hc hpw hx
      go_wp2_with fail
      refine (l1Has_any w _ _ wa wcap l x HW.out hl').mono ?_
      rintro e w5 ⟨rfl, rfl⟩
      cases q1 : M.memB l x with
      | false =>
        have HT := Lib.hid (show M.codeTo L l (k + 1) = M.codeTo L l k by rw [HS.out]; unfold M.memB at q1; rw [q1]; rfl)
        clear q1 hsh hor
        generalize M.codeTo L l k = n at *
        go_wp2_with fail
        go_round
        case rel => exact ⟨k + 1, by omega, by go_num, by rw [HT.out]⟩
        case measure => simp [intOf]; omega
      | true =>
        have HT := Lib.hid (show M.codeTo L l (k + 1) = M.codeTo L l k ||| 2 ^ k by rw [HS.out]; unfold M.memB at q1; rw [q1]; rfl)
        clear q1
        generalize M.codeTo L l k = n at *
        go_wp2_with fail
        go_round
        case rel => exact ⟨k + 1, by omega, by go_num, by rw [HT.out]⟩
        case measure => simp [intOf]; omega
    · obtain rfl : k = L.length := by omega
      go_wp2_with fail
      go_ret
      exact ⟨rfl, rfl⟩
end C
end Go.Proofs.Ythgmkkkfhbjhoaa
