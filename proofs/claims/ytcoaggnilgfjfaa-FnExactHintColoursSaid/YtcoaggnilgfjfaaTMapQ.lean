/-
  WORDS for maps from pairs of numbers to slices, own to these proofs: what such a map holds; look-up, the entry that is written behind an append. No condition.
  WORDS for a map of lists of states whose lists grow, own to these proofs; laws at the entry that is sought and written. No condition.
-/
import Derived.Test.YtcoaggnilgfjfaaMapP
import Derived.WideKeyEntry
import Derived.Test.YtcoaggnilgfjfaaTMath
import Derived.Deep.AppendLies
namespace Go.Proofs.Ytcoaggnilgfjfaa
open Go.RowKit
open Go.ChangeMaps (setBlock heap_setBlock_same heap_setBlock_other)
namespace C
/-- a slice from the head of a block on: the block, the length, the room -/
abbrev Cut := Nat × Nat × Nat
def cutV (u : Cut) : Value := .slice (some ⟨u.1, 0, none⟩) u.2.1 u.2.2
def cutD (u : Cut) : DataW Unit := .agg [.lit (.int .i64 (u.1 : Int)), .lit (.int .i64 (u.2.1 : Int)), .lit (.int .i64 (u.2.2 : Int))]
def cutR : Value → Option (DataW Unit × List MemPlace)
  | .slice none 0 0 => some (.agg [], [])
  | .slice (some ⟨g, 0, none⟩) n c => some (cutD (g, n, c), [])
  | _ => none
def cutO : Option Cut → Value
  | some u => cutV u
  | none => .slice none 0 0
def cutOD : Option Cut → DataW Unit
  | some u => cutD u
  | none => .agg []
theorem cutR_V (u : Cut) : cutR (cutV u) = some (cutD u, []) := rfl
theorem cutR_zero : cutR (.slice none 0 0) = some (.agg [], []) := rfl
theorem cutR_inv {v : Value} {r : Option Cut} {ps : List MemPlace} (h : cutR v = some (cutOD r, ps)) : v = cutO r := by
  unfold cutR at h
  split at h
  · cases r with
    | none => rfl
    | some u => simp [cutOD, cutD] at h
  · rename_i g n c
    cases r with
    | none => simp [cutOD, cutD] at h
    | some u =>
      obtain ⟨g', n', c'⟩ := u
      simp [cutOD, cutD] at h
      obtain ⟨⟨h1, h2, h3⟩, _⟩ := h
      obtain rfl : g = g' := by omega
      obtain rfl : n = n' := by omega
      obtain rfl : c = c' := by omega
      rfl
  · cases h
theorem zeroC (w : World) : (zeroValue 110).run Try.prog w = .ok (.slice none 0 0) w := by kernel_rfl
theorem mapC : Try.prog.underlying 125 = some (.map 65 110) := Try.underlying125
def updC (f : M.St → Option Cut) (t : M.St) (v : Cut) : M.St → Option Cut := fun s => if s = t then some v else f s
theorem updC_same (f : M.St → Option Cut) (t : M.St) (v : Cut) : updC f t v t = some v := if_pos rfl
theorem updC_other (f : M.St → Option Cut) {t s : M.St} (v : Cut) (h : s ≠ t) : updC f t v s = f s := if_neg h
def HoldsC (D : DataW Unit) (L : List M.St) (f : M.St → Option Cut) : Prop :=
  (∀ s ∈ L, St64 s) ∧ L.Nodup ∧ Maps.size D = L.length ∧ (∀ kl, Maps.has D kl = true → ∃ s ∈ L, kl = stK s) ∧
  (∀ s ∈ L, ∃ k : Cut, f s = some k ∧ Maps.has D (stK s) = true ∧ ∀ zd, D.atKey (stK s) zd = cutD k) ∧ ∀ s, s ∉ L → f s = none
/-- block b is a map that holds f, of which L has the keys -/
def MapC (w : World) (b : Nat) (L : List M.St) (f : M.St → Option Cut) : Prop := ∃ D : DataW Unit, w.ownsMap Try.prog 65 cutR b L.length D ∧ HoldsC D L f
section
variable {w w' : World} {b : Nat} {L : List M.St} {f : M.St → Option Cut}
theorem MapC.lt (h : MapC w b L f) : b < w.heap.size := by obtain ⟨D, h, _⟩ := h; exact h.lt
theorem MapC.turned {lo hi : Nat} (h : MapC w b L f) (t : Turned lo hi w w') (hd : b < lo ∨ hi ≤ b) : MapC w' b L f := by
  have hlt := h.lt
  obtain ⟨D, ⟨es, cl, hb, r⟩, hD⟩ := h
  exact ⟨D, ⟨es, cl, (t.block b hlt hd).trans hb, r⟩, hD⟩
theorem MapC.below {B : Nat} (h : MapC w b L f) (t : Below B w w') (hd : b < B) : MapC w' b L f := by
  obtain ⟨D, ⟨es, cl, hb, r⟩, hD⟩ := h
  exact ⟨D, ⟨es, cl, (t.block b hd).trans hb, r⟩, hD⟩
theorem MapC.grown {row : Option Nat} (h : MapC w b L f) (t : w.grownBy w' row) (hd : some b ≠ row) : MapC w' b L f := by
  obtain ⟨D, h, hD⟩ := h
  exact ⟨D, h.kept t hd, hD⟩
theorem MapC.made (w : World) : MapC (w.alloc (.map #[] 0)) w.heap.size [] (fun _ => none) :=
  ⟨.map [], World.ownsMap_made _ _ _ _, fun _ h => by simp at h, by simp, rfl, fun kl h => by simp [Maps.has] at h, fun _ h => by simp at h, fun _ _ => rfl⟩
theorem MapC.some_iff (h : MapC w b L f) (s : M.St) : s ∈ L ↔ ∃ k, f s = some k := by
  obtain ⟨D, _, _, _, _, _, h5, h6⟩ := h
  constructor
  · intro hs
    obtain ⟨k, hk, _⟩ := h5 s hs
    exact ⟨k, hk⟩
  · rintro ⟨k, hk⟩
    rcases Classical.em (s ∈ L) with hs | hs
    · exact hs
    · rw [h6 s hs] at hk; cases hk
theorem HoldsC.not {D : DataW Unit} (h : HoldsC D L f) {s : M.St} (h64 : St64 s) (hs : s ∉ L) : Maps.has D (stK s) = false := by
  cases e : Maps.has D (stK s) with
  | false => rfl
  | true =>
    obtain ⟨t, ht, hk⟩ := h.2.2.2.1 _ e
    exact absurd (stK_inj h64 (h.1 t ht) hk ▸ ht) hs
theorem HoldsC.at_ {D : DataW Unit} (h : HoldsC D L f) {s : M.St} (h64 : St64 s) : D.atKey (stK s) (.agg []) = cutOD (f s) := by
  rcases Classical.em (s ∈ L) with hs | hs
  · obtain ⟨k, hk, h1, h2⟩ := h.2.2.2.2.1 s hs
    rw [hk, h2]
    rfl
  · rw [h.2.2.2.2.2 s hs, Maps.atKey_of_not_has (h.not h64 hs)]
    rfl
/-- 'm[k]' -/
theorem MapC.look (h : MapC w b L f) {s : M.St} (h64 : St64 s) : (Instr.lookup 125 (.map (some b)) (stV s) false).run Try.prog w = .ok (cutO (f s)) w := by
  obtain ⟨D, hD, hH⟩ := h
  obtain ⟨v, ps, hrun, hv⟩ := hD.lookup lawS mapC (zeroC w) cutR_zero (keyS h64)
  rw [hH.at_ h64] at hv
  rw [hrun, cutR_inv hv]
theorem ownsMapC_tight {n : Nat} {D : DataW Unit} {R : Value → Option (DataW Unit × List MemPlace)} (h : w.ownsMap Try.prog 65 R b n D) : w.ownsMap Try.prog 65 R b (Maps.size D) D := by
  obtain ⟨es, cl, hb, F, hs, rfl⟩ := h
  exact ⟨es, cl, hb, F, by simp [Maps.size, length_sorted], rfl⟩
theorem HoldsC.put {D : DataW Unit} (h : HoldsC D L f) (hT : Maps.Tidy D) {s : M.St} (h64 : St64 s) (k : Cut) : HoldsC (D.put (stK s) (cutD k)) (addK L s) (updC f s k) := by
  obtain ⟨h1, h2, h3, h4, h5, h6⟩ := h
  have hM := hT.isMap
  have hne : ∀ t ∈ L, t ≠ s → stK t ≠ stK s := fun t ht hn e => hn (stK_inj (h1 t ht) h64 e)
  have hold : ∀ t ∈ L, t ≠ s → ∃ k' : Cut, updC f s k t = some k' ∧ Maps.has (D.put (stK s) (cutD k)) (stK t) = true ∧ ∀ zd, (D.put (stK s) (cutD k)).atKey (stK t) zd = cutD k' := fun t ht hn => by
    obtain ⟨k', e1, e2, e3⟩ := h5 t ht
    exact ⟨k', by rw [updC_other _ _ hn]; exact e1, by rw [Maps.has_put_other (hne t ht hn)]; exact e2, fun zd => by rw [Maps.atKey_put_other (hne t ht hn)]; exact e3 zd⟩
  have hnew : ∃ k' : Cut, updC f s k s = some k' ∧ Maps.has (D.put (stK s) (cutD k)) (stK s) = true ∧ ∀ zd, (D.put (stK s) (cutD k)).atKey (stK s) zd = cutD k' :=
    ⟨k, updC_same _ _ _, Maps.has_put_same hM (litS h64) _, fun zd => Maps.atKey_put_same hM (litS h64) _ _⟩
  rcases Classical.em (s ∈ L) with hs | hs
  · rw [addK_old hs]
    refine ⟨h1, h2, ?_, fun kl hk => ?_, fun t ht => ?_, fun t ht => ?_⟩
    · obtain ⟨_, _, e2, _⟩ := h5 s hs
      rw [Maps.size_put hT, e2, if_pos rfl]
      exact h3
    · rcases Classical.em (kl = stK s) with e | e
      · exact ⟨s, hs, e⟩
      · rw [Maps.has_put_other e] at hk
        exact h4 kl hk
    · rcases Classical.em (t = s) with e | e
      · subst e; exact hnew
      · exact hold t ht e
    · have : t ≠ s := fun e => ht (e ▸ hs)
      rw [updC_other _ _ this]
      exact h6 t ht
  · rw [addK_new hs]
    have hno := HoldsC.not (f := f) ⟨h1, h2, h3, h4, h5, h6⟩ h64 hs
    refine ⟨fun t ht => ?_, ?_, ?_, fun kl hk => ?_, fun t ht => ?_, fun t ht => ?_⟩
    · rw [List.mem_append, List.mem_singleton] at ht
      rcases ht with ht | rfl
      · exact h1 t ht
      · exact h64
    · rw [List.nodup_append]
      exact ⟨h2, by simp, fun a ha c hc e => by rw [List.mem_singleton] at hc; subst hc; exact hs (e ▸ ha)⟩
    · rw [Maps.size_put hT, hno, h3, List.length_append]
      rfl
    · rcases Classical.em (kl = stK s) with e | e
      · exact ⟨s, by simp, e⟩
      · rw [Maps.has_put_other e] at hk
        obtain ⟨t, ht, e2⟩ := h4 kl hk
        exact ⟨t, List.mem_append_left _ ht, e2⟩
    · rw [List.mem_append, List.mem_singleton] at ht
      rcases ht with ht | rfl
      · exact hold t ht fun e => hs (e ▸ ht)
      · exact hnew
    · rw [List.mem_append, List.mem_singleton] at ht
      have e1 : t ≠ s := fun e => ht (.inr e)
      rw [updC_other _ _ e1]
      exact h6 t fun h => ht (.inl h)
/-- one of two entries of one key -/
theorem same_entry {l : List MapEntry} (h : l.Pairwise fun x y => x.key ≠ y.key) {x y : MapEntry} (hx : x ∈ l) (hy : y ∈ l) (e : x.key = y.key) : x = y := by
  induction l with
  | nil => cases hx
  | cons a r ih =>
    rw [List.pairwise_cons] at h
    rcases List.mem_cons.1 hx with rfl | hx'
    · rcases List.mem_cons.1 hy with rfl | hy'
      · rfl
      · exact absurd e (h.1 y hy')
    · rcases List.mem_cons.1 hy with rfl | hy'
      · exact absurd e.symm (h.1 x hx')
      · exact ih h.2 hx' hy'
/-- 'm[k] = append(m[k], ..)': the entry is sought once, and written behind the append -/
theorem MapC.entry (h : MapC w b L f) {s : M.St} (h64 : St64 s) (hn : L.length < maxLen) :
    ∃ (st : Nat) (w1 : World), (Instr.mapEntry 125 (.map (some b)) (stV s)).run Try.prog w = .ok (.tuple #[cutO (f s), goInt st]) w1 ∧ Turned b (b + 1) w w1 ∧ w1.heap.size = w.heap.size ∧
      ∀ (w2 : World) (u : Cut), w2.heap[b]? = w1.heap[b]? → ∃ w3, (Instr.entryStore 125 (.map (some b)) (goInt st) (cutV u)).run Try.prog w2 = .ok () w3 ∧ MapC w3 b (addK L s) (updC f s u) ∧ Turned b (b + 1) w2 w3 ∧ w3.heap.size = w2.heap.size := by
  obtain ⟨D, hD, hH⟩ := h
  have hlook := hD.lookup lawS mapC (zeroC w) cutR_zero (keyS h64)
  have hT := hD.tidy lawS
  have hD0 := hD
  obtain ⟨es, cl, hb, F, hs, hDe⟩ := hD
  obtain ⟨v0, st, es1, cl1, hrun, hv0, hst⟩ := WideElems.entry_then_store arrS.law mapC zeroC hb F (keyS h64)
  have hkeys : es.toList.Pairwise (fun x y => x.key ≠ y.key) := ((MapKept.stamped_iff es cl).1 F.stamped).2.2
  have hv : v0 = cutO (f s) := by
    have hat := hH.at_ h64
    rw [hDe] at hat
    rcases Maps.fit_look false lawS mapC (zeroC w) hb F (keyS h64) with ⟨_, hno, hat3⟩ | ⟨e0, y, hm, hk, _, hR, hat2, _⟩
    · rcases hv0 with ⟨e1, h1, h2, _⟩ | ⟨_, h2⟩
      · exact absurd h2 (hno e1 h1)
      · rw [hat3] at hat
        rw [h2]
        exact cutR_inv (r := f s) (ps := []) (by rw [← hat]; rfl)
    · rcases hv0 with ⟨e1, h1, h2, h3⟩ | ⟨h1, _⟩
      · have := same_entry hkeys h1 hm (h2.trans hk.symm)
        subst this
        rw [h3]
        rw [hat2] at hat
        exact cutR_inv (r := f s) (ps := y.2) (by rw [hR, ← hat])
      · exact absurd hk (h1 e0 hm)
  have tb : ∀ {wa : World} {ea : Array MapEntry} {ca : Nat} (ha : wa.heap[b]? = some (.map ea ca)) (eb : Array MapEntry) (cb : Nat), Turned b (b + 1) wa (setBlock wa b (.map eb cb)) ∧ (setBlock wa b (.map eb cb)).heap.size = wa.heap.size := fun {wa ea ca} ha eb cb =>
    ⟨⟨rfl, rfl, rfl, by simp [setBlock], fun k _ ho => heap_setBlock_other ha _ (fun e => by omega)⟩, by simp [setBlock]⟩
  refine ⟨st, _, by rw [hrun, hv], (tb hb _ _).1, (tb hb _ _).2, fun w2 u hw2 => ?_⟩
  rw [heap_setBlock_same hb] at hw2
  obtain ⟨es', cl', hr1, hr2⟩ := hst w2 (cutV u) hw2
  refine ⟨_, hr1, ?_, (tb hw2 _ _).1, (tb hw2 _ _).2⟩
  obtain ⟨w', hrun', ho', _⟩ := hD0.store lawS mapC hn (keyS h64) (cutR_V u)
  rw [hr2] at hrun'
  have hw' : setBlock w b (.map es' cl') = w' := by injection hrun'
  rw [← hw'] at ho'
  have hP := hH.put hT h64 u
  obtain ⟨e3, c3, hb3, F3, hs3, hD3⟩ := ownsMapC_tight ho'
  rw [heap_setBlock_same hb] at hb3
  refine ⟨_, ⟨e3, c3, (heap_setBlock_same hw2 _).trans hb3, F3, ?_, hD3⟩, hP⟩
  have e := hP.2.2.1
  exact e ▸ hs3
end
end C
end Go.Proofs.Ytcoaggnilgfjfaa
namespace Go.Proofs.Ytcoaggnilgfjfaa
open Go.RowKit
namespace C
/-- each list of the map lies in a row of its own, from block B on -/
structure RowsC (w : World) (B : Nat) (f : M.St → Option Cut) (bef : M.St → List M.St) : Prop where
  row : ∀ t u, f t = some u → u.2.1 = (bef t).length ∧ w.ownsRow B 65 2 (cutV u) (bef t).length (M.encSs (bef t))
  no : ∀ t, f t = none → bef t = []
  apart : ∀ t t' u u', f t = some u → f t' = some u' → t ≠ t' → u.1 ≠ u'.1
section
variable {w w' : World} {B : Nat} {f : M.St → Option Cut} {bef : M.St → List M.St}
theorem RowsC.start (w : World) (B : Nat) : RowsC w B (fun _ => none) (fun _ => []) := ⟨fun _ _ h => (by cases h), fun _ _ => rfl, fun _ _ _ _ h => (by cases h)⟩
theorem RowsC.base (h : RowsC w B f bef) {t : M.St} {u : Cut} (hu : f t = some u) : B ≤ u.1 ∧ u.1 < w.heap.size := (h.row t u hu).2.lt u.1 rfl
theorem RowsC.at_ (h : RowsC w B f bef) (t : M.St) : w.ownsRow B 65 2 (cutO (f t)) (bef t).length (M.encSs (bef t)) := by
  cases e : f t with
  | some u => exact (h.row t u e).2
  | none =>
    rw [h.no t e]
    exact World.ownsRow_nil _ _ _ _
theorem RowsC.grown {row : Option Nat} (h : RowsC w B f bef) (g : w.grownBy w' row) (hd : ∀ t u, f t = some u → row ≠ some u.1) : RowsC w' B f bef :=
  ⟨fun t u hu => ⟨(h.row t u hu).1, (h.row t u hu).2.kept g (.inr fun e => hd t u hu (e ▸ rfl))⟩, h.no, h.apart⟩
theorem RowsC.turned {lo hi : Nat} (h : RowsC w B f bef) (t : Turned lo hi w w') (hd : hi ≤ B) : RowsC w' B f bef := by
  refine ⟨fun s u hu => ⟨(h.row s u hu).1, ?_⟩, h.no, h.apart⟩
  have h0 := (h.row s u hu).2
  refine ⟨h0.1, ?_⟩
  rcases h0.2 with h' | ⟨g, cap, cur, hv, hb, hh, hr⟩
  · exact .inl h'
  · exact .inr ⟨g, cap, cur, hv, hb, (t.block g (heap_lt hh) (.inr (by omega))).trans hh, hr⟩
theorem RowsC.below (h : RowsC w B f bef) (t : Below w.heap.size w w') : RowsC w' B f bef := h.turned (Turned.of_below t 0 0) (Nat.zero_le _)
theorem RowsC.alloc (h : RowsC w B f bef) (o : Obj) : RowsC (w.alloc o) B f bef := h.below (below_alloc _ _)
/-- one list has grown -/
theorem RowsC.put (h : RowsC w B f bef) {t : M.St} {u : Cut} {l : List M.St} (g : w.grownBy w' (cutO (f t)).ownBlock) (hl : u.2.1 = l.length) (ho : w'.ownsRow B 65 2 (cutV u) l.length (M.encSs l)) (hat : (cutO (f t)).ownBlock = some u.1 ∨ w.heap.size ≤ u.1) :
    RowsC w' B (updC f t u) (M.updB bef t l) := by
  have hne : ∀ s v, s ≠ t → f s = some v → (cutO (f t)).ownBlock ≠ some v.1 := fun s v hs hv e => by
    cases ef : f t with
    | none => rw [ef] at e; cases e
    | some v' =>
      rw [ef] at e
      have e' : v'.1 = v.1 := by injection e
      exact h.apart t s v' v ef hv (fun e => hs e.symm) e'
  have hnew : ∀ s v, s ≠ t → f s = some v → v.1 ≠ u.1 := fun s v hs hv e => by
    rcases hat with h1 | h1
    · exact hne s v hs hv (by rw [h1, e])
    · have := (h.base hv).2
      omega
  refine ⟨fun s v hv => ?_, fun s hs => ?_, fun s s' v v' hv hv' hss => ?_⟩
  · by_cases e : s = t
    · subst e
      rw [updC_same] at hv
      injection hv with hv
      subst hv
      have : M.updB bef s l s = l := if_pos rfl
      rw [this]
      exact ⟨hl, ho⟩
    · rw [updC_other _ _ e] at hv
      have : M.updB bef t l s = bef s := if_neg e
      rw [this]
      exact ⟨(h.row s v hv).1, (h.row s v hv).2.kept g (.inr fun e2 => hne s v e hv (e2 ▸ rfl))⟩
  · have e : s ≠ t := fun e => by subst e; rw [updC_same] at hs; cases hs
    rw [updC_other _ _ e] at hs
    have : M.updB bef t l s = bef s := if_neg e
    rw [this]
    exact h.no s hs
  · by_cases e : s = t
    · subst e
      rw [updC_same] at hv
      injection hv with hv
      subst hv
      rw [updC_other _ _ (fun e => hss e.symm)] at hv'
      exact fun e => hnew s' v' (fun e => hss e.symm) hv' e.symm
    · rw [updC_other _ _ e] at hv
      by_cases e' : s' = t
      · subst e'
        rw [updC_same] at hv'
        injection hv' with hv'
        subst hv'
        exact hnew s v e hv
      · rw [updC_other _ _ e'] at hv'
        exact h.apart s s' v v' hv hv' hss
end
/-- what lay below B has not turned but for two blocks -/
structure Rest (B x y : Nat) (w w' : World) : Prop where
  os : w'.os = w.os
  tape : w'.tape = w.tape
  output : w'.output = w.output
  size : w.heap.size ≤ w'.heap.size
  block : ∀ k, k < B → k ≠ x → k ≠ y → w'.heap[k]? = w.heap[k]?
section
variable {B x y : Nat} {w w' w'' : World}
theorem Rest.refl (B x y : Nat) (w : World) : Rest B x y w w := ⟨rfl, rfl, rfl, Nat.le_refl _, fun _ _ _ _ => rfl⟩
theorem Rest.below (h : Rest B x y w w') (t : Below w'.heap.size w' w'') (hB : B ≤ w'.heap.size) : Rest B x y w w'' :=
  ⟨t.os.trans h.os, t.tape.trans h.tape, t.output.trans h.output, Nat.le_trans h.size t.size, fun k hk hx hy => (t.block k (by omega)).trans (h.block k hk hx hy)⟩
theorem Rest.alloc (h : Rest B x y w w') (o : Obj) (hB : B ≤ w'.heap.size) : Rest B x y w (w'.alloc o) := h.below (below_alloc _ _) hB
theorem Rest.turned (h : Rest B x y w w') (t : Turned y (y + 1) w' w'') (hB : B ≤ w'.heap.size) : Rest B x y w w'' :=
  ⟨t.os.trans h.os, t.tape.trans h.tape, t.output.trans h.output, Nat.le_trans h.size t.size, fun k hk hx hy => (t.block k (by omega) (by omega)).trans (h.block k hk hx hy)⟩
theorem Rest.grown {row : Option Nat} (h : Rest B x y w w') (t : w'.grownBy w'' row) (hB : B ≤ w'.heap.size) (hr : ∀ z, row = some z → z = x ∨ B ≤ z) : Rest B x y w w'' :=
  ⟨t.os.trans h.os, t.tape.trans h.tape, t.output.trans h.output, Nat.le_trans h.size t.size, fun k hk hx hy => (t.block k (by omega) (fun e => by have := hr k e.symm; omega)).trans (h.block k hk hx hy)⟩
theorem Rest.toBelow {D : Nat} (h : Rest B x y w w') (hD : D ≤ B) (hx : D ≤ x) (hy : D ≤ y) : Below D w w' := ⟨h.os, h.tape, h.output, h.size, fun k hk => h.block k (by omega) (by omega) (by omega)⟩
theorem Rest.cell (h : Rest B x y w w') {p : Addr} (hk : p.block < B) (hx : p.block ≠ x) (hy : p.block ≠ y) : w'.cell? p = w.cell? p := World.cell?_of_block (h.block _ hk hx hy)
theorem Rest.row {lo hi : Nat} {a : Option Addr} {xs : List Value} (h : Rest B x y w w') (r : RowIn lo hi w a xs) (hB : hi ≤ B) (hx : x < lo) (hy : y < lo) : RowIn lo hi w' a xs := by
  rcases r with r | ⟨b, off, ha, h1, h2, hc⟩
  · exact .inl r
  · exact .inr ⟨b, off, ha, h1, h2, fun i u hu => (h.cell (p := ⟨b, off + i, none⟩) (show b < B by omega) (show b ≠ x by omega) (show b ≠ y by omega)).trans (hc i u hu)⟩
end
/-- what an entry written behind an append has turned: the map and one row -/
structure Chg (b : Nat) (row : Option Nat) (w w' : World) : Prop where
  os : w'.os = w.os
  tape : w'.tape = w.tape
  output : w'.output = w.output
  size : w.heap.size ≤ w'.heap.size
  block : ∀ k, k < w.heap.size → k ≠ b → some k ≠ row → w'.heap[k]? = w.heap[k]?
section
variable {b : Nat} {row : Option Nat} {w w' : World}
theorem Chg.of {w1 w2 w3 : World} (h1 : Below w.heap.size w w1) (h2 : Turned b (b + 1) w1 w2) (h3 : w2.grownBy w3 row) (h4 : Turned b (b + 1) w3 w') : Chg b row w w' :=
  ⟨((h4.os.trans h3.os).trans h2.os).trans h1.os, ((h4.tape.trans h3.tape).trans h2.tape).trans h1.tape, ((h4.output.trans h3.output).trans h2.output).trans h1.output, Nat.le_trans h1.size (Nat.le_trans h2.size (Nat.le_trans h3.size h4.size)),
    fun k hk hb hr => by
      have s1 := h1.size
      have s2 := h2.size
      have s3 := h3.size
      exact (((h4.block k (by omega) (by omega)).trans (h3.block k (by omega) hr)).trans (h2.block k (by omega) (by omega))).trans (h1.block k hk)⟩
theorem Chg.box2 {g : Nat} {T : TypeId} {x y : Value} (h : Chg b row w w') (hx : Box2 w g T x y) (hb : g ≠ b) (hr : row ≠ some g) : Box2 w' g T x y := (h.block g hx.lt hb fun e => hr e.symm).trans hx
theorem Chg.rowIn {lo hi : Nat} {a : Option Addr} {xs : List Value} (h : Chg b row w w') (r : RowIn lo hi w a xs) (hz : hi ≤ w.heap.size) (hb : b < lo) (hr : ∀ z, row = some z → z < lo ∨ hi ≤ z) : RowIn lo hi w' a xs := by
  rcases r with r | ⟨g, off, ha, h1, h2, hc⟩
  · exact .inl r
  · refine .inr ⟨g, off, ha, h1, h2, fun i u hu => (World.cell?_of_block (w := w) (a := ⟨g, off + i, none⟩) (h.block g (by omega) (by omega) fun e => ?_)).trans (hc i u hu)⟩
    have := hr g e.symm
    omega
theorem Chg.own {B size n : Nat} {T : TypeId} {v : Value} {xs : List Value} (h : Chg b row w w') (ho : w.ownsRow B T size v n xs) (hb : v.ownBlock ≠ some b) (hr : ∀ z, row = some z → v.ownBlock ≠ some z) : w'.ownsRow B T size v n xs := by
  refine ⟨ho.1, ?_⟩
  rcases ho.2 with h' | ⟨g, cap, cur, rfl, hB, hh, r⟩
  · exact .inl h'
  · exact .inr ⟨g, cap, cur, rfl, hB, (h.block g (heap_lt hh) (fun e => hb (by rw [← e]; rfl)) fun e => hr g e.symm rfl).trans hh, r⟩
theorem Chg.rest {B x : Nat} {w0 : World} (h : Chg b row w w') (r : Rest B x b w0 w) (hB : B ≤ w.heap.size) (hr : ∀ z, row = some z → z = x ∨ B ≤ z) : Rest B x b w0 w' :=
  ⟨h.os.trans r.os, h.tape.trans r.tape, h.output.trans r.output, Nat.le_trans r.size h.size, fun k hk hx hy => (h.block k (by omega) hy (fun e => by have := hr k e.symm; omega)).trans (r.block k hk hx hy)⟩
theorem cut_block {o : Option Cut} {r : Value} {z : Nat} (hr : cutO o = r) (hz : r.ownBlock = some z) : ∃ u, o = some u ∧ u.1 = z := by
  subst hr
  cases o with
  | none => cases hz
  | some u => exact ⟨u, rfl, by injection hz⟩
end
section
variable {w : World} {ops : Array Oper} {rest : List Oper} {o : Oper} {a : Act} {Q : Exit → Act → World → Prop}
/-- the entry of 'm[k] = append(m[k], ..)' -/
theorem wpList_entryC (hg : o.guard = none) (mm x : Operand) (hop : o.op = Op.mapEntry 125 mm x) (b : Nat) (L : List M.St) (f : M.St → Option Cut) (hm : a.eval mm = .map (some b)) (h : MapC w b L f) (s : M.St) (h64 : St64 s) (hn : L.length < maxLen) (hx : a.eval x = stV s) (r : Value) (hr : cutO (f s) = r)
    (hK : ∀ (st : Nat) (w1 : World), Turned b (b + 1) w w1 → w1.heap.size = w.heap.size →
      (∀ (w2 : World) (u : Cut), w2.heap[b]? = w1.heap[b]? → ∃ w3, (Instr.entryStore 125 (.map (some b)) (goInt st) (cutV u)).run Try.prog w2 = .ok () w3 ∧ MapC w3 b (addK L s) (updC f s u) ∧ Turned b (b + 1) w2 w3 ∧ w3.heap.size = w2.heap.size) →
      wpList Try.prog ops Q rest (a.put o.dst (.tuple #[r, goInt st])) w1) : wpList Try.prog ops Q (o :: rest) a w := by
  subst hr
  refine wpList_plain hg fun K' hK' => ?_
  obtain ⟨st, w1, hrun, h1, h2, h3⟩ := h.entry h64 hn
  unfold Oper.wp
  simp [execOp, hop, hm, hx, hrun, Result.andThen]
  exact hK' _ _ (hK st w1 h1 h2 h3)
/-- .. and its store -/
theorem wpList_entryPut (hg : o.guard = none) (mm x u : Operand) (hop : o.op = Op.entryStore 125 mm x u) (b : Nat) (st : Nat) (v : Value) (w3 : World) (hm : a.eval mm = .map (some b)) (hx : a.eval x = goInt st) (hu : a.eval u = v)
    (hrun : (Instr.entryStore 125 (.map (some b)) (goInt st) v).run Try.prog w = .ok () w3) (hK : wpList Try.prog ops Q rest (a.put o.dst undef) w3) : wpList Try.prog ops Q (o :: rest) a w := by
  refine wpList_plain hg fun K' hK' => ?_
  unfold Oper.wp
  simp [execOp, hop, hm, hx, hu, hrun, Result.andThen]
  exact hK' _ _ hK
end
end C
end Go.Proofs.Ytcoaggnilgfjfaa
