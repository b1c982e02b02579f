/-
  MATHEMATICS of wandering without a pull, and of pulls counted, own to these proofs: a list that grows by what is new holds just what can be reached; the least number of pulls. No condition.
-/
import Derived.Test.YtdgfceiobpnchaaWkA
import Derived.Test.YtdgfceiobpnchaaCstM
namespace Go.Proofs.Ytdgfceiobpnchaa
open Go.RowKit
namespace M
/-- to which visits one goes without a pull -/
def movesV (m : Wk) (s : Vs) : List Vs := (goL m s).map fun y => (y, s.2)
def addV (L : List Vs) (s : Vs) : List Vs := if s ∈ L then L else L ++ [s]
theorem addV_old {L : List Vs} {s : Vs} (h : s ∈ L) : addV L s = L := if_pos h
theorem addV_new {L : List Vs} {s : Vs} (h : s ∉ L) : addV L s = L ++ [s] := if_neg h
def addAll (L : List Vs) (l : List Vs) : List Vs := l.foldl addV L
theorem addAll_snoc (L l : List Vs) (s : Vs) : addAll L (l ++ [s]) = addV (addAll L l) s := by unfold addAll; rw [List.foldl_append, List.foldl_cons, List.foldl_nil]
theorem mem_addV {L : List Vs} {s t : Vs} : t ∈ addV L s ↔ t ∈ L ∨ t = s := by
  unfold addV
  split
  · rename_i h
    constructor
    · exact .inl
    · rintro (h' | rfl); exact h'; exact h
  · rw [List.mem_append, List.mem_singleton]
theorem mem_addAll {l : List Vs} : ∀ {L : List Vs} {t : Vs}, t ∈ addAll L l ↔ t ∈ L ∨ t ∈ l := by
  induction l with
  | nil => intro L t; simp [addAll]
  | cons s l ih =>
    intro L t
    show t ∈ addAll (addV L s) l ↔ _
    rw [ih, mem_addV, List.mem_cons, or_assoc]
theorem addV_nodup {L : List Vs} (h : L.Nodup) (s : Vs) : (addV L s).Nodup := by
  unfold addV
  split
  · exact h
  · rename_i hn
    rw [List.nodup_append]
    exact ⟨h, by simp, fun a ha b hb e => by rw [List.mem_singleton] at hb; subst hb; exact hn (e ▸ ha)⟩
theorem addAll_nodup {l : List Vs} : ∀ {L : List Vs}, L.Nodup → (addAll L l).Nodup := by
  induction l with
  | nil => intro L h; exact h
  | cons s l ih => intro L h; exact ih (addV_nodup h s)
theorem addV_pre (L : List Vs) (s : Vs) : L <+: addV L s := by
  unfold addV
  split
  · exact List.prefix_rfl
  · exact List.prefix_append _ _
theorem addAll_pre {l : List Vs} : ∀ (L : List Vs), L <+: addAll L l := by
  induction l with
  | nil => intro L; exact List.prefix_rfl
  | cons s l ih => intro L; exact (addV_pre L s).trans (ih _)
/-- behind n of the list having been looked at -/
def wanTo (m : Wk) (s : Vs) : Nat → List Vs
  | 0 => [s]
  | n + 1 => match (wanTo m s n)[n]? with
    | some t => addAll (wanTo m s n) (movesV m t)
    | none => wanTo m s n
theorem wanTo_zero (m : Wk) (s : Vs) : wanTo m s 0 = [s] := rfl
theorem wanTo_step {m : Wk} {s : Vs} {n : Nat} (h : n < (wanTo m s n).length) : wanTo m s (n + 1) = addAll (wanTo m s n) (movesV m (wanTo m s n)[n]) := by
  show (match (wanTo m s n)[n]? with | some t => addAll (wanTo m s n) (movesV m t) | none => wanTo m s n) = _
  rw [List.getElem?_eq_getElem h]
theorem wanTo_end {m : Wk} {s : Vs} {n : Nat} (h : (wanTo m s n).length ≤ n) : wanTo m s (n + 1) = wanTo m s n := by
  show (match (wanTo m s n)[n]? with | some t => addAll (wanTo m s n) (movesV m t) | none => wanTo m s n) = _
  rw [List.getElem?_eq_none h]
/-- where one can go without a pull -/
inductive Free (m : Wk) (s : Vs) : Vs → Prop
  | refl : Free m s s
  | step {t u : Vs} : Free m s t → u ∈ movesV m t → Free m s u
structure Wan (m : Wk) (s : Vs) (n : Nat) (L : List Vs) : Prop where
  nodup : L.Nodup
  first : s ∈ L
  free : ∀ t ∈ L, Free m s t
  closed : ∀ i (h : i < L.length), i < n → ∀ u ∈ movesV m L[i], u ∈ L
theorem wan_to (m : Wk) (s : Vs) : ∀ n, Wan m s n (wanTo m s n)
  | 0 => ⟨by simp [wanTo_zero], by simp [wanTo_zero], fun t ht => by rw [wanTo_zero, List.mem_singleton] at ht; subst ht; exact .refl, fun i _ h => by omega⟩
  | n + 1 => by
    have ih := wan_to m s n
    rcases Nat.lt_or_ge n (wanTo m s n).length with h | h
    · have hL : ∀ i (hi : i < (wanTo m s n).length), ∃ hi' : i < (addAll (wanTo m s n) (movesV m ((wanTo m s n)[n]'h))).length, (addAll (wanTo m s n) (movesV m ((wanTo m s n)[n]'h)))[i]'hi' = (wanTo m s n)[i]'hi := fun i hi => by
        have hp := addAll_pre (l := movesV m (wanTo m s n)[n]) (wanTo m s n)
        exact ⟨Nat.lt_of_lt_of_le hi hp.length_le, (hp.getElem hi).symm⟩
      rw [wanTo_step h]
      refine ⟨addAll_nodup ih.nodup, mem_addAll.2 (.inl ih.first), fun t ht => ?_, fun i hi hin u hu => ?_⟩
      · rcases mem_addAll.1 ht with ht | ht
        · exact ih.free t ht
        · exact .step (ih.free _ (List.getElem_mem h)) ht
      · obtain ⟨hi', e⟩ := hL i (by omega)
        rw [e] at hu
        rcases Nat.lt_or_ge i n with h1 | h1
        · exact mem_addAll.2 (.inl (ih.closed i (by omega) h1 u hu))
        · obtain rfl : i = n := by omega
          exact mem_addAll.2 (.inr hu)
    · rw [wanTo_end h]
      exact ⟨ih.nodup, ih.first, ih.free, fun i hi _ => ih.closed i hi (by omega)⟩
theorem free_ok {m : Wk} (V : WV m) {s t : Vs} (hs : VsOk m s) (h : Free m s t) : VsOk m t ∧ t.2 = s.2 := by
  induction h with
  | refl => exact ⟨hs, rfl⟩
  | @step t u _ hu ih =>
    obtain ⟨y, hy, rfl⟩ := List.mem_map.1 hu
    have := goL_node V hy
    exact ⟨⟨this.1, this.2, ih.1.2.2.1, ih.1.2.2.2⟩, ih.2⟩
theorem wanTo_len {m : Wk} (V : WV m) {s : Vs} (hs : VsOk m s) (n : Nat) : (wanTo m s n).length ≤ 12 := by
  have hw := wan_to m s n
  have v12 := V.size12
  have hn : ((wanTo m s n).map fun t : Vs => t.1).Nodup := by
    refine List.pairwise_map.2 (List.Pairwise.imp_of_mem (fun {a b} ha hb hne e => hne ?_) hw.nodup)
    exact Prod.ext e (((free_ok V hs (hw.free a ha)).2).trans ((free_ok V hs (hw.free b hb)).2).symm)
  have := nodup_len (n := 12) hn fun z hz => by
    obtain ⟨t, ht, rfl⟩ := List.mem_map.1 hz
    obtain ⟨h1, h2, _⟩ := (free_ok V hs (hw.free t ht)).1
    exact ⟨h1, by omega⟩
  simpa using this
/-- all visits without a pull -/
def wanV (m : Wk) (s : Vs) : List Vs := wanTo m s 12
theorem wan_stop {m : Wk} {s : Vs} {n : Nat} (h : (wanTo m s n).length ≤ n) : ∀ k, wanTo m s (n + k) = wanTo m s n
  | 0 => rfl
  | k + 1 => by
    have ih := wan_stop h k
    rw [← Nat.add_assoc, wanTo_end (by rw [ih]; omega), ih]
theorem wan_done {m : Wk} {s : Vs} {n : Nat} (h : (wanTo m s n).length ≤ n) (hn : n ≤ 12) : wanV m s = wanTo m s n := by
  unfold wanV
  have := wan_stop h (12 - n)
  rwa [show n + (12 - n) = 12 by omega] at this
theorem mem_wanV {m : Wk} (V : WV m) {s : Vs} (hs : VsOk m s) {t : Vs} : t ∈ wanV m s ↔ Free m s t := by
  have hw := wan_to m s 12
  have hl := wanTo_len V hs 12
  constructor
  · exact hw.free t
  · intro h
    induction h with
    | refl => exact hw.first
    | @step t u _ hu ih =>
      obtain ⟨i, hi, rfl⟩ := List.mem_iff_getElem.1 ih
      have hi' : i < (wanTo m s 12).length := hi
      exact hw.closed i hi' (by omega) u hu
theorem wanV_nodup (m : Wk) (s : Vs) : (wanV m s).Nodup := (wan_to m s 12).nodup
theorem wanV_ok {m : Wk} (V : WV m) {s : Vs} (hs : VsOk m s) {t : Vs} (h : t ∈ wanV m s) : VsOk m t := (free_ok V hs ((mem_wanV V hs).1 h)).1
theorem wanV_len {m : Wk} (V : WV m) {s : Vs} (hs : VsOk m s) : (wanV m s).length ≤ 12 := wanTo_len V hs 12
/-- behind a pull, at any node -/
def behindP (m : Wk) (s : Vs) : Vs := doA m s (-1)
theorem behindP_ok {m : Wk} (V : WV m) {s : Vs} (hs : VsOk m s) : VsOk m (behindP m s) := by
  obtain ⟨h1, h2, h3, h4⟩ := hs
  have hp := pullA_set V s.1
  have hx := xor_set h3 h4 hp.1 hp.2
  exact ⟨h1, h2, hx.1, hx.2.1⟩
def nextP (m : Wk) (s : Vs) : List Vs := wanV m (behindP m s)
/-- acts and what they cost: a pull 1, other acts 0 or 1 -/
def wtA (pulls : Bool) (a : Int) : Nat := if pulls && decide (0 ≤ a) then 0 else 1
def edgeW (m : Wk) (pulls : Bool) (s : Vs) : List (Nat × Vs) := (actsL m s).map fun a => (wtA pulls a, doA m s a)
theorem edgeW_false (m : Wk) (s : Vs) : edgeW m false s = (nextW m s).map fun t => (1, t) := by
  unfold edgeW nextW
  rw [List.map_map]
  rfl
theorem edgeW_ok {m : Wk} (V : WV m) {b : Bool} {s : Vs} (hs : VsOk m s) {p : Nat × Vs} (hp : p ∈ edgeW m b s) : VsOk m p.2 := by
  obtain ⟨a, ha, rfl⟩ := List.mem_map.1 hp
  exact doA_ok V hs ha
theorem edgeW_wt {m : Wk} {b : Bool} {s : Vs} {p : Nat × Vs} (hp : p ∈ edgeW m b s) : p.1 ≤ 1 := by
  obtain ⟨a, ha, rfl⟩ := List.mem_map.1 hp
  show wtA b a ≤ 1
  unfold wtA
  split <;> omega
theorem doA_pos {m : Wk} {s : Vs} {a : Int} (h : 0 ≤ a) : doA m s a = (a, s.2) := if_neg (by omega)
theorem free_cst {m : Wk} (V : WV m) {s0 s t : Vs} (_hs : VsOk m s) {k : Nat} (h : Cst (edgeW m true) s0 k s) (hf : Free m s t) : Cst (edgeW m true) s0 k t := by
  induction hf with
  | refl => exact h
  | @step t u ht hu ih =>
    obtain ⟨y, hy, rfl⟩ := List.mem_map.1 hu
    have hn := goL_node V hy
    have he : ((0 : Nat), ((y, t.2) : Vs)) ∈ edgeW m true t := List.mem_map.2 ⟨y, mem_actsL.2 (.inr hy), by
      rw [doA_pos hn.1]
      unfold wtA
      rw [decide_eq_true hn.1]
      rfl⟩
    exact .succ ih he
theorem wlk_cst {m : Wk} (V : WV m) {s0 : Vs} (h0 : VsOk m s0) {k : Nat} {t : Vs} (h : Wlk (nextP m) (wanV m s0) k t) : VsOk m t ∧ ∃ k', k' ≤ k ∧ Cst (edgeW m true) s0 k' t := by
  induction h with
  | @zero s hs => exact ⟨wanV_ok V h0 hs, 0, Nat.le_refl _, free_cst V h0 .zero ((mem_wanV V h0).1 hs)⟩
  | @succ n s t _ ht ih =>
    obtain ⟨hso, k', hk, hc⟩ := ih
    have hbo := behindP_ok V hso
    have hf := (mem_wanV V hbo).1 ht
    refine ⟨wanV_ok V hbo ht, ?_⟩
    by_cases hp : pullA m s.1 = 0
    · have e : behindP m s = s := by
        show ((s.1, bits .xor .i64 s.2 (pullA m s.1)) : Vs) = s
        rw [hp]
        obtain ⟨h1, h2, h3, h4⟩ := hso
        obtain ⟨x, hx⟩ : ∃ x : Nat, s.2 = x := ⟨s.2.toNat, by omega⟩
        have h := xor_nat x 0 (by omega) (by decide)
        rw [Nat.xor_zero] at h
        rw [hx]
        exact Prod.ext rfl (h.trans hx.symm)
      rw [e] at hf
      exact ⟨k', by omega, free_cst V hso hc hf⟩
    · have he : ((1 : Nat), behindP m s) ∈ edgeW m true s := List.mem_map.2 ⟨-1, mem_actsL.2 (.inl ⟨rfl, hp⟩), rfl⟩
      exact ⟨k' + 1, by omega, free_cst V hbo (.succ hc he) hf⟩
theorem cst_wlk2 {m : Wk} (V : WV m) {s0 : Vs} (h0 : VsOk m s0) {k : Nat} {t : Vs} (h : Cst (edgeW m true) s0 k t) : VsOk m t ∧ Wlk (nextP m) (wanV m s0) k t := by
  induction h with
  | zero => exact ⟨h0, .zero ((mem_wanV V h0).2 .refl)⟩
  | @succ k c s t _ ht ih =>
    obtain ⟨hso, hw⟩ := ih
    have hto := edgeW_ok V hso ht
    refine ⟨hto, ?_⟩
    obtain ⟨a, ha, e⟩ := List.mem_map.1 ht
    injection e with e1 e2
    rcases mem_actsL.1 ha with ⟨rfl, hp⟩ | hg
    · have : c = 1 := by rw [← e1]; rfl
      subst this
      refine .succ hw ?_
      rw [← e2]
      exact (mem_wanV V (behindP_ok V hso)).2 .refl
    · have hn := goL_node V hg
      have : c = 0 := by rw [← e1]; unfold wtA; rw [decide_eq_true hn.1]; rfl
      subst this
      have hm : t ∈ movesV m s := by rw [← e2, doA_pos hn.1]; exact List.mem_map.2 ⟨a, hg, rfl⟩
      cases hw with
      | zero hs => exact .zero ((mem_wanV V h0).2 (.step ((mem_wanV V h0).1 hs) hm))
      | @succ n u _ hu hs =>
        have huo := (wlk_cst V h0 hu).1
        have hbo := behindP_ok V huo
        exact .succ hu ((mem_wanV V hbo).2 (.step ((mem_wanV V hbo).1 hs) hm))
/-- the least number of pulls, as the program finds it and as the model does -/
theorem pulls_same {m : Wk} (V : WV m) {s0 : Vs} (h0 : VsOk m s0) (S : Vs → Prop) : lst (fun n => ∃ s, S s ∧ Wlk (nextP m) (wanV m s0) n s) = lst (fun n => ∃ s, S s ∧ Cst (edgeW m true) s0 n s) := by
  have h := lst_is fun n => ∃ s, S s ∧ Wlk (nextP m) (wanV m s0) n s
  symm
  refine lst_eq ?_
  generalize lst (fun n => ∃ s, S s ∧ Wlk (nextP m) (wanV m s0) n s) = r at h
  cases r with
  | none =>
    rintro k ⟨s, hs, hk⟩
    exact h k ⟨s, hs, (cst_wlk2 V h0 hk).2⟩
  | some n =>
    obtain ⟨⟨s, hs, hw⟩, hmin⟩ := h
    obtain ⟨_, k', hk', hc⟩ := wlk_cst V h0 hw
    have hle := hmin k' ⟨s, hs, (cst_wlk2 V h0 hc).2⟩
    obtain rfl : k' = n := by omega
    refine ⟨⟨s, hs, hc⟩, ?_⟩
    rintro k ⟨t, ht, hk⟩
    exact hmin k ⟨t, ht, (cst_wlk2 V h0 hk).2⟩
/-- the least of what a table of least costs has where S holds -/
theorem minO_dstC {α : Type} (E : α → List (Nat × α)) (s0 : α) (S : α → Prop) : minO S (dstC E s0) = lst fun n => ∃ s, S s ∧ Cst E s0 n s := by
  refine lst_eq ?_
  have h := lst_is fun n => ∃ s, S s ∧ Cst E s0 n s
  have dis : ∀ s, IsLst (fun n => Cst E s0 n s) (dstC E s0 s) := fun s => lst_is _
  generalize lst (fun n => ∃ s, S s ∧ Cst E s0 n s) = r at h
  cases r with
  | none =>
    rintro k ⟨s, hs, hk⟩
    have := dis s
    rw [hk] at this
    exact h k ⟨s, hs, this.1⟩
  | some n =>
    obtain ⟨⟨s, hs, hw⟩, hmin⟩ := h
    refine ⟨⟨s, hs, ?_⟩, ?_⟩
    · have hd := dis s
      cases e : dstC E s0 s with
      | none => rw [e] at hd; exact absurd hw (hd n)
      | some k =>
        rw [e] at hd
        rw [Nat.le_antisymm (hd.2 n hw) (hmin k ⟨s, hs, hd.1⟩)]
    · rintro k ⟨t, ht, hk⟩
      have hd := dis t
      rw [hk] at hd
      exact hmin k ⟨t, ht, hd.1⟩
end M
end Go.Proofs.Ytdgfceiobpnchaa
