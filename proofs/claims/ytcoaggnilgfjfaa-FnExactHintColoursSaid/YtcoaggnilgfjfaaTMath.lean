/-
  WORDS for rows that are written over from a place on, and for a list without those of which a predicate holds, own to these proofs. No condition.
  MATHEMATICS of what remains, own to these proofs: a round of looking at all states finds those from which one wins in so many steps. No condition.
  MATHEMATICS of what remains, the program's way, own to these proofs: all states; from which states one comes to a state; steps backward from where one has won. No condition.
  MATHEMATICS of the first way, own to these proofs: where one can win, one can from all next states; the first next state that is one step nearer, again and again. No condition.
  MATHEMATICS of where a key walk ends, own to these proofs. No condition.
-/
import Derived.Test.YtcoaggnilgfjfaaUBase
import Derived.Lib.SliceRun
import Derived.Test.YtcoaggnilgfjfaaWayMono
import Derived.Test.YtcoaggnilgfjfaaWayI
import Derived.Test.YtcoaggnilgfjfaaTakenMath
namespace Go.Proofs.Ytcoaggnilgfjfaa
open Go.RowKit
namespace M
def over {α : Type} (xs : List α) : Nat → List α → List α
  | _, [] => xs
  | k, v :: vs => over (xs.set k v) (k + 1) vs
theorem over_len {α : Type} : ∀ (vs xs : List α) (k : Nat), (over xs k vs).length = xs.length
  | [], _, _ => rfl
  | v :: vs, xs, k => by unfold over; rw [over_len vs]; simp
theorem over_get {α : Type} : ∀ (vs xs : List α) (k i : Nat), k + vs.length ≤ xs.length → (over xs k vs)[i]? = if i < k then xs[i]? else if i < k + vs.length then vs[i - k]? else xs[i]?
  | [], xs, k, i, _ => by
    unfold over
    simp only [List.length_nil, Nat.add_zero]
    by_cases h : i < k
    · simp only [h, if_true]
    · simp only [h, if_false]
  | v :: vs, xs, k, i, h => by
    unfold over
    simp only [List.length_cons] at h ⊢
    rw [over_get vs (xs.set k v) (k + 1) i (by simp; omega)]
    rcases Nat.lt_trichotomy i k with hi | hi | hi
    · have h1 : i < k + 1 := by omega
      simp only [h1, hi, if_true]
      exact List.getElem?_set_ne (by omega)
    · subst hi
      have h1 : i < i + 1 := by omega
      have h2 : ¬ i < i := by omega
      have h3 : i < i + (vs.length + 1) := by omega
      simp only [h1, h2, h3, if_true, if_false]
      rw [List.getElem?_set_self (by omega), Nat.sub_self]
      rfl
    · have h1 : ¬ i < k + 1 := by omega
      have h2 : ¬ i < k := by omega
      simp only [h1, h2, if_false]
      by_cases h3 : i < k + 1 + vs.length
      · have h4 : i < k + (vs.length + 1) := by omega
        simp only [h3, h4, if_true]
        obtain ⟨j, rfl⟩ : ∃ j, i = k + 1 + j := ⟨i - (k + 1), by omega⟩
        rw [show k + 1 + j - (k + 1) = j by omega, show k + 1 + j - k = j + 1 by omega]
        rfl
      · have h4 : ¬ i < k + (vs.length + 1) := by omega
        simp only [h3, h4, if_false]
        exact List.getElem?_set_ne (by omega)
end M
namespace M
/-- those of which p does not hold -/
def kept {α : Type} (p : α → Bool) (l : List α) : List α := l.filter fun x => !p x
theorem kept_all {α : Type} {p : α → Bool} {l : List α} (h : ∀ j (hj : j < l.length), p l[j] = false) : kept p l = l := by
  unfold kept
  rw [List.filter_eq_self]
  intro x hx
  obtain ⟨j, hj, rfl⟩ := List.mem_iff_getElem.1 hx
  rw [h j hj]; rfl
theorem kept_yes {α : Type} {p : α → Bool} {l : List α} {k : Nat} (hk : k < l.length) (h : p l[k] = false) : kept p (l.take (k + 1)) = kept p (l.take k) ++ [l[k]] := by
  unfold kept
  rw [List.take_succ_eq_append_getElem hk, List.filter_append, List.filter_cons_of_pos (p := fun x => !p x) (by show (!p l[k]) = true; rw [h]; rfl)]
  rfl
theorem kept_no {α : Type} {p : α → Bool} {l : List α} {k : Nat} (hk : k < l.length) (h : p l[k] = true) : kept p (l.take (k + 1)) = kept p (l.take k) := by
  unfold kept
  rw [List.take_succ_eq_append_getElem hk, List.filter_append, List.filter_cons_of_neg (p := fun x => !p x) (by show ¬ (!p l[k]) = true; rw [h]; decide)]
  simp
theorem kept_first {α : Type} {p : α → Bool} {l : List α} {k : Nat} (hk : k < l.length) (h : p l[k] = true) (hn : ∀ j (hj : j < l.length), j < k → p l[j] = false) : l.take k = kept p (l.take (k + 1)) := by
  rw [kept_no hk h]
  exact (kept_all fun j hj => by
    rw [List.length_take] at hj
    rw [List.getElem_take]
    exact hn j (by omega) (by omega)).symm
theorem drop_set_lt {α : Type} (xs : List α) (i j : Nat) (u : α) (h : i < j) : (xs.set i u).drop j = xs.drop j := by
  refine List.ext_getElem? fun k => ?_
  rw [List.getElem?_drop, List.getElem?_drop, List.getElem?_set_ne (by omega)]
theorem take_set_succ {α : Type} (xs : List α) (i : Nat) (u : α) (h : i < xs.length) : (xs.set i u).take (i + 1) = xs.take i ++ [u] := by
  rw [List.take_succ_eq_append_getElem (by simpa using h), List.take_set_of_le (Nat.le_refl _), List.getElem_set_self]
theorem drop_next {α : Type} {xs l : List α} {j : Nat} (h : xs.drop j = l.drop j) : xs.drop (j + 1) = l.drop (j + 1) := by
  rw [← List.drop_drop, ← List.drop_drop, h]
end M
namespace C
theorem Turned.setCells {lo hi : Nat} (b : Nat) (h1 : lo ≤ b) (h2 : b < hi) : ∀ (vs : List Value) (o : Nat) (w : World), Turned lo hi w (w.setCells b o vs)
  | [], _, w => Turned.refl _ _ w
  | v :: vs, o, w => (Turned.setCell w b o v h1 h2).trans (Turned.setCells b h1 h2 vs (o + 1) _)
theorem OwnAt.setCells {lo hi : Nat} {T : TypeId} {b off : Nat} : ∀ (vs : List Value) (k : Nat) (w : World) (xs : List Value), OwnAt lo hi w T (some ⟨b, off, none⟩) xs → OwnAt lo hi (w.setCells b (off + k) vs) T (some ⟨b, off, none⟩) (M.over xs k vs)
  | [], _, _, _, h => h
  | v :: vs, k, w, xs, h => by
    have := OwnAt.setCells vs (k + 1) _ _ (h.set_ rfl k v)
    rwa [← Nat.add_assoc] at this
theorem OwnAt.less {lo hi : Nat} {w : World} {T : TypeId} {a : Option Addr} {xs ys : List Value} (h : OwnAt lo hi w T a xs) (hy : ∀ (i : Nat) u, ys[i]? = some u → xs[i]? = some u) : OwnAt lo hi w T a ys := by
  rcases h with h | ⟨g, off, cur, ha, h1, h2, hh, hc⟩
  · left
    cases ys with
    | nil => rfl
    | cons y ys => exact absurd (hy 0 y (by simp)) (by rw [h]; simp)
  · exact .inr ⟨g, off, cur, ha, h1, h2, hh, fun i u hu => hc i u (hy i u hu)⟩
end C
end Go.Proofs.Ytcoaggnilgfjfaa
namespace Go.Proofs.Ytcoaggnilgfjfaa
open Go.RowKit
namespace M
section
variable {α : Type} {N : α → List α} {W : α → Prop} {R : α → Option Nat} {S : α → Prop}
def cutO (n : Nat) : Option Nat → Option Nat
  | some k => if k < n then some k else none
  | none => none
theorem cutO_some {n : Nat} {r : Option Nat} {k : Nat} : cutO n r = some k ↔ r = some k ∧ k < n := by
  cases r with
  | none => simp [cutO]
  | some v =>
    show (if v < n then some v else none) = _ ↔ _
    by_cases h : v < n
    · rw [if_pos h]
      constructor
      · intro e; injection e with e; subst e; exact ⟨rfl, h⟩
      · exact fun e => e.1
    · rw [if_neg h]
      constructor
      · intro e; cases e
      · rintro ⟨e, hk⟩; injection e with e; omega
theorem cutO_none {n : Nat} {r : Option Nat} : cutO n r = none ↔ ∀ k, r = some k → n ≤ k := by
  cases r with
  | none => simp [cutO]
  | some v =>
    show (if v < n then some v else none) = _ ↔ _
    by_cases h : v < n
    · rw [if_pos h]
      constructor
      · intro e; cases e
      · intro e; have := e v rfl; omega
    · rw [if_neg h]
      constructor
      · intro _ k e; injection e with e; omega
      · exact fun _ => rfl
/-- in how many steps one wins -/
def Wins (N : α → List α) (W : α → Prop) (n : Nat) (s : α) : Prop := ∃ t, W t ∧ Wlk N [s] n t
theorem wins_zero {s : α} : Wins N W 0 s ↔ W s := by
  constructor
  · rintro ⟨t, ht, hw⟩
    rw [wlk_zero, List.mem_singleton] at hw
    subst hw
    exact ht
  · exact fun h => ⟨s, h, .zero (by simp)⟩
theorem wins_succ {n : Nat} {s : α} : Wins N W (n + 1) s ↔ ∃ u, u ∈ N s ∧ Wins N W n u := by
  constructor
  · rintro ⟨t, ht, hw⟩
    obtain ⟨u, hu, hw⟩ := wlk_first.1 hw
    exact ⟨u, hu, t, ht, hw⟩
  · rintro ⟨u, hu, t, ht, hw⟩
    exact ⟨t, ht, wlk_first.2 ⟨u, hu, hw⟩⟩
theorem rem_some {s : α} (hR : ∀ s, IsLst (fun n => Wins N W n s) (R s)) {k : Nat} : R s = some k ↔ Wins N W k s ∧ ∀ j, Wins N W j s → k ≤ j := by
  constructor
  · intro h
    have := hR s
    rw [h] at this
    exact this
  · rintro ⟨h1, h2⟩
    exact (hR s).unique (r' := some k) ⟨h1, h2⟩
theorem rem_le {s : α} (hR : ∀ s, IsLst (fun n => Wins N W n s) (R s)) {n : Nat} (h : Wins N W n s) : ∃ k, R s = some k ∧ k ≤ n := by
  have := hR s
  cases e : R s with
  | none => rw [e] at this; exact absurd h (this n)
  | some k => rw [e] at this; exact ⟨k, rfl, this.2 n h⟩
theorem rem_zero {s : α} (hR : ∀ s, IsLst (fun n => Wins N W n s) (R s)) : R s = some 0 ↔ W s := by
  rw [rem_some hR, wins_zero]
  exact ⟨fun h => h.1, fun h => ⟨h, fun _ _ => Nat.zero_le _⟩⟩
/-- some next state is one step nearer -/
theorem rem_down {s : α} (hR : ∀ s, IsLst (fun n => Wins N W n s) (R s)) {n : Nat} (h : R s = some (n + 1)) : ∃ u, u ∈ N s ∧ R u = some n := by
  obtain ⟨h1, h2⟩ := (rem_some hR).1 h
  obtain ⟨u, hu, hw⟩ := wins_succ.1 h1
  obtain ⟨k, hk, hkn⟩ := rem_le hR hw
  have := h2 (k + 1) (wins_succ.2 ⟨u, hu, ((rem_some hR).1 hk).1⟩)
  have e : k = n := by omega
  subst e
  exact ⟨u, hu, hk⟩
theorem rem_step {s u : α} (hR : ∀ s, IsLst (fun n => Wins N W n s) (R s)) {n : Nat} (hu : u ∈ N s) (h : R u = some n) : ∃ k, R s = some k ∧ k ≤ n + 1 :=
  rem_le hR (wins_succ.2 ⟨u, hu, ((rem_some hR).1 h).1⟩)
theorem round_yes {s u : α} (hR : ∀ s, IsLst (fun n => Wins N W n s) (R s)) {n : Nat} (hc : cutO (n + 1) (R s) = none) (hu : u ∈ N s) (h : R u = some n) : R s = some (n + 1) := by
  obtain ⟨k, hk, hkn⟩ := rem_step hR hu h
  have := cutO_none.1 hc k hk
  rw [hk]
  congr 1
  omega
theorem round_no {s : α} (hR : ∀ s, IsLst (fun n => Wins N W n s) (R s)) {n : Nat} (hc : cutO (n + 1) (R s) = none) (h : ∀ u ∈ N s, R u ≠ some n) : cutO (n + 2) (R s) = none := by
  refine cutO_none.2 fun k hk => ?_
  have h1 := cutO_none.1 hc k hk
  rcases Nat.lt_or_ge (n + 1) k with h2 | h2
  · omega
  · have e : k = n + 1 := by omega
    subst e
    obtain ⟨u, hu, hk⟩ := rem_down hR hk
    exact absurd hk (h u hu)
theorem rem_reach (hR : ∀ s, IsLst (fun n => Wins N W n s) (R s)) (hS : ∀ s, S s → ∀ t ∈ N s, S t) {j : Nat} : ∀ {k : Nat} {s : α}, S s → R s = some k → j ≤ k → ∃ u, S u ∧ R u = some j
  | 0, s, h, hk, hj => ⟨s, h, by rw [hk]; congr 1; omega⟩
  | k + 1, s, h, hk, hj => by
    rcases Nat.lt_or_ge j (k + 1) with hl | hl
    · obtain ⟨u, hu, hk⟩ := rem_down hR hk
      exact rem_reach hR hS (hS s h u hu) hk (by omega)
    · exact ⟨s, h, by rw [hk]; congr 1; omega⟩
theorem rem_done (hR : ∀ s, IsLst (fun n => Wins N W n s) (R s)) (hS : ∀ s, S s → ∀ t ∈ N s, S t) {n : Nat} (hno : ∀ s, S s → R s ≠ some n) {s : α} (h : S s) : cutO n (R s) = R s := by
  cases e : R s with
  | none => rfl
  | some k =>
    refine cutO_some.2 ⟨rfl, Nat.lt_of_not_le fun hk => ?_⟩
    obtain ⟨u, hu, hk⟩ := rem_reach hR hS h e hk
    exact hno u hu hk
end
/-- in how many steps one can win from a node with a set and the keys of the node -/
noncomputable def remO (m : Mz) (s : St) : Option Nat := wayO m (stAt m s.1 s.2) (wonB m)
noncomputable def remainL (m : Mz) : List Int := tblL (size64 m) (remO m)
theorem way_is (m : Mz) (s : St) : IsLst (fun n => Wins (nexts m) (fun t => wonB m t = true) n s) (wayO m s (wonB m)) := by
  rw [wayO_lst]
  exact lst_is _
theorem orAA_fin : ∀ a b : Fin 64, bits .or .i64 (bits .or .i64 (a.val : Int) (b.val : Int)) (b.val : Int) = bits .or .i64 (a.val : Int) (b.val : Int) := by decide +kernel
theorem orAA {a b : Int} (ha : 0 ≤ a ∧ a < 64) (hb : 0 ≤ b ∧ b < 64) : bits .or .i64 (bits .or .i64 a b) b = bits .or .i64 a b := by
  have := orAA_fin ⟨a.toNat, by omega⟩ ⟨b.toNat, by omega⟩
  simp only [Int.toNat_of_nonneg ha.1, Int.toNat_of_nonneg hb.1] at this
  exact this
theorem stAt_idem {m : Mz} (V : Valid m) {x set : Int} (h0 : 0 ≤ set ∧ set < 64) : stAt m (stAt m x set).1 (stAt m x set).2 = stAt m x set := by
  unfold stAt
  simp only
  rw [orAA h0 (keyAt_set V x)]
/-- states as they are met: with the keys of the node -/
def Met (m : Mz) (s : St) : Prop := StOk m s ∧ stAt m s.1 s.2 = s
theorem met_at {m : Mz} (V : Valid m) {s : St} (h : StOk m s) : Met m (stAt m s.1 s.2) :=
  ⟨stAt_ok V h.1 h.2.1 h.2.2.1 h.2.2.2, stAt_idem V ⟨h.2.2.1, h.2.2.2⟩⟩
theorem met_next {m : Mz} (V : Valid m) {s : St} (h : Met m s) {t : St} (ht : t ∈ nexts m s) : Met m t := by
  refine ⟨nexts_ok V h.1 ht, ?_⟩
  obtain ⟨y, hy, _, rfl⟩ := mem_nexts.1 ht
  exact stAt_idem V ⟨h.1.2.2.1, h.1.2.2.2⟩
theorem remO_met {m : Mz} {s : St} (h : stAt m s.1 s.2 = s) : remO m s = wayO m s (wonB m) := by unfold remO; rw [h]
/-- it takes fewer steps than there are states -/
theorem rem_small {m : Mz} (V : Valid m) {s : St} (hs : Met m s) {k : Nat} (h : wayO m s (wonB m) = some k) : k < size64 m := by
  have hex : ∀ j : Nat, ∃ u, j ≤ k → Met m u ∧ wayO m u (wonB m) = some j := fun j => by
    rcases Nat.lt_or_ge k j with hj | hj
    · exact ⟨s, fun h => by omega⟩
    · obtain ⟨u, hu, hr⟩ := rem_reach (way_is m) (S := Met m) (fun s h t ht => met_next V h ht) hs h hj
      exact ⟨u, fun _ => ⟨hu, hr⟩⟩
  obtain ⟨g, hg⟩ := Classical.axiomOfChoice hex
  have := nodup_len (n := size64 m) (l := (List.range (k + 1)).map fun j => ((idN (g j) : Nat) : Int)) (by
    rw [List.nodup_iff_pairwise_ne, List.pairwise_map]
    refine List.Pairwise.imp_of_mem (fun {a b} ha hb hab e => hab ?_) (List.nodup_range (n := k + 1))
    rw [List.mem_range] at ha hb
    obtain ⟨a1, a2⟩ := hg a (by omega)
    obtain ⟨b1, b2⟩ := hg b (by omega)
    have e' : idN (g a) = idN (g b) := by omega
    have e2 : g a = g b := by rw [← unid_idN a1.1, ← unid_idN b1.1, e']
    rw [e2, b2] at a2
    injection a2 with a2
    exact a2.symm) (fun z hz => by
    obtain ⟨j, hj, rfl⟩ := List.mem_map.1 hz
    rw [List.mem_range] at hj
    have := idN_lt (hg j (by omega)).1.1
    unfold size64
    constructor <;> omega)
  rw [List.length_map, List.length_range] at this
  omega
def tblN (n : Nat) (g : Nat → Option Nat) : List Int := (List.range n).map fun i => optI (g i)
theorem tblN_len (n : Nat) (g : Nat → Option Nat) : (tblN n g).length = n := by unfold tblN; simp
theorem tblN_at {n : Nat} {g : Nat → Option Nat} {i : Nat} (h : i < n) : (encIs (tblN n g))[i]? = some (.int .i64 (optI (g i))) := by
  unfold encIs tblN
  rw [List.getElem?_map, List.getElem?_map, List.getElem?_range h]
  rfl
theorem tblN_congr {n : Nat} {g g' : Nat → Option Nat} (h : ∀ i, i < n → g i = g' i) : tblN n g = tblN n g' := by
  unfold tblN
  refine List.map_congr_left fun i hi => ?_
  rw [List.mem_range] at hi
  rw [h i hi]
theorem tblN_set {n : Nat} (g : Nat → Option Nat) (i : Nat) (k : Nat) : (encIs (tblN n g)).set i (.int .i64 (k : Int)) = encIs (tblN n fun j => if j = i then some k else g j) := by
  refine List.ext_getElem? fun j => ?_
  rw [List.getElem?_set]
  rcases Nat.lt_or_ge j n with h | h
  · rw [tblN_at h, tblN_at h]
    by_cases e : i = j
    · subst e
      rw [if_pos rfl, if_pos (by rw [encIs_len, tblN_len]; exact h), if_pos rfl]
      rfl
    · rw [if_neg e, if_neg (fun e2 => e e2.symm)]
  · rw [List.getElem?_eq_none (l := encIs (tblN n fun j => if j = i then some k else g j)) (by rw [encIs_len, tblN_len]; exact h)]
    split
    · rw [if_neg (by rw [encIs_len, tblN_len]; omega)]
    · exact List.getElem?_eq_none (by rw [encIs_len, tblN_len]; exact h)
theorem tblL_N (n : Nat) (f : St → Option Nat) : tblL n f = tblN n fun i => f (unid i) := rfl
theorem unid_ok {m : Mz} {i : Nat} (h : i < size64 m) : StOk m (unid i) := by
  unfold size64 at h
  unfold unid StOk
  simp only
  omega
/-- in the middle of a round: the states before i have been looked at -/
noncomputable def midG (m : Mz) (n i : Nat) : Nat → Option Nat := fun j => cutO (if j < i then n + 1 else n) (remO m (unid j))
theorem midG_zero (m : Mz) (n : Nat) : midG m n 0 = fun j => cutO n (remO m (unid j)) := by
  unfold midG
  funext j
  rw [if_neg (Nat.not_lt_zero _)]
theorem midG_set {m : Mz} {n i : Nat} {f : Option Nat} (h : f = cutO (n + 1) (remO m (unid i))) : (fun j => if j = i then f else midG m n i j) = midG m n (i + 1) := by
  subst h
  funext j
  unfold midG
  by_cases e : j = i
  · subst e
    rw [if_pos rfl, if_pos (Nat.lt_succ_self _)]
  · rw [if_neg e]
    by_cases hl : j < i
    · rw [if_pos hl, if_pos (by omega)]
    · rw [if_neg hl, if_neg (by omega)]
theorem midG_at (m : Mz) (n i : Nat) : midG m n i i = cutO n (remO m (unid i)) := by
  unfold midG
  rw [if_neg (Nat.lt_irrefl _)]
theorem midG_same {m : Mz} {n i : Nat} (h : cutO n (remO m (unid i)) = cutO (n + 1) (remO m (unid i))) : midG m n i = midG m n (i + 1) := by
  rw [← midG_set h]
  funext j
  by_cases e : j = i
  · subst e; rw [if_pos rfl, midG_at]
  · rw [if_neg e]
theorem midG_end (m : Mz) (n : Nat) : tblN (size64 m) (midG m n (size64 m)) = tblN (size64 m) (midG m (n + 1) 0) :=
  tblN_congr fun i hi => by unfold midG; rw [if_pos hi, if_neg (Nat.not_lt_zero _)]
/-- what lies at a next state is told right, on either side of i -/
theorem midG_one {m : Mz} {n i j : Nat} : midG m (n + 1) i j = some n ↔ remO m (unid j) = some n := by
  unfold midG
  rw [cutO_some]
  constructor
  · exact fun h => h.1
  · intro h
    refine ⟨h, ?_⟩
    split <;> omega
theorem remain_all {m : Mz} (V : Valid m) : tblN (size64 m) (midG m (size64 m) 0) = remainL m := by
  unfold remainL
  rw [tblL_N, midG_zero]
  refine tblN_congr fun i hi => ?_
  cases e : remO m (unid i) with
  | none => rfl
  | some k => exact cutO_some.2 ⟨rfl, rem_small V (met_at V (unid_ok hi)) e⟩
theorem remain_same {m : Mz} (V : Valid m) {n k : Nat} (hnk : n ≤ k) (h : ∀ i, i < size64 m → remO m (unid i) ≠ some n) : tblN (size64 m) (midG m k 0) = remainL m := by
  unfold remainL
  rw [tblL_N, midG_zero]
  refine tblN_congr fun i hi => ?_
  have hd : cutO n (remO m (unid i)) = remO m (unid i) := rem_done (way_is m) (S := Met m) (fun s h t ht => met_next V h ht) (n := n) (fun s hs e => by
    refine h (idN s) (idN_lt hs.1) ?_
    rw [unid_idN hs.1, remO_met hs.2]
    exact e) (met_at V (unid_ok hi))
  cases e : remO m (unid i) with
  | none => rfl
  | some v =>
    rw [e] at hd
    exact cutO_some.2 ⟨rfl, by have := (cutO_some.1 hd).2; omega⟩
theorem rem_next {m : Mz} (V : Valid m) {i : Nat} (hi : i < size64 m) {u : St} (hu : u ∈ nexts m (stAt m (unid i).1 (unid i).2)) : remO m u = wayO m u (wonB m) := remO_met (met_next V (met_at V (unid_ok hi)) hu).2
theorem rem_yes {m : Mz} (V : Valid m) {i n : Nat} (hi : i < size64 m) (hc : cutO (n + 1) (remO m (unid i)) = none) {u : St} (hu : u ∈ nexts m (stAt m (unid i).1 (unid i).2)) (h : remO m u = some n) : remO m (unid i) = some (n + 1) :=
  round_yes (way_is m) hc hu (by rw [← rem_next V hi hu]; exact h)
theorem rem_no {m : Mz} (V : Valid m) {i n : Nat} (hi : i < size64 m) (hc : cutO (n + 1) (remO m (unid i)) = none) (h : ∀ u ∈ nexts m (stAt m (unid i).1 (unid i).2), remO m u ≠ some n) : cutO (n + 2) (remO m (unid i)) = none :=
  round_no (way_is m) hc fun u hu => by rw [← rem_next V hi hu]; exact h u hu
theorem remain_start {m : Mz} (i : Nat) : cutO 1 (remO m (unid i)) = if wonB m (unid i) = true then some 0 else none := by
  have h : remO m (unid i) = some 0 ↔ wonB m (unid i) = true := rem_zero (way_is m)
  by_cases hw : wonB m (unid i) = true
  · rw [if_pos hw]
    exact cutO_some.2 ⟨h.2 hw, by decide⟩
  · rw [if_neg hw]
    refine cutO_none.2 fun k hk => ?_
    rcases Nat.eq_zero_or_pos k with e | e
    · subst e; exact absurd (h.1 hk) hw
    · exact e
theorem mid_no {m : Mz} (V : Valid m) {i n : Nat} (hi : i < size64 m) (h : cutO (n + 1) (remO m (unid i)) = none → ∀ u ∈ nexts m (stAt m (unid i).1 (unid i).2), remO m u ≠ some n) : midG m (n + 1) i = midG m (n + 1) (i + 1) ∧ remO m (unid i) ≠ some (n + 1) := by
  cases e : cutO (n + 1) (remO m (unid i)) with
  | none =>
    have h1 := rem_no V hi e (h e)
    exact ⟨midG_same (e.trans h1.symm), fun he => by have := cutO_none.1 h1 _ he; omega⟩
  | some v =>
    obtain ⟨h1, h2⟩ := cutO_some.1 e
    exact ⟨midG_same (e.trans (cutO_some.2 ⟨h1, by omega⟩).symm), fun he => by rw [h1] at he; injection he with he; omega⟩
theorem mid_yes {m : Mz} {i n : Nat} (h : remO m (unid i) = some (n + 1)) : (fun j => if j = i then some (n + 1) else midG m (n + 1) i j) = midG m (n + 1) (i + 1) :=
  midG_set (by rw [h]; exact (cutO_some.2 ⟨rfl, by omega⟩).symm)
theorem mid_next (m : Mz) (n i : Nat) {t : St} (h : StOk m t) : midG m (n + 1) i (idN t) = some n ↔ remO m t = some n := by rw [midG_one, unid_idN h]
theorem optI_eq {r : Option Nat} {n : Nat} : optI r = (n : Int) ↔ r = some n := by
  cases r with
  | none => simp [optI]
  | some v => simp [optI]; omega
theorem remO_bd {m : Mz} (V : Valid m) {i : Nat} (hi : i < size64 m) {k : Nat} (h : remO m (unid i) = some k) : k < size64 m := rem_small V (met_at V (unid_ok hi)) h
end M
end Go.Proofs.Ytcoaggnilgfjfaa
namespace Go.Proofs.Ytcoaggnilgfjfaa
open Go.RowKit
namespace M
/-- all states, in the order of their numbers: of the first k numbers -/
def allTo (m : Mz) (k : Nat) : List St := ((List.range k).map unid).filter fun s => hasB s.2 (keyAt m s.1)
def allSt (m : Mz) : List St := allTo m (size64 m)
theorem allTo_zero (m : Mz) : allTo m 0 = [] := rfl
theorem allTo_yes {m : Mz} {k : Nat} (h : hasB (unid k).2 (keyAt m (unid k).1) = true) : allTo m (k + 1) = allTo m k ++ [unid k] := by
  unfold allTo
  rw [List.range_succ, List.map_append, List.filter_append]
  congr 1
  show List.filter _ [unid k] = _
  rw [List.filter_cons_of_pos (p := fun s : St => hasB s.2 (keyAt m s.1)) h]
  rfl
theorem allTo_no {m : Mz} {k : Nat} (h : hasB (unid k).2 (keyAt m (unid k).1) = false) : allTo m (k + 1) = allTo m k := by
  unfold allTo
  rw [List.range_succ, List.map_append, List.filter_append]
  show _ ++ List.filter _ [unid k] = _
  rw [List.filter_cons_of_neg (p := fun s : St => hasB s.2 (keyAt m s.1)) (by rw [h]; decide)]
  simp
theorem allTo_len (m : Mz) (k : Nat) : (allTo m k).length ≤ k := by
  unfold allTo
  refine Nat.le_trans (List.length_filter_le _ _) ?_
  simp
theorem unid_at (k j : Nat) (h : j < 64) : unid (k * 64 + j) = ((k : Int), (j : Int)) := by
  unfold unid
  rw [show (k * 64 + j) / 64 = k by omega, show (k * 64 + j) % 64 = j by omega]
theorem hasOr_fin : ∀ a b : Fin 64, hasB (a.val : Int) (b.val : Int) = (bits .or .i64 (a.val : Int) (b.val : Int) == (a.val : Int)) := by decide +kernel
theorem hasOr {a b : Int} (ha : 0 ≤ a ∧ a < 64) (hb : 0 ≤ b ∧ b < 64) : hasB a b = (bits .or .i64 a b == a) := by
  have := hasOr_fin ⟨a.toNat, by omega⟩ ⟨b.toNat, by omega⟩
  simp only [Int.toNat_of_nonneg ha.1, Int.toNat_of_nonneg hb.1] at this
  exact this
theorem met_has {m : Mz} (V : Valid m) {s : St} (h : StOk m s) : Met m s ↔ hasB s.2 (keyAt m s.1) = true := by
  rw [hasOr ⟨h.2.2.1, h.2.2.2⟩ (keyAt_set V s.1), beq_iff_eq]
  constructor
  · intro hm
    exact congrArg (fun p : St => p.2) hm.2
  · intro e
    refine ⟨h, ?_⟩
    obtain ⟨x, y⟩ := s
    unfold stAt
    simp only at e ⊢
    rw [e]
theorem mem_allSt {m : Mz} (V : Valid m) {s : St} : s ∈ allSt m ↔ Met m s := by
  unfold allSt allTo
  rw [List.mem_filter, List.mem_map]
  constructor
  · rintro ⟨⟨i, hi, rfl⟩, h2⟩
    rw [List.mem_range] at hi
    exact (met_has V (unid_ok hi)).2 h2
  · intro h
    refine ⟨⟨idN s, ?_, unid_idN h.1⟩, (met_has V h.1).1 h⟩
    rw [List.mem_range]
    exact idN_lt h.1
theorem unid_inj {i j : Nat} (h : unid i = unid j) : i = j := by rw [← idN_unid i, ← idN_unid j, h]
theorem allSt_nodup (m : Mz) : (allSt m).Nodup := by
  unfold allSt allTo
  refine List.Pairwise.filter _ ?_
  rw [List.pairwise_map]
  exact List.Pairwise.imp (fun hab e => hab (unid_inj e)) (List.nodup_range (n := size64 m))
theorem allSt_len (m : Mz) : (allSt m).length ≤ size64 m := allTo_len m _
theorem nexts_nodup (m : Mz) (s : St) : (nexts m s).Nodup := by
  unfold nexts nextsTo
  rw [List.nodup_iff_pairwise_ne, List.pairwise_map]
  refine List.Pairwise.imp (fun {a b} hab e => hab ?_) (List.Pairwise.filter _ (List.nodup_range (n := m.size.toNat)))
  have : ((a : Nat) : Int) = ((b : Nat) : Int) := congrArg (fun p : St => p.1) e
  omega
def wonL (m : Mz) : List St := (allSt m).filter (wonB m)
def preds (m : Mz) (t : St) : List St := (allSt m).filter fun s => decide (t ∈ nexts m s)
theorem preds_len (m : Mz) (t : St) : (preds m t).length ≤ size64 m := Nat.le_trans (List.length_filter_le _ _) (allSt_len m)
theorem mem_preds {m : Mz} (V : Valid m) {s t : St} : s ∈ preds m t ↔ Met m s ∧ t ∈ nexts m s := by
  unfold preds
  rw [List.mem_filter, mem_allSt V, decide_eq_true_iff]
theorem mem_wonL {m : Mz} (V : Valid m) {s : St} : s ∈ wonL m ↔ Met m s ∧ wonB m s = true := by
  unfold wonL
  rw [List.mem_filter, mem_allSt V]
theorem wlk_back {m : Mz} (V : Valid m) : ∀ {n : Nat} {s : St}, Wlk (preds m) (wonL m) n s ↔ Met m s ∧ Wins (nexts m) (fun t => wonB m t = true) n s
  | 0, s => by rw [wlk_zero, mem_wonL V, wins_zero]
  | n + 1, s => by
    rw [wlk_succ, wins_succ]
    constructor
    · rintro ⟨u, hu, hs⟩
      obtain ⟨hm, hn⟩ := (mem_preds V).1 hs
      exact ⟨hm, u, hn, ((wlk_back V).1 hu).2⟩
    · rintro ⟨hm, u, hn, hu⟩
      exact ⟨u, (wlk_back V).2 ⟨met_next V hm hn, hu⟩, (mem_preds V).2 ⟨hm, hn⟩⟩
/-- the numbers that the program finds -/
noncomputable def remF (m : Mz) : St → Option Nat := dst (preds m) (wonL m)
theorem remF_met {m : Mz} (V : Valid m) {s : St} (h : Met m s) : remF m s = wayO m s (wonB m) := by
  refine (dst_is (preds m) (wonL m) s).unique ((way_is m s).congr fun n => ?_)
  rw [wlk_back V]
  exact ⟨fun hw => ⟨h, hw⟩, fun hw => hw.2⟩
theorem remF_ok {m : Mz} (V : Valid m) {s : St} {n : Nat} (h : remF m s = some n) : Met m s := by
  have := dst_is (preds m) (wonL m) s
  unfold remF at h
  rw [h] at this
  exact ((wlk_back V).1 this.1).1
theorem preds_steps {m : Mz} (V : Valid m) : C.StepsOk (preds m) (StOk m) (wonL m) := by
  have v12 := V.size12
  refine ⟨List.Pairwise.filter _ (allSt_nodup m), fun t ht => ((mem_wonL V).1 ht).1.1, fun t ht u hu => ((mem_preds V).1 hu).1.1, fun t ht => C.st64 V ht, fun t _ => ?_, 768, fun t => t.1 * 64 + t.2, by decide, fun t ht => ?_, fun t u ht hu e => ?_⟩
  · have := preds_len m t
    unfold size64 at this
    omega
  · obtain ⟨h1, h2, h3, h4⟩ := ht
    show 0 ≤ t.1 * 64 + t.2 ∧ t.1 * 64 + t.2 < 768
    constructor <;> omega
  · have h1 := unid_idN ht
    have h2 := unid_idN hu
    have e' : t.1 * 64 + t.2 = u.1 * 64 + u.2 := e
    have e2 : idN t = idN u := by unfold idN; rw [e']
    rw [← h1, ← h2, e2]
section
/-- which of the first states come to t, and of the next one x, by the first of its steps -/
def befK (m : Mz) (k : Nat) (t : St) : List St := ((allSt m).take k).filter fun s => decide (t ∈ nexts m s)
def befM (m : Mz) (k : Nat) (x : St) (j : Nat) (t : St) : List St := befK m k t ++ if t ∈ (nexts m x).take j then [x] else []
def updB (f : St → List St) (t : St) (l : List St) : St → List St := fun s => if s = t then l else f s
theorem befK_zero (m : Mz) : befK m 0 = fun _ => [] := by unfold befK; funext t; simp
theorem befM_zero (m : Mz) (k : Nat) (x : St) : befM m k x 0 = befK m k := by unfold befM; funext t; simp
theorem befK_all (m : Mz) : befK m (allSt m).length = preds m := by unfold befK preds; funext t; rw [List.take_length]
theorem befM_end {m : Mz} {k : Nat} (hk : k < (allSt m).length) : befM m k (allSt m)[k] (nexts m (allSt m)[k]).length = befK m (k + 1) := by
  funext t
  unfold befM befK
  rw [List.take_length, List.take_succ_eq_append_getElem hk, List.filter_append]
  congr 1
  by_cases h : t ∈ nexts m (allSt m)[k]
  · rw [if_pos h, List.filter_cons_of_pos (p := fun s => decide (t ∈ nexts m s)) (by simpa using h)]
    rfl
  · rw [if_neg h, List.filter_cons_of_neg (p := fun s => decide (t ∈ nexts m s)) (by simpa using h)]
    rfl
theorem befM_succ {m : Mz} {k : Nat} {x : St} {j : Nat} (hj : j < (nexts m x).length) : befM m k x (j + 1) = updB (befM m k x j) (nexts m x)[j] (befM m k x j (nexts m x)[j] ++ [x]) := by
  have hnot := C.take_notin (nexts_nodup m x) hj
  funext t
  unfold updB
  by_cases e : t = (nexts m x)[j]
  · rw [if_pos e, e]
    unfold befM
    rw [if_neg hnot, if_pos (by rw [List.take_succ_eq_append_getElem hj, List.mem_append]; exact .inr (List.mem_singleton.2 rfl)), List.append_nil]
  · rw [if_neg e]
    unfold befM
    congr 1
    rw [List.take_succ_eq_append_getElem hj]
    simp only [List.mem_append, List.mem_singleton, e, or_false]
theorem befM_len (m : Mz) (k : Nat) (x : St) (j : Nat) (t : St) : (befM m k x j t).length ≤ size64 m + 1 := by
  unfold befM befK
  rw [List.length_append]
  have h1 := List.length_filter_le (fun s => decide (t ∈ nexts m s)) ((allSt m).take k)
  rw [List.length_take] at h1
  have h2 := allSt_len m
  split <;> simp <;> omega
end
end M
end Go.Proofs.Ytcoaggnilgfjfaa
namespace Go.Proofs.Ytcoaggnilgfjfaa
open Go.RowKit
namespace M
theorem has2_orL_fin : ∀ a b : Fin 64, has2B (bits .or .i64 (a.val : Int) (b.val : Int)) (a.val : Int) = true := by decide +kernel
theorem has2_orL {a b : Int} (ha : 0 ≤ a ∧ a < 64) (hb : 0 ≤ b ∧ b < 64) : has2B (bits .or .i64 a b) a = true := by
  have := has2_orL_fin ⟨a.toNat, by omega⟩ ⟨b.toNat, by omega⟩
  simp only [Int.toNat_of_nonneg ha.1, Int.toNat_of_nonneg hb.1] at this
  exact this
theorem joins_comm (d : Dr) (x y : Int) : joinsB d x y = joinsB d y x := by
  unfold joinsB
  rw [Bool.or_comm]
theorem open_comm (l : List Dr) (x y set : Int) : openB l x y set = openB l y x set := by
  unfold openB
  congr 1
  funext d
  rw [joins_comm]
/-- one can come back through each door, with more -/
theorem next_back {m : Mz} (V : Valid m) {s : St} (hs : Met m s) {u : St} (hu : u ∈ nexts m s) : ∃ v, v ∈ nexts m u ∧ v.1 = s.1 ∧ has2B v.2 s.2 = true ∧ StOk m v := by
  obtain ⟨y, hy, ho, rfl⟩ := mem_nexts.1 hu
  have hky := keyAt_set V (y : Int)
  have hkx := keyAt_set V s.1
  obtain ⟨h1, h2, h3, h4⟩ := hs.1
  have hou := or_set h3 h4 hky.1 hky.2
  have hg := has2_orL ⟨h3, h4⟩ hky
  refine ⟨stAt m s.1 (stAt m y s.2).2, mem_nexts.2 ⟨s.1.toNat, by omega, ?_, ?_⟩, rfl, ?_, stAt_ok V h1 h2 hou.1 hou.2⟩
  · show openB m.doors (y : Int) ((s.1.toNat : Nat) : Int) (bits .or .i64 s.2 (keyAt m y)) = true
    rw [Int.toNat_of_nonneg h1, open_comm]
    exact open_mono V ⟨h3, h4⟩ ⟨hou.1, hou.2⟩ hg ho
  · rw [Int.toNat_of_nonneg h1]
  · show has2B (bits .or .i64 (bits .or .i64 s.2 (keyAt m y)) (keyAt m s.1)) s.2 = true
    have h5 := or_set hou.1 hou.2 hkx.1 hkx.2
    exact has2_trans ⟨h5.1, h5.2⟩ ⟨hou.1, hou.2⟩ ⟨h3, h4⟩ (has2_orL ⟨hou.1, hou.2⟩ hkx) hg
theorem can_more {m : Mz} (V : Valid m) {s s' : St} (hs : StOk m s) (hs' : StOk m s') (hx : s'.1 = s.1) (hh : has2B s'.2 s.2 = true) {n : Nat} (h : wayO m s (wonB m) = some n) : ∃ k, wayO m s' (wonB m) = some k ∧ k ≤ n := by
  obtain ⟨⟨t, ht, hw⟩, _⟩ := (rem_some (way_is m)).1 h
  obtain ⟨t', hw', _, _, he, _⟩ := wlk_mono V hs hs' hx hh hw
  exact rem_le (way_is m) ⟨t', by
    show (t'.1 == m.size - 1) = true
    rw [he]
    exact ht, hw'⟩
/-- where one can win, one can from all next states -/
theorem next_can {m : Mz} (V : Valid m) {s : St} (hs : Met m s) {u : St} (hu : u ∈ nexts m s) {n : Nat} (h : wayO m s (wonB m) = some n) : ∃ k, wayO m u (wonB m) = some k ∧ n ≤ k + 1 := by
  obtain ⟨v, hv, hx, hh, hok⟩ := next_back V hs hu
  obtain ⟨k, hk, _⟩ := can_more V hs.1 hok hx hh h
  obtain ⟨j, hj, _⟩ := rem_step (way_is m) hv hk
  obtain ⟨i, hi, hij⟩ := rem_step (way_is m) hu hj
  rw [h] at hi
  injection hi with hi
  exact ⟨j, hj, by omega⟩
/-- the first next state from which it takes n steps -/
noncomputable def nxS (m : Mz) (s : St) (n : Nat) : St := ((nexts m s).find? fun u => decide (wayO m u (wonB m) = some n)).getD s
noncomputable def wayL (m : Mz) : Nat → St → List Int
  | 0, s => [s.1]
  | n + 1, s => s.1 :: wayL m n (nxS m s n)
theorem nxS_at {m : Mz} {s : St} {n k : Nat} (hk : k < (nexts m s).length) (h : wayO m (nexts m s)[k] (wonB m) = some n) (hno : ∀ j (hj : j < (nexts m s).length), j < k → wayO m (nexts m s)[j] (wonB m) ≠ some n) : nxS m s n = (nexts m s)[k] := by
  unfold nxS
  have : (nexts m s).find? (fun u => decide (wayO m u (wonB m) = some n)) = some (nexts m s)[k] := by
    rw [List.find?_eq_some_iff_getElem]
    exact ⟨decide_eq_true h, k, hk, rfl, fun j hj => by simpa using hno j (by omega) hj⟩
  rw [this]
  rfl
theorem nxS_ok {m : Mz} {s : St} {n : Nat} (h : wayO m s (wonB m) = some (n + 1)) : nxS m s n ∈ nexts m s ∧ wayO m (nxS m s n) (wonB m) = some n := by
  obtain ⟨u, hu, hn⟩ := rem_down (way_is m) h
  unfold nxS
  cases e : (nexts m s).find? (fun u => decide (wayO m u (wonB m) = some n)) with
  | none =>
    have := List.find?_eq_none.1 e u hu
    exact absurd (decide_eq_true hn) this
  | some v =>
    have h2 : decide (wayO m v (wonB m) = some n) = true := List.find?_some (p := fun u => decide (wayO m u (wonB m) = some n)) e
    exact ⟨List.mem_of_find?_eq_some e, of_decide_eq_true h2⟩
theorem wayL_len (m : Mz) : ∀ (n : Nat) (s : St), (wayL m n s).length = n + 1
  | 0, _ => rfl
  | n + 1, s => by
    show (s.1 :: wayL m n (nxS m s n)).length = _
    rw [List.length_cons, wayL_len m n]
/-- the first way -/
noncomputable def fwL (m : Mz) : List Int := match wayO m (st0 m) (wonB m) with | some n => wayL m n (st0 m) | none => []
noncomputable def fwV (m : Mz) : List Int := if mazeB m then fwL m else []
noncomputable def fwB (m : Mz) : Bool := mazeB m && (wayO m (st0 m) (wonB m)).isSome
theorem st0_met {m : Mz} (V : Valid m) : Met m (st0 m) := ⟨st0_ok V, stAt_idem V ⟨by decide, by decide⟩⟩
theorem fwV_bd (m : Mz) : (fwV m).length ≤ 1048576 := by
  unfold fwV
  split
  · rename_i h
    have V := valid_of h
    have v12 := V.size12
    unfold fwL
    split
    · rename_i n e
      have := rem_small V (st0_met V) e
      rw [wayL_len]
      unfold size64 at this
      omega
    · simp
  · simp
/-- those of the next states that are not as far -/
noncomputable def farB (m : Mz) (s : St) (u : St) : Bool := decide ((remF m s).getD 0 ≤ (remF m u).getD 0)
noncomputable def nearL (m : Mz) (s : St) : List St := kept (farB m s) (nexts m s)
theorem kept_find {α : Type} {p q : α → Bool} {l : List α} (h : ∀ x ∈ l, (!p x) = q x) : l.find? q = (kept p l)[0]? := by
  unfold kept
  rw [← List.head?_eq_getElem?, List.head?_filter]
  induction l with
  | nil => rfl
  | cons a r ih =>
    rw [List.find?_cons, List.find?_cons, h a (by simp)]
    cases q a with
    | true => rfl
    | false => exact ih fun x hx => h x (List.mem_cons_of_mem _ hx)
theorem near_first {m : Mz} (V : Valid m) {s : St} (hs : Met m s) {n : Nat} (h : wayO m s (wonB m) = some (n + 1)) : (nearL m s)[0]? = some (nxS m s n) := by
  have hq : ∀ u ∈ nexts m s, (!farB m s u) = decide (wayO m u (wonB m) = some n) := fun u hu => by
    obtain ⟨k, hk, hnk⟩ := next_can V hs hu h
    unfold farB
    rw [remF_met V hs, remF_met V (met_next V hs hu), h, hk]
    show (!decide (n + 1 ≤ k)) = decide (some k = some n)
    by_cases e : k = n
    · subst e
      rw [decide_eq_false (by omega), decide_eq_true rfl]
      rfl
    · rw [decide_eq_true (by omega), decide_eq_false (fun e2 => e (by injection e2))]
      rfl
  unfold nearL
  rw [← kept_find hq]
  obtain ⟨u, hu, hn⟩ := rem_down (way_is m) h
  unfold nxS
  cases e : (nexts m s).find? (fun u => decide (wayO m u (wonB m) = some n)) with
  | none => exact absurd (decide_eq_true hn) (List.find?_eq_none.1 e u hu)
  | some v => rfl
theorem won_zero {m : Mz} {s : St} : wonB m s = true ↔ wayO m s (wonB m) = some 0 := (rem_zero (way_is m)).symm
end M
end Go.Proofs.Ytcoaggnilgfjfaa
namespace Go.Proofs.Ytcoaggnilgfjfaa
open Go.RowKit
namespace M
/-- where a key walk ends, with all that is taken -/
def endSt (m : Mz) (walk : List Int) : St := (walk.getD (walk.length - 1) 0, haveTo m walk walk.length)
theorem end_ok {m : Mz} (V : Valid m) {walk : List Int} (h : walkB m walk = true) : 0 < walk.length ∧ StOk m (endSt m walk) := by
  unfold walkB at h
  rw [Bool.and_eq_true, decide_eq_true_iff] at h
  obtain ⟨h0, h1⟩ := h
  have hk := all_range_take.1 h1 (walk.length - 1) (by omega)
  have hb := haveTo_bd V walk walk.length
  refine ⟨h0, ?_⟩
  unfold endSt
  rcases Nat.eq_zero_or_pos (walk.length - 1) with e | e
  · rw [e] at hk ⊢
    rw [okAt_zero m h0] at hk
    have hx : walk.getD 0 0 = 0 := by rw [List.getD_eq_getElem?_getD, List.getElem?_eq_getElem h0]; exact beq_iff_eq.1 hk
    rw [hx]
    exact ⟨Int.le_refl 0, by have := V.size1; show (0 : Int) < m.size; omega, hb.1, hb.2⟩
  · obtain ⟨j, hj⟩ : ∃ j, walk.length - 1 = j + 1 := ⟨walk.length - 2, by omega⟩
    rw [hj] at hk ⊢
    rw [okAt_succ m (by omega)] at hk
    have hn := (open_node V hk).2
    have hx : walk.getD (j + 1) 0 = walk[j + 1] := by rw [List.getD_eq_getElem?_getD, List.getElem?_eq_getElem (by omega)]; rfl
    rw [hx]
    exact ⟨hn.1, hn.2, hb.1, hb.2⟩
theorem or_again {a b : Int} (ha : 0 ≤ a ∧ a < 64) (hb : 0 ≤ b ∧ b < 64) : bits .or .i64 (bits .or .i64 a b) b = bits .or .i64 a b := by
  obtain ⟨x, rfl⟩ : ∃ x : Nat, a = x := ⟨a.toNat, by omega⟩
  obtain ⟨y, rfl⟩ : ∃ y : Nat, b = y := ⟨b.toNat, by omega⟩
  have l1 := or_set (s := (x : Int)) (t := (y : Int)) ha.1 ha.2 hb.1 hb.2
  rw [orN (by omega) (by omega)] at l1 ⊢
  rw [orN (by omega) (by omega), Nat.or_assoc, Nat.or_self]
theorem endSt_eq (m : Mz) {walk : List Int} {k : Nat} (hk : walk.length = k + 1) : endSt m walk = (walk.getD k 0, haveTo m walk (k + 1)) := by
  unfold endSt
  have e1 : walk.length - 1 = k := by omega
  rw [e1, hk]
theorem end_at {m : Mz} (V : Valid m) {walk : List Int} (h0 : 0 < walk.length) : stAt m (endSt m walk).1 (endSt m walk).2 = endSt m walk := by
  obtain ⟨k, hk⟩ : ∃ k, walk.length = k + 1 := ⟨walk.length - 1, by omega⟩
  have hkl : k < walk.length := by omega
  have hx : walk.getD k 0 = walk[k] := by rw [List.getD_eq_getElem?_getD, List.getElem?_eq_getElem hkl]; rfl
  rw [endSt_eq m hk, hx]
  unfold stAt
  simp only
  rw [haveTo_succ m hkl, or_again (haveTo_bd V walk k) (keyAt_set V _)]
theorem walk_last {m : Mz} {walk : List Int} {k : Nat} (hk : walk.length = k + 1) : (encIs walk)[k]? = some (.int .i64 (endSt m walk).1) := by
  have hkl : k < walk.length := by omega
  have hx : walk.getD k 0 = walk[k] := by rw [List.getD_eq_getElem?_getD, List.getElem?_eq_getElem hkl]; rfl
  rw [encIs_at hkl, endSt_eq m hk, hx]
theorem taken_last {m : Mz} {walk : List Int} {k : Nat} (hk : walk.length = k + 1) : (encIs (takenTo m walk walk.length))[k]? = some (.int .i64 (endSt m walk).2) := by
  rw [endSt_eq m hk]
  unfold takenTo encIs
  rw [List.getElem?_map, List.getElem?_map, List.getElem?_range (by omega)]
  rfl
end M
end Go.Proofs.Ytcoaggnilgfjfaa
