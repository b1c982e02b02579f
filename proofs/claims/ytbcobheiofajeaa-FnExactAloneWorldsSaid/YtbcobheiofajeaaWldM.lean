/-
  MATHEMATICS of worlds that give their keys to each other: rounds, and that they end. No condition but those of each text.
-/
import Derived.Test.YtbcobheiofajeaaWGWinM
import Derived.Test.YtbcobheiofajeaaWEDoorsAt
namespace Go.Proofs.Ytbcobheiofajeaa
open Go.RowKit
namespace M
/-- worlds: mazes, and for each node whose its keys are -/
structure Wl where
  mazes : List Mz
  owners : List (List Int)
noncomputable def wm (w : Wl) (i : Nat) : Mz := w.mazes.getD i ⟨0, [], []⟩
def wo (w : Wl) (i : Nat) : List Int := w.owners.getD i []
noncomputable def worldB (w : Wl) (i : Nat) : Bool := mazeB (wm w i) && (decide (((wo w i).length : Int) = (wm w i).size) && (wo w i).all fun o => inB o 0 ((w.mazes.length : Int) - 1))
noncomputable def worldsB (w : Wl) : Bool := inB (w.mazes.length : Int) 1 3 && (decide (w.owners.length = w.mazes.length) && (List.range w.mazes.length).all (worldB w))
structure WlOK (w : Wl) : Prop where
  n1 : 1 ≤ w.mazes.length
  n3 : w.mazes.length ≤ 3
  same : w.owners.length = w.mazes.length
  world : ∀ i, i < w.mazes.length → mazeB (wm w i) = true ∧ ((wo w i).length : Int) = (wm w i).size ∧ ∀ o ∈ wo w i, 0 ≤ o ∧ o < (w.mazes.length : Int)
theorem worlds_ok {w : Wl} : worldsB w = true ↔ WlOK w := by
  unfold worldsB inB
  rw [Bool.and_eq_true, Bool.and_eq_true, decide_eq_true_iff, decide_eq_true_iff, List.all_eq_true]
  have hw : ∀ i, worldB w i = true ↔ (mazeB (wm w i) = true ∧ ((wo w i).length : Int) = (wm w i).size ∧ ∀ o ∈ wo w i, 0 ≤ o ∧ o < (w.mazes.length : Int)) := by
    intro i
    unfold worldB inB
    rw [Bool.and_eq_true, Bool.and_eq_true, decide_eq_true_iff, List.all_eq_true]
    refine and_congr_right fun _ => and_congr_right fun _ => ⟨fun h o ho => ?_, fun h o ho => ?_⟩
    · have := of_decide_eq_true (h o ho); omega
    · exact decide_eq_true (by have := h o ho; omega)
  constructor
  · rintro ⟨h1, h2, h3⟩
    exact ⟨by omega, by omega, h2, fun i hi => (hw i).1 (h3 i (List.mem_range.2 hi))⟩
  · intro h
    exact ⟨by have := h.n1; have := h.n3; omega, h.same, fun i hi => (hw i).2 (h.world i (List.mem_range.1 hi))⟩
/-- does node x give its keys, where one has h -/
noncomputable def givesB (rel : Bool) (m : Mz) (h : Int) (x : Nat) : Bool := memB (reachOf m 0 h) (x : Int) || (rel && memB (reachOf m 0 h) (m.size - 1))
noncomputable def giveTo (rel : Bool) (m : Mz) (ow : List Int) (h : Int) (nx : List Int) : Nat → List Int
  | 0 => nx
  | x + 1 => if givesB rel m h x then (giveTo rel m ow h nx x).set (ow.getD x 0).toNat (bits .or .i64 ((giveTo rel m ow h nx x).getD (ow.getD x 0).toNat 0) (m.keys.getD x 0)) else giveTo rel m ow h nx x
noncomputable def nextTo (w : Wl) (rel : Bool) (hv : List Int) : Nat → List Int
  | 0 => hv
  | i + 1 => giveTo rel (wm w i) (wo w i) (hv.getD i 0) (nextTo w rel hv i) (wm w i).size.toNat
noncomputable def nextW (w : Wl) (rel : Bool) (hv : List Int) : List Int := nextTo w rel hv w.mazes.length
noncomputable def setsW (w : Wl) (rel : Bool) : Nat → List Int
  | 0 => List.replicate w.mazes.length 0
  | k + 1 => nextW w rel (setsW w rel k)
/-- as many sets as there are worlds -/
def SetsOK (n : Nat) (l : List Int) : Prop := l.length = n ∧ ∀ i, 0 ≤ l.getD i 0 ∧ l.getD i 0 < 64
def LeS (l l' : List Int) : Prop := ∀ i, SubS (l.getD i 0) (l'.getD i 0)
theorem LeS.refl {n : Nat} {l : List Int} (h : SetsOK n l) : LeS l l := fun i => SubS.refl (h.2 i)
theorem LeS.trans {n : Nat} {l l' l'' : List Int} (o : SetsOK n l) (o' : SetsOK n l') (o'' : SetsOK n l'') (h : LeS l l') (h' : LeS l' l'') : LeS l l'' := fun i => (h i).trans (o.2 i) (o'.2 i) (o''.2 i) (h' i)
theorem getD_set9 (l : List Int) (k : Nat) (u : Int) (i : Nat) : (l.set k u).getD i 0 = if k = i ∧ k < l.length then u else l.getD i 0 := by
  rw [List.getD_eq_getElem?_getD, List.getElem?_set, List.getD_eq_getElem?_getD]
  by_cases h : k = i
  · subst h
    by_cases h2 : k < l.length
    · rw [if_pos rfl, if_pos h2, if_pos ⟨rfl, h2⟩]; rfl
    · rw [if_pos rfl, if_neg h2, if_neg (fun e => h2 e.2), List.getElem?_eq_none (by omega)]
  · rw [if_neg h, if_neg (fun e => h e.1)]
theorem set_or {n : Nat} {l : List Int} (o : SetsOK n l) (k : Nat) {z : Int} (hz : 0 ≤ z ∧ z < 64) : SetsOK n (l.set k (bits .or .i64 (l.getD k 0) z)) ∧ LeS l (l.set k (bits .or .i64 (l.getD k 0) z)) := by
  have ho := orS64 (o.2 k) hz
  refine ⟨⟨by rw [List.length_set]; exact o.1, fun i => ?_⟩, fun i => ?_⟩
  · rw [getD_set9]
    split
    · exact ho
    · exact o.2 i
  · rw [getD_set9]
    split
    next h => rw [← h.1]; exact SubS.or (o.2 k) hz
    next => exact SubS.refl (o.2 i)
theorem key64 {m : Mz} (V : Valid m) (x : Nat) : 0 ≤ m.keys.getD x 0 ∧ m.keys.getD x 0 < 64 := key_set V x
theorem give_ok {n : Nat} (rel : Bool) {m : Mz} (V : Valid m) (ow : List Int) (h : Int) {nx : List Int} (o : SetsOK n nx) : ∀ x, SetsOK n (giveTo rel m ow h nx x) ∧ LeS nx (giveTo rel m ow h nx x)
  | 0 => ⟨o, LeS.refl o⟩
  | x + 1 => by
    have ih := give_ok rel V ow h o x
    unfold giveTo
    split
    · have hs := set_or ih.1 (ow.getD x 0).toNat (key64 V x)
      exact ⟨hs.1, ih.2.trans o ih.1 hs.1 hs.2⟩
    · exact ih
theorem next_ok {w : Wl} (W : WlOK w) (rel : Bool) {hv : List Int} (o : SetsOK w.mazes.length hv) : ∀ i, i ≤ w.mazes.length → SetsOK w.mazes.length (nextTo w rel hv i) ∧ LeS hv (nextTo w rel hv i)
  | 0, _ => ⟨o, LeS.refl o⟩
  | i + 1, hi => by
    have ih := next_ok W rel o i (by omega)
    have hg := give_ok rel (valid_of (W.world i (by omega)).1) (wo w i) (hv.getD i 0) ih.1 (wm w i).size.toNat
    exact ⟨hg.1, ih.2.trans o ih.1 hg.1 hg.2⟩
theorem sets_ok {w : Wl} (W : WlOK w) (rel : Bool) : ∀ k, SetsOK w.mazes.length (setsW w rel k)
  | 0 => ⟨List.length_replicate .., fun i => by
      show 0 ≤ (List.replicate w.mazes.length (0 : Int)).getD i 0 ∧ (List.replicate w.mazes.length (0 : Int)).getD i 0 < 64
      have : (List.replicate w.mazes.length (0 : Int)).getD i 0 = 0 := by
        rw [List.getD_eq_getElem?_getD, List.getElem?_replicate]
        split <;> rfl
      rw [this]; omega⟩
  | k + 1 => (next_ok W rel (sets_ok W rel k) _ (Nat.le_refl _)).1
theorem sets_le {w : Wl} (W : WlOK w) (rel : Bool) (k : Nat) : LeS (setsW w rel k) (setsW w rel (k + 1)) := (next_ok W rel (sets_ok W rel k) _ (Nat.le_refl _)).2
/-- all sets together, as a number -/
def sum9 (l : List Int) : Int := l.getD 0 0 + l.getD 1 0 + l.getD 2 0
theorem sum_lt {n : Nat} {l l' : List Int} (hn : n ≤ 3) (o : SetsOK n l) (o' : SetsOK n l') (h : LeS l l') (hne : l ≠ l') : sum9 l < sum9 l' := by
  have h0 := (h 0).le (o.2 0) (o'.2 0)
  have h1 := (h 1).le (o.2 1) (o'.2 1)
  have h2 := (h 2).le (o.2 2) (o'.2 2)
  rcases Int.lt_or_le (sum9 l) (sum9 l') with hlt | hge
  · exact hlt
  · exfalso
    unfold sum9 at hge
    refine hne (List.ext_getElem (by rw [o.1, o'.1]) fun i hi hi' => ?_)
    have e : l.getD i 0 = l'.getD i 0 := by
      rw [o.1] at hi
      rcases (by omega : i = 0 ∨ i = 1 ∨ i = 2) with rfl | rfl | rfl <;> omega
    rw [List.getD_eq_getElem?_getD, List.getElem?_eq_getElem hi, List.getD_eq_getElem?_getD, List.getElem?_eq_getElem hi'] at e
    exact e
theorem sum_le {n : Nat} {l : List Int} (o : SetsOK n l) : 0 ≤ sum9 l ∧ sum9 l ≤ 189 := by
  have h0 := o.2 0
  have h1 := o.2 1
  have h2 := o.2 2
  unfold sum9
  omega
theorem sets_stop {w : Wl} (W : WlOK w) (rel : Bool) : ∃ k, k ≤ 189 ∧ setsW w rel (k + 1) = setsW w rel k := by
  refine Classical.byContradiction fun hno => ?_
  have hall : ∀ k : Nat, k ≤ 190 → (k : Int) ≤ sum9 (setsW w rel k) := by
    intro k
    induction k with
    | zero => intro _; exact (sum_le (sets_ok W rel 0)).1
    | succ k ih =>
      intro hk
      have h1 := ih (by omega)
      have h2 := sum_lt W.n3 (sets_ok W rel k) (sets_ok W rel (k + 1)) (sets_le W rel k) (fun e => hno ⟨k, by omega, e.symm⟩)
      omega
  have h1 := hall 190 (Nat.le_refl _)
  have h2 := (sum_le (sets_ok W rel 190)).2
  omega
/-- the number of rounds that bring something -/
noncomputable def lastW (w : Wl) (rel : Bool) : Nat := ((List.range 200).find? fun k => decide (setsW w rel (k + 1) = setsW w rel k)).getD 0
theorem last_ok {w : Wl} (W : WlOK w) (rel : Bool) : lastW w rel ≤ 189 ∧ setsW w rel (lastW w rel + 1) = setsW w rel (lastW w rel) ∧ ∀ k, k < lastW w rel → setsW w rel (k + 1) ≠ setsW w rel k := by
  obtain ⟨k, hk, he⟩ := sets_stop W rel
  have key : ∀ (p : Nat → Bool) (k N : Nat), k < N → p k = true → ((List.range N).find? p).getD 0 ≤ k ∧ p (((List.range N).find? p).getD 0) = true ∧ ∀ j, j < ((List.range N).find? p).getD 0 → p j = false := by
    intro p k N hkN hp
    cases hf : (List.range N).find? p with
    | none => exact absurd hp (by have := List.find?_eq_none.1 hf k (List.mem_range.2 hkN); simpa using this)
    | some z =>
      obtain ⟨hz, hb⟩ := List.find?_range_eq_some.1 hf
      rw [Option.getD_some]
      refine ⟨?_, hz, fun j hj => by simpa using hb.2 j hj⟩
      rcases Nat.lt_or_ge k z with h | h
      · exact absurd hp (by simpa using hb.2 k h)
      · exact h
  have hq := key (fun k => decide (setsW w rel (k + 1) = setsW w rel k)) k 200 (by omega) (decide_eq_true he)
  exact ⟨Nat.le_trans hq.1 hk, of_decide_eq_true hq.2.1, fun j hj => of_decide_eq_false (hq.2.2 j hj)⟩
/-- the first of the numbers below r that p holds at, else -1 -/
def firstN (p : Nat → Bool) : Nat → Int
  | 0 => -1
  | r + 1 => if firstN p r < 0 && p r then (r : Int) else firstN p r
theorem first_neg {p : Nat → Bool} : ∀ r, firstN p r = -1 ∨ 0 ≤ firstN p r ∧ firstN p r < (r : Int)
  | 0 => .inl rfl
  | r + 1 => by
    have ih := first_neg (p := p) r
    unfold firstN
    split
    · exact .inr ⟨by omega, by omega⟩
    · rcases ih with h | h
      · exact .inl h
      · exact .inr ⟨h.1, by omega⟩
theorem first_none {p : Nat → Bool} : ∀ r, firstN p r = -1 ↔ ∀ j, j < r → p j = false
  | 0 => ⟨fun _ j hj => absurd hj (by omega), fun _ => rfl⟩
  | r + 1 => by
    have ih := first_none (p := p) r
    unfold firstN
    constructor
    · intro h j hj
      cases hp : p r with
      | true =>
        rw [hp, Bool.and_true] at h
        split at h
        · omega
        next hn =>
          have hd := (first_neg (p := p) r)
          rcases hd with hd | hd
          · exact absurd (decide_eq_true (show firstN p r < 0 by omega)) hn
          · omega
      | false =>
        rw [hp, Bool.and_false, if_neg (by simp)] at h
        rcases Nat.lt_or_ge j r with hlt | hge
        · exact ih.1 h j hlt
        · rw [show j = r by omega]; exact hp
    · intro h
      rw [h r (Nat.lt_succ_self r), Bool.and_false, if_neg (by simp)]
      exact ih.2 fun j hj => h j (by omega)
theorem first_at {p : Nat → Bool} : ∀ r k : Nat, firstN p r = (k : Int) ↔ k < r ∧ p k = true ∧ ∀ j, j < k → p j = false
  | 0, k => ⟨fun h => absurd h (by unfold firstN; omega), fun h => absurd h.1 (by omega)⟩
  | r + 1, k => by
    have ih := first_at (p := p) r k
    have hn := first_none (p := p) r
    have hd := first_neg (p := p) r
    unfold firstN
    constructor
    · intro h
      split at h
      next hc =>
        rw [Bool.and_eq_true, decide_eq_true_iff] at hc
        have e : r = k := by omega
        subst e
        exact ⟨Nat.lt_succ_self _, hc.2, hn.1 (by omega)⟩
      next => exact ⟨by have := (ih.1 h).1; omega, (ih.1 h).2⟩
    · intro h
      rcases Nat.lt_or_ge k r with hlt | hge
      · have hk := ih.2 ⟨hlt, h.2⟩
        rw [if_neg (by rw [Bool.and_eq_true, decide_eq_true_iff]; omega)]
        exact hk
      · have e : k = r := by omega
        subst e
        have hm := hn.2 h.2.2
        rw [if_pos (by rw [Bool.and_eq_true, decide_eq_true_iff]; exact ⟨by omega, h.2.1⟩)]
/-- node x of world i is reached in round r -/
noncomputable def metB (w : Wl) (rel : Bool) (i : Nat) (x : Int) (r : Nat) : Bool := memB (reachOf (wm w i) 0 ((setsW w rel r).getD i 0)) x
noncomputable def wonW (w : Wl) (rel : Bool) (i : Nat) : Int := firstN (metB w rel i ((wm w i).size - 1)) (lastW w rel + 1)
noncomputable def metW (w : Wl) (rel : Bool) (i : Nat) (x : Int) : Int := firstN (metB w rel i x) (lastW w rel + 1)
theorem met_more {w : Wl} (W : WlOK w) (rel : Bool) {i : Nat} (hi : i < w.mazes.length) {x : Int} {r : Nat} (h : metB w rel i x r = true) : metB w rel i x (r + 1) = true := by
  have hm := memB_true h
  unfold metB memB
  exact List.contains_iff_mem.2 (reach_more (valid_of (W.world i hi).1) ((sets_ok W rel r).2 i) ((sets_ok W rel (r + 1)).2 i) (sets_le W rel r i) hm)
theorem sets_far {w : Wl} (W : WlOK w) (rel : Bool) : ∀ j, setsW w rel (lastW w rel + j) = setsW w rel (lastW w rel)
  | 0 => rfl
  | j + 1 => by
    show nextW w rel (setsW w rel (lastW w rel + j)) = _
    rw [sets_far W rel j]
    exact (last_ok W rel).2.1
noncomputable def roundSets (w : Wl) (rel : Bool) : List (List Int) := if worldsB w then (List.range (lastW w rel + 1)).map (setsW w rel) else []
noncomputable def wonL (w : Wl) (rel : Bool) : List Int := if worldsB w then (List.range w.mazes.length).map (wonW w rel) else []
noncomputable def allWon (w : Wl) : Bool := worldsB w && !memB (wonL w false) (-1)
noncomputable def worldIn (w : Wl) (i : Int) : Bool := worldsB w && inB i 0 ((w.mazes.length : Int) - 1)
noncomputable def reachedL (w : Wl) (i : Int) : List Int := if worldIn w i then (List.range (wm w i.toNat).size.toNat).map fun x : Nat => metW w false i.toNat (x : Int) else []
/-- the keys that a world is ever given -/
noncomputable def ownTo (w : Wl) (i : Int) (k : Nat) (h : Int) : Nat → Int
  | 0 => h
  | x + 1 => if (wo w k).getD x 0 = i then bits .or .i64 (ownTo w i k h x) ((wm w k).keys.getD x 0) else ownTo w i k h x
noncomputable def ownAll (w : Wl) (i : Int) : Nat → Int
  | 0 => 0
  | k + 1 => ownTo w i k (ownAll w i k) (wm w k).size.toNat
noncomputable def canEver (w : Wl) (i : Int) : Bool := worldIn w i && memB (reachOf (wm w i.toNat) 0 (ownAll w i w.mazes.length)) ((wm w i.toNat).size - 1)
/-- the worlds where one of them has no keys -/
noncomputable def bareW (w : Wl) (k : Nat) : Wl := ⟨w.mazes.set k { wm w k with keys := List.replicate (wm w k).size.toNat 0 }, w.owners⟩
noncomputable def leansL (w : Wl) (i : Int) : List Int := if worldIn w i && decide (0 ≤ wonW w false i.toNat) then ((List.range w.mazes.length).filter fun k : Nat => decide ((k : Int) ≠ i) && decide (wonW (bareW w k) false i.toNat < 0)).map fun k : Nat => (k : Int) else []
theorem wm_set {w : Wl} {k : Nat} {m : Mz} {os : List (List Int)} (i : Nat) : wm ⟨w.mazes.set k m, os⟩ i = if k = i ∧ k < w.mazes.length then m else wm w i := by
  unfold wm
  show (w.mazes.set k m).getD i _ = _
  rw [List.getD_eq_getElem?_getD, List.getElem?_set, List.getD_eq_getElem?_getD]
  by_cases h : k = i
  · subst h
    by_cases h2 : k < w.mazes.length
    · rw [if_pos rfl, if_pos h2, if_pos ⟨rfl, h2⟩]; rfl
    · rw [if_pos rfl, if_neg h2, if_neg (fun e => h2 e.2), List.getElem?_eq_none (by omega)]
  · rw [if_neg h, if_neg (fun e => h e.1)]
theorem bare_valid {m : Mz} (V : Valid m) : Valid { m with keys := List.replicate m.size.toNat 0 } :=
  { size1 := V.size1, size12 := V.size12, few := V.few, door := V.door, sorted := V.sorted
    keysLen := by have := V.size1; show ((List.replicate m.size.toNat (0 : Int)).length : Int) = m.size; rw [List.length_replicate]; omega
    key := fun k h => by
      show 0 ≤ (List.replicate m.size.toNat (0 : Int))[k] ∧ (List.replicate m.size.toNat (0 : Int))[k] < 64
      rw [List.getElem_replicate]; omega }
theorem bare_ok {w : Wl} (W : WlOK w) (k : Nat) : WlOK (bareW w k) := by
  have hl : (bareW w k).mazes.length = w.mazes.length := List.length_set ..
  refine ⟨by rw [hl]; exact W.n1, by rw [hl]; exact W.n3, by rw [hl]; exact W.same, fun i hi => ?_⟩
  rw [hl] at hi ⊢
  obtain ⟨h1, h2, h3⟩ := W.world i hi
  unfold bareW
  rw [wm_set]
  split
  next h =>
    obtain ⟨rfl, _⟩ := h
    exact ⟨of_valid (bare_valid (valid_of h1)), h2, h3⟩
  next => exact ⟨h1, h2, h3⟩
/-- a maze alone -/
def aloneW (m : Mz) : Wl := ⟨[m], [List.replicate m.size.toNat 0]⟩
theorem alone_ok {m : Mz} (V : Valid m) : WlOK (aloneW m) := by
  refine ⟨Nat.le_refl _, (show (1 : Nat) ≤ 3 by omega), rfl, fun i hi => ?_⟩
  obtain rfl : i = 0 := by
    have : i < 1 := hi
    omega
  refine ⟨of_valid V, ?_, fun o ho => ?_⟩
  · have := V.size1
    show ((List.replicate m.size.toNat (0 : Int)).length : Int) = m.size
    rw [List.length_replicate]; omega
  · have := List.eq_of_mem_replicate (show o ∈ List.replicate m.size.toNat (0 : Int) from ho)
    show 0 ≤ o ∧ o < (1 : Int)
    omega
/-- the keys of a node given to an owner -/
def giveW (w : Wl) (i x : Nat) (o : Int) : Wl := ⟨w.mazes, w.owners.set i ((wo w i).set x o)⟩
theorem wo_set {w : Wl} {k : Nat} {l : List Int} {ms : List Mz} (i : Nat) : wo ⟨ms, w.owners.set k l⟩ i = if k = i ∧ k < w.owners.length then l else wo w i := by
  unfold wo
  show (w.owners.set k l).getD i _ = _
  rw [List.getD_eq_getElem?_getD, List.getElem?_set, List.getD_eq_getElem?_getD]
  by_cases h : k = i
  · subst h
    by_cases h2 : k < w.owners.length
    · rw [if_pos rfl, if_pos h2, if_pos ⟨rfl, h2⟩]; rfl
    · rw [if_pos rfl, if_neg h2, if_neg (fun e => h2 e.2), List.getElem?_eq_none (by omega)]
  · rw [if_neg h, if_neg (fun e => h e.1)]
theorem give_wok {w : Wl} (W : WlOK w) (i x : Nat) {o : Int} (ho : 0 ≤ o ∧ o < (w.mazes.length : Int)) : WlOK (giveW w i x o) := by
  refine ⟨W.n1, W.n3, by show (w.owners.set i _).length = _; rw [List.length_set]; exact W.same, fun j hj => ?_⟩
  obtain ⟨h1, h2, h3⟩ := W.world j hj
  refine ⟨h1, ?_⟩
  unfold giveW
  rw [wo_set]
  split
  next h =>
    obtain ⟨rfl, _⟩ := h
    refine ⟨by rw [List.length_set]; exact h2, fun z hz => ?_⟩
    rcases List.mem_or_eq_of_mem_set hz with hz | rfl
    · exact h3 z hz
    · exact ho
  next => exact ⟨h2, h3⟩
/-- the same worlds in another order -/
noncomputable def orderW (w : Wl) (ord : List Int) : Wl := ⟨ord.map fun z => wm w z.toNat, ord.map fun z => (wo w z.toNat).map fun o => ((placeL ord o : Nat) : Int)⟩
end M
end Go.Proofs.Ytbcobheiofajeaa
