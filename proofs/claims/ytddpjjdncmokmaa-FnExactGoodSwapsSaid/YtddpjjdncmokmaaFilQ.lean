/-
  MATHEMATICS of filling by assumption and forward: which lists are orders of a set, what is laid step by step. No condition but those of each text.
-/
import Derived.Test.YtddpjjdncmokmaaFilM
import Derived.Test.YtddpjjdncmokmaaSrtI8
import Derived.Test.YtddpjjdncmokmaaWEDoorsAt
namespace Go.Proofs.Ytddpjjdncmokmaa
open Go.RowKit
namespace M
def orderSB (s : Int) (l : List Int) : Bool := l.all (fun c => inB c 0 5) && (decide (l.length = manyC s) && setI l == s)
def choiceB (n : Nat) (l : List Int) : Bool := l.all (fun c => decide (0 ≤ c)) && decide (l.length = n)
def makesB (m : Mz) (s : Int) (o ch : List Int) : Bool := askB m s && (orderSB s o && choiceB o.length ch)
theorem in5 (x : Int) : inB x 0 5 = true ↔ 0 ≤ x ∧ x < 6 := by unfold inB; rw [decide_eq_true_iff]; omega
theorem bit_mk_fin : ∀ c : Fin 6, ∀ s : Fin 64, bits .or .i64 (s.val : Int) (bitI (c.val : Int)) = ((2 ^ c.val ||| s.val : Nat) : Int) := by decide +kernel
theorem mk64 : ∀ {l : List Int}, (∀ x ∈ l, 0 ≤ x ∧ x < 6) → mk l < 64
  | [], _ => by unfold mk; omega
  | x :: l, h => by
    have ih := mk64 (l := l) fun y hy => h y (List.mem_cons_of_mem _ hy)
    have hx := h x (List.mem_cons_self ..)
    unfold mk
    have : 2 ^ x.toNat < 2 ^ 6 := Nat.pow_lt_pow_right (by omega) (by omega)
    have : 2 ^ x.toNat ||| mk l < 2 ^ 6 := Nat.or_lt_two_pow this (by omega)
    omega
theorem mk_append (a b : List Int) : mk (a ++ b) = mk a ||| mk b := by
  induction a with
  | nil => show mk b = 0 ||| mk b; rw [Nat.zero_or]
  | cons x a ih => show 2 ^ x.toNat ||| mk (a ++ b) = (2 ^ x.toNat ||| mk a) ||| mk b; rw [ih, Nat.or_assoc]
theorem setI_mk {l : List Int} (h : ∀ x ∈ l, 0 ≤ x ∧ x < 6) : setI l = ((mk l : Nat) : Int) := by
  have aux : ∀ k, k ≤ l.length → setI (l.take k) = ((mk (l.take k) : Nat) : Int) := by
    intro k
    induction k with
    | zero => intro _; rw [List.take_zero]; rfl
    | succ k ih =>
      intro hk
      have hx := h l[k] (List.getElem_mem _)
      have hm := mk64 (l := l.take k) fun y hy => h y (List.mem_of_mem_take hy)
      rw [setI_snoc (by omega), ih (by omega), List.take_succ_eq_append_getElem (by omega), mk_append]
      have := bit_mk_fin ⟨l[k].toNat, by omega⟩ ⟨mk (l.take k), hm⟩
      rw [show (((⟨l[k].toNat, by omega⟩ : Fin 6).val : Nat) : Int) = l[k] from by show ((l[k].toNat : Nat) : Int) = _; omega] at this
      rw [this, Nat.or_comm]
      congr 2
      show 2 ^ l[k].toNat = 2 ^ l[k].toNat ||| 0
      rw [Nat.or_zero]
  have := aux l.length (Nat.le_refl _)
  rwa [List.take_length] at this
theorem mk_same {l l' : List Int} (h0 : ∀ x ∈ l, 0 ≤ x) (h1 : ∀ x ∈ l', 0 ≤ x) (h : ∀ y, y ∈ l ↔ y ∈ l') : mk l = mk l' := digB_ext fun p => by
  rw [Bool.eq_iff_iff, digB_mk h0, digB_mk h1, h]
theorem mk_colours {s : Int} (h : setB s = true) : mk (colours s) = s.toNat := by
  have h' := setB_iff.1 h
  rw [← colours12 h, mk_digs (by omega)]
theorem setI_colours {s : Int} (h : setB s = true) : setI (colours s) = s := by
  have h' := setB_iff.1 h
  rw [setI_mk fun x hx => mem_colours hx, mk_colours h]; omega
theorem perm_of9 : ∀ {R l : List Int}, R.Nodup → (∀ x ∈ R, x ∈ l) → l.length = R.length → l.Perm R
  | [], l, _, _, h => by
    have : l = [] := List.length_eq_zero_iff.1 (by simpa using h)
    subst this
    exact List.Perm.refl _
  | r :: R, l, hn, hm, h => by
    rw [List.nodup_cons] at hn
    have hr : r ∈ l := hm r (List.mem_cons_self ..)
    have hp := List.perm_cons_erase hr
    refine hp.trans (List.Perm.cons r (perm_of9 hn.2 (fun x hx => ?_) ?_))
    · have hne : x ≠ r := fun he => hn.1 (he ▸ hx)
      exact (List.mem_erase_of_ne hne).2 (hm x (List.mem_cons_of_mem _ hx))
    · rw [List.length_erase_of_mem hr, h, List.length_cons]
      omega
theorem order_perm9 {s : Int} (hs : setB s = true) {l : List Int} (h : orderSB s l = true) : l.Perm (colours s) := by
  unfold orderSB at h
  rw [Bool.and_eq_true, Bool.and_eq_true, decide_eq_true_iff, beq_iff_eq] at h
  obtain ⟨h1, h2, h3⟩ := h
  have hl : ∀ x ∈ l, 0 ≤ x ∧ x < 6 := fun x hx => (in5 x).1 (List.all_eq_true.1 h1 x hx)
  have h' := setB_iff.1 hs
  refine perm_of9 (colours_nodup s) (fun x hx => ?_) h2
  refine (mk_ext (fun y hy => (mem_colours hy).1) (fun y hy => (hl y hy).1) ?_ x).1 hx
  rw [mk_colours hs]
  rw [setI_mk hl] at h3
  omega
theorem order_iff {s : Int} (hs : setB s = true) (l : List Int) : orderSB s l = true ↔ l.Perm (colours s) := by
  refine ⟨order_perm9 hs, fun h => ?_⟩
  have hl : ∀ x ∈ l, 0 ≤ x ∧ x < 6 := fun x hx => mem_colours (h.mem_iff.1 hx)
  unfold orderSB
  rw [Bool.and_eq_true, Bool.and_eq_true, decide_eq_true_iff, beq_iff_eq]
  refine ⟨List.all_eq_true.2 fun x hx => (in5 x).2 (hl x hx), h.length_eq, ?_⟩
  rw [setI_mk hl, mk_same (fun x hx => (hl x hx).1) (fun x hx => (mem_colours hx).1) fun y => h.mem_iff, ← setI_mk fun x hx => mem_colours hx, setI_colours hs]
theorem colours_asc (s : Int) : Asc ltI (colours s) := by
  unfold colours
  split
  · unfold digsTo Asc
    rw [List.pairwise_map]
    refine List.Pairwise.imp ?_ (List.Pairwise.filter _ List.pairwise_lt_range)
    intro a b h
    unfold ltI
    rw [decide_eq_true_iff]
    omega
  · exact Asc.nil
theorem order_srt {s : Int} (hs : setB s = true) (l : List Int) : decide (srtI l = colours s) = orderSB s l := by
  rw [Bool.eq_iff_iff, decide_eq_true_iff, order_iff hs]
  constructor
  · intro h; rw [← h]; exact (srtI_perm l).symm
  · intro h
    refine Asc.ext ordI (srtI_asc (h.nodup_iff.2 (colours_nodup s))) (colours_asc s) fun x => ?_
    rw [(srtI_perm l).mem_iff, h.mem_iff]
theorem order_mem {s : Int} (hs : setB s = true) {l : List Int} (h : orderSB s l = true) {x : Int} (hx : x ∈ l) : 0 ≤ x ∧ x < 6 := mem_colours ((order_perm9 hs h).mem_iff.1 hx)
theorem order_len {s : Int} (hs : setB s = true) {l : List Int} (h : orderSB s l = true) : l.length = manyC s := (order_perm9 hs h).length_eq
theorem makes_yes {m : Mz} {s : Int} {o ch : List Int} (h : makesB m s o ch = true) : askB m s = true ∧ orderSB s o = true ∧ (∀ c ∈ ch, 0 ≤ c) ∧ ch.length = o.length := by
  unfold makesB choiceB at h
  rw [Bool.and_eq_true, Bool.and_eq_true, Bool.and_eq_true, decide_eq_true_iff] at h
  exact ⟨h.1, h.2.1, fun c hc => decide_eq_true_iff.1 (List.all_eq_true.1 h.2.2.1 c hc), h.2.2.2⟩
/-- the hand when k colours are out of it -/
def handAt (s : Int) (o : List Int) : Nat → Int
  | 0 => s
  | k + 1 => bits .andNot .i64 (handAt s o k) (bitI (o.getD k 0))
def firstAt (fw : Bool) (s : Int) (o : List Int) (k : Nat) : Int := if fw then 0 else handAt s o k
noncomputable def freeAt (fw : Bool) (m : Mz) (s : Int) (o l : List Int) : List Int := reachOf (layV m o l) 0 (finC (layV m o l) (firstAt fw s o (l.length + 1)))
noncomputable def laidTo (fw : Bool) (m : Mz) (s : Int) (o ch : List Int) : Nat → List Int
  | 0 => []
  | k + 1 => laidTo fw m s o ch k ++ [(freeAt fw m s o (laidTo fw m s o ch k)).getD ((ch.getD k 0).toNat % (freeAt fw m s o (laidTo fw m s o ch k)).length) 0]
theorem laidTo_len (fw : Bool) (m : Mz) (s : Int) (o ch : List Int) : ∀ k, (laidTo fw m s o ch k).length = k
  | 0 => rfl
  | k + 1 => by unfold laidTo; rw [List.length_append, laidTo_len fw m s o ch k]; rfl
noncomputable def fillV (fw : Bool) (m : Mz) (s : Int) (o ch : List Int) : List Int := (colours s).map fun c => (laidTo fw m s o ch o.length).getD (placeL o c) 0
theorem fillV_len (fw : Bool) (m : Mz) (s : Int) (o ch : List Int) : (fillV fw m s o ch).length = manyC s := by unfold fillV; rw [List.length_map]; rfl
theorem hand_fin : ∀ s : Fin 64, ∀ c : Fin 6, 0 ≤ bits .andNot .i64 (s.val : Int) (bitI (c.val : Int)) ∧ bits .andNot .i64 (s.val : Int) (bitI (c.val : Int)) < 64 := by decide +kernel
theorem hand_set {s : Int} (hs : setB s = true) {o : List Int} (ho : ∀ c ∈ o, 0 ≤ c ∧ c < 6) : ∀ k, k ≤ o.length → 0 ≤ handAt s o k ∧ handAt s o k < 64
  | 0, _ => setB_iff.1 hs
  | k + 1, h => by
    have ih := hand_set hs ho k (by omega)
    have hc := ho o[k] (List.getElem_mem _)
    have := hand_fin ⟨(handAt s o k).toNat, by omega⟩ ⟨o[k].toNat, by omega⟩
    have he : handAt s o (k + 1) = bits .andNot .i64 (handAt s o k) (bitI o[k]) := by
      show bits .andNot .i64 (handAt s o k) (bitI (o.getD k 0)) = _
      rw [List.getD_eq_getElem?_getD, List.getElem?_eq_getElem (by omega), Option.getD_some]
    rw [he]
    rwa [show (((⟨(handAt s o k).toNat, by omega⟩ : Fin 64).val : Nat) : Int) = handAt s o k from by show (((handAt s o k).toNat : Nat) : Int) = _; omega, show (((⟨o[k].toNat, by omega⟩ : Fin 6).val : Nat) : Int) = o[k] from by show ((o[k].toNat : Nat) : Int) = _; omega] at this
theorem first_set {s : Int} (hs : setB s = true) {o : List Int} (ho : ∀ c ∈ o, 0 ≤ c ∧ c < 6) (fw : Bool) (k : Nat) (hk : k ≤ o.length) : 0 ≤ firstAt fw s o k ∧ firstAt fw s o k < 64 := by
  unfold firstAt
  split
  · omega
  · exact hand_set hs ho k hk
theorem free_pos {fw : Bool} {m : Mz} (V : Valid m) {s : Int} {o l : List Int} (hl : l.length ≤ o.length) (ho : ∀ c ∈ o, 0 ≤ c ∧ c < 6) : 0 < (freeAt fw m s o l).length := by
  unfold freeAt
  exact List.length_pos_of_mem (reach_zero (layV_valid V hl ho) _)
theorem free_node {fw : Bool} {m : Mz} (V : Valid m) {s : Int} {o l : List Int} (hl : l.length ≤ o.length) (ho : ∀ c ∈ o, 0 ≤ c ∧ c < 6) {y : Int} (hy : y ∈ freeAt fw m s o l) : 0 ≤ y ∧ y < m.size := reach_node (layV_valid V hl ho) hy
theorem laidTo_node {fw : Bool} {m : Mz} (V : Valid m) {s : Int} {o ch : List Int} (ho : ∀ c ∈ o, 0 ≤ c ∧ c < 6) : ∀ k, k ≤ o.length → ∀ x ∈ laidTo fw m s o ch k, 0 ≤ x ∧ x < m.size
  | 0, _, x, h => by cases h
  | k + 1, hk, x, h => by
    unfold laidTo at h
    rcases List.mem_append.1 h with h | h
    · exact laidTo_node V ho k (by omega) x h
    · rw [List.mem_singleton] at h
      subst h
      have hl := laidTo_len fw m s o ch k
      have hp := free_pos (fw := fw) V (s := s) (o := o) (l := laidTo fw m s o ch k) (by omega) ho
      have hm := Nat.mod_lt (ch.getD k 0).toNat hp
      rw [List.getD_eq_getElem?_getD, List.getElem?_eq_getElem hm, Option.getD_some]
      exact free_node V (by omega) ho (List.getElem_mem _)
theorem layS_pre {n : Nat} {cs fs fs' : List Int} : ∀ {k}, (∀ i, i < k → fs.getD i 0 = fs'.getD i 0) → layS n cs fs k = layS n cs fs' k
  | 0, _ => rfl
  | k + 1, h => by
    unfold layS
    rw [layS_pre (k := k) fun i hi => h i (by omega), h k (by omega)]
/-- one more key is laid -/
theorem layV_snoc (m : Mz) (cs l : List Int) (x : Int) : (layV m cs (l ++ [x])).keys = (layV m cs l).keys.set x.toNat (bits .or .i64 ((layV m cs l).keys.getD x.toNat 0) (bitI (cs.getD l.length 0))) := by
  unfold layV
  show layS _ _ _ (l ++ [x]).length = _
  rw [List.length_append]
  show layS _ _ _ (l.length + 1) = _
  have hp := layS_pre (n := m.keys.length) (cs := cs) (fs := l ++ [x]) (fs' := l) (k := l.length) fun i hi => by
    rw [List.getD_eq_getElem?_getD, List.getD_eq_getElem?_getD, List.getElem?_append_left hi]
  have hx : (l ++ [x]).getD l.length 0 = x := by rw [List.getD_eq_getElem?_getD, List.getElem?_append_right (Nat.le_refl _), Nat.sub_self]; rfl
  conv => lhs; unfold layS
  rw [hp, hx]
/-- the program's filling behind k steps -/
def partV (o cs L : List Int) (k : Nat) : List Int := cs.map fun c => if placeL o c < k then L.getD (placeL o c) 0 else 0
theorem partV_zero (o cs L : List Int) : partV o cs L 0 = List.replicate cs.length 0 := by
  unfold partV
  refine List.eq_replicate_iff.2 ⟨by rw [List.length_map], fun b hb => ?_⟩
  obtain ⟨c, _, rfl⟩ := List.mem_map.1 hb
  rw [if_neg (by omega)]
theorem partV_len (o cs L : List Int) (k : Nat) : (partV o cs L k).length = cs.length := by unfold partV; rw [List.length_map]
theorem place_lt9 {l : List Int} {x : Int} (h : x ∈ l) : placeL l x < l.length := List.idxOf_lt_length_of_mem h
theorem place_at9 {l : List Int} {x : Int} (h : x ∈ l) : l[placeL l x]'(place_lt9 h) = x := by unfold placeL; exact List.getElem_idxOf (place_lt9 h)
theorem place_of {l : List Int} (hn : l.Nodup) {k : Nat} (hk : k < l.length) : placeL l l[k] = k := by
  unfold placeL
  exact hn.idxOf_getElem k hk
theorem partV_succ {o cs L L' : List Int} (hn : o.Nodup) (hcn : cs.Nodup) (hs : ∀ c ∈ cs, c ∈ o) {k : Nat} (hk : k < o.length) (hc : o[k] ∈ cs) (hL : ∀ i, i < k → L.getD i 0 = L'.getD i 0) : partV o cs L' (k + 1) = (partV o cs L k).set (placeL cs o[k]) (L'.getD k 0) := by
  refine List.ext_getElem (by rw [List.length_set, partV_len, partV_len]) fun i h1 h2 => ?_
  have h1' := h1
  rw [partV_len] at h1
  rw [List.getElem_set]
  have p1 : (partV o cs L' (k + 1))[i]'(by rw [partV_len]; exact h1) = if placeL o cs[i] < k + 1 then L'.getD (placeL o cs[i]) 0 else 0 := by unfold partV; rw [List.getElem_map]
  have p2 : (partV o cs L k)[i]'(by rw [partV_len]; exact h1) = if placeL o cs[i] < k then L.getD (placeL o cs[i]) 0 else 0 := by unfold partV; rw [List.getElem_map]
  rw [p1, p2]
  by_cases e : placeL cs o[k] = i
  · rw [if_pos e]
    have : cs[i] = o[k] := by
      have := place_at9 hc
      subst e
      exact this
    rw [this, place_of hn hk, if_pos (by omega)]
  · rw [if_neg e]
    have hne : placeL o cs[i] ≠ k := by
      intro he
      apply e
      have h3 := place_at9 (hs cs[i] (List.getElem_mem _))
      have : o[k] = cs[i] := by
        subst he
        exact h3
      rw [this, place_of hcn h1]
    by_cases hlt : placeL o cs[i] < k
    · rw [if_pos (by omega), if_pos hlt, hL _ hlt]
    · rw [if_neg (by omega), if_neg hlt]
theorem partV_all {s : Int} (hs : setB s = true) {o : List Int} (h : orderSB s o = true) (fw : Bool) (m : Mz) (ch : List Int) : partV o (colours s) (laidTo fw m s o ch o.length) o.length = fillV fw m s o ch := by
  unfold partV fillV
  refine List.map_congr_left fun c hc => ?_
  rw [if_pos (place_lt9 ((order_perm9 hs h).mem_iff.2 hc))]
end M
end Go.Proofs.Ytddpjjdncmokmaa
