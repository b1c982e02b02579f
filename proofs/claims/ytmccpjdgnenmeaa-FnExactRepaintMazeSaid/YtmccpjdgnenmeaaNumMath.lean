/-
  MATHEMATICS of nodes with other numbers, own to these proofs: a list with each number once; doors told by it stay apart, and the maze stays valid. No condition but what each says.
-/
import Derived.Test.YtmccpjdgnenmeaaJoinMath
namespace Go.Proofs.Ytmccpjdgnenmeaa
open Go.RowKit
namespace M
theorem perm_of_all : ∀ {R l : List Int}, R.Nodup → (∀ x ∈ R, x ∈ l) → l.length = R.length → l.Perm R
  | [], l, _, _, h => by
    have : l = [] := List.length_eq_zero_iff.1 (by simpa using h)
    subst this
    exact List.Perm.refl _
  | r :: R, l, hn, hm, h => by
    rw [List.nodup_cons] at hn
    have hr : r ∈ l := hm r (List.mem_cons_self ..)
    have hp := List.perm_cons_erase hr
    refine hp.trans (List.Perm.cons r (perm_of_all hn.2 (fun x hx => ?_) ?_))
    · have hne : x ≠ r := fun he => hn.1 (he ▸ hx)
      exact (List.mem_erase_of_ne hne).2 (hm x (List.mem_cons_of_mem _ hx))
    · rw [List.length_erase_of_mem hr, h, List.length_cons]
      omega
def upto (n : Nat) : List Int := (List.range n).map Int.ofNat
theorem upto_len (n : Nat) : (upto n).length = n := by simp [upto]
theorem mem_upto {n : Nat} {x : Int} : x ∈ upto n ↔ 0 ≤ x ∧ x < n := by
  unfold upto
  rw [List.mem_map]
  constructor
  · rintro ⟨k, hk, rfl⟩
    rw [List.mem_range] at hk
    refine ⟨Int.natCast_nonneg k, ?_⟩
    show (k : Int) < n
    omega
  · rintro ⟨h1, h2⟩
    exact ⟨x.toNat, List.mem_range.2 (by omega), by show ((x.toNat : Nat) : Int) = x; omega⟩
theorem upto_nodup (n : Nat) : (upto n).Nodup := by
  unfold upto List.Nodup
  rw [List.pairwise_map]
  refine (List.nodup_range (n := n)).imp ?_
  intro a b h he
  exact h (by injection he)
/-- the list has each number below n once -/
def orderB (l : List Int) (n : Nat) : Bool := decide (l.length = n ∧ ∀ x ∈ upto n, x ∈ l)
theorem order_perm {l : List Int} {n : Nat} (h : orderB l n = true) : l.Perm (upto n) := by
  unfold orderB at h
  rw [decide_eq_true_iff] at h
  exact perm_of_all (upto_nodup n) h.2 (by rw [upto_len]; exact h.1)
theorem order_of_perm {l : List Int} {n : Nat} (h : l.Perm (upto n)) : orderB l n = true := by
  unfold orderB
  rw [decide_eq_true_iff]
  exact ⟨by rw [h.length_eq, upto_len], fun x hx => h.mem_iff.2 hx⟩
theorem order_len {l : List Int} {n : Nat} (h : orderB l n = true) : l.length = n := by
  unfold orderB at h
  rw [decide_eq_true_iff] at h
  exact h.1
theorem order_in {l : List Int} {n : Nat} (h : orderB l n = true) {x : Int} (hx : x ∈ l) : 0 ≤ x ∧ x < n := mem_upto.1 ((order_perm h).mem_iff.1 hx)
theorem order_nodup {l : List Int} {n : Nat} (h : orderB l n = true) : l.Nodup := (order_perm h).nodup_iff.2 (upto_nodup n)
theorem order_at {l : List Int} {n k : Nat} (h : orderB l n = true) (hk : k < n) : 0 ≤ l.getD k 0 ∧ l.getD k 0 < n := by
  have hk' : k < l.length := by rw [order_len h]; exact hk
  rw [List.getD_eq_getElem?_getD, List.getElem?_eq_getElem hk', Option.getD_some]
  exact order_in h (List.getElem_mem hk')
theorem order_inj {l : List Int} {n i j : Nat} (h : orderB l n = true) (hi : i < n) (hj : j < n) (he : l.getD i 0 = l.getD j 0) : i = j := by
  have hi' : i < l.length := by rw [order_len h]; exact hi
  have hj' : j < l.length := by rw [order_len h]; exact hj
  rw [List.getD_eq_getElem?_getD, List.getElem?_eq_getElem hi', Option.getD_some, List.getD_eq_getElem?_getD, List.getElem?_eq_getElem hj', Option.getD_some] at he
  have hn := order_nodup h
  unfold List.Nodup at hn
  rw [List.pairwise_iff_getElem] at hn
  rcases Nat.lt_trichotomy i j with h1 | h1 | h1
  · exact absurd he (hn i j hi' hj' h1)
  · exact h1
  · exact absurd he.symm (hn j i hj' hi' h1)
/-! nodes with other numbers -/
def numD (to : List Int) (d : Dr) : Dr := doorOf (to.getD d.1.toNat 0) (to.getD d.2.1.toNat 0) d.2.2
def numDs (m : Mz) (to : List Int) (k : Nat) : List Dr := (m.doors.take k).map (numD to)
def numKs (m : Mz) (to : List Int) : Nat → List Int
  | 0 => List.replicate m.size.toNat 0
  | k + 1 => (numKs m to k).set (to.getD k 0).toNat (m.keys.getD k 0)
def numOf (m : Mz) (to : List Int) : Mz := ⟨m.size, srt (numDs m to m.doors.length), numKs m to m.keys.length⟩
def numB (m : Mz) (to : List Int) : Bool := mazeB m && orderB to m.size.toNat
def numV (m : Mz) (to : List Int) : Mz := if numB m to then numOf m to else C.mz0
theorem numV_yes {m : Mz} {to : List Int} (h : numB m to = true) : numV m to = numOf m to := by unfold numV; rw [if_pos h]
theorem numV_no {m : Mz} {to : List Int} (h : numB m to = false) : numV m to = C.mz0 := by unfold numV; rw [h]; rfl
theorem numDs_len {m : Mz} {to : List Int} {k : Nat} (hk : k ≤ m.doors.length) : (numDs m to k).length = k := by unfold numDs; rw [List.length_map, List.length_take, Nat.min_eq_left hk]
theorem numDs_succ {m : Mz} {to : List Int} {k : Nat} (hk : k < m.doors.length) : numDs m to (k + 1) = numDs m to k ++ [numD to m.doors[k]] := by
  unfold numDs
  rw [List.take_succ_eq_append_getElem hk, List.map_append, List.map_cons, List.map_nil]
theorem numKs_len (m : Mz) (to : List Int) (k : Nat) : (numKs m to k).length = m.size.toNat := by
  induction k with
  | zero => simp [numKs]
  | succ k ih => rw [numKs, List.length_set, ih]
theorem numKs_set {m : Mz} (V : Valid m) (to : List Int) : ∀ {k : Nat}, k ≤ m.keys.length → ∀ s ∈ numKs m to k, 0 ≤ s ∧ s < 64
  | 0, _, s, hs => by
    rw [numKs, List.mem_replicate] at hs
    omega
  | k + 1, hk, s, hs => by
    rw [numKs] at hs
    rcases List.mem_or_eq_of_mem_set hs with h | rfl
    · exact numKs_set V to (by omega) s h
    · rw [List.getD_eq_getElem?_getD, List.getElem?_eq_getElem (by omega), Option.getD_some]
      exact V.key k (by omega)
theorem numD_inj {m : Mz} (V : Valid m) {to : List Int} (ho : orderB to m.size.toNat = true) {d e : Dr} (hd : d ∈ m.doors) (he : e ∈ m.doors) (h : numD to d = numD to e) : d = e := by
  have h1 := doorB_iff.1 (V.ok d hd)
  have h2 := doorB_iff.1 (V.ok e he)
  obtain ⟨d1, d2, d3⟩ := d
  obtain ⟨e1, e2, e3⟩ := e
  simp only at h1 h2
  unfold numD doorOf at h
  simp only [Prod.mk.injEq] at h
  have inj : ∀ x y : Int, 0 ≤ x → x < m.size → 0 ≤ y → y < m.size → to.getD x.toNat 0 = to.getD y.toNat 0 → x = y := fun x y hx hx' hy hy' hxy => by
    have := order_inj ho (i := x.toNat) (j := y.toNat) (by omega) (by omega) hxy
    omega
  have a1 := inj d1 e1 (by omega) (by omega) (by omega) (by omega)
  have a2 := inj d1 e2 (by omega) (by omega) (by omega) (by omega)
  have a3 := inj d2 e1 (by omega) (by omega) (by omega) (by omega)
  have a4 := inj d2 e2 (by omega) (by omega) (by omega) (by omega)
  generalize to.getD d1.toNat 0 = p at *
  generalize to.getD d2.toNat 0 = q at *
  generalize to.getD e1.toNat 0 = r at *
  generalize to.getD e2.toNat 0 = s at *
  obtain ⟨h3, h4, h5⟩ := h
  have hc : (p = r ∧ q = s) ∨ (p = s ∧ q = r) := by omega
  rcases hc with ⟨b1, b2⟩ | ⟨b1, b2⟩
  · rw [a1 b1, a4 b2, h5]
  · have c1 := a2 b1
    have c2 := a3 b2
    omega
theorem numDs_nodup {m : Mz} (V : Valid m) {to : List Int} (ho : orderB to m.size.toNat = true) (k : Nat) : (numDs m to k).Nodup := by
  unfold numDs List.Nodup
  rw [List.pairwise_map]
  have hn : (m.doors.take k).Nodup := (List.take_sublist k _).nodup V.asc.nodup
  refine List.Pairwise.imp_of_mem ?_ hn
  intro d e hd he hne h
  exact hne (numD_inj V ho (List.mem_of_mem_take hd) (List.mem_of_mem_take he) h)
theorem num_put {m : Mz} (V : Valid m) {to : List Int} (ho : orderB to m.size.toNat = true) : putAll ltD [] (numDs m to m.doors.length) = srt (numDs m to m.doors.length) := putAll_srt (numDs_nodup V ho _)
theorem numDs_ok {m : Mz} (V : Valid m) {to : List Int} (ho : orderB to m.size.toNat = true) (k : Nat) : doorsOk m.size (numDs m to k) := by
  intro d hd
  unfold numDs at hd
  rw [List.mem_map] at hd
  obtain ⟨e, he, rfl⟩ := hd
  have h1 := doorB_iff.1 (V.ok e (List.mem_of_mem_take he))
  have h2 := order_at ho (k := e.1.toNat) (by omega)
  have h3 := order_at ho (k := e.2.1.toNat) (by omega)
  have h4 : to.getD e.1.toNat 0 ≠ to.getD e.2.1.toNat 0 := fun h => by
    have := order_inj ho (i := e.1.toNat) (j := e.2.1.toNat) (by omega) (by omega) h
    omega
  have hs := V.size1
  unfold numD
  rw [doorB_iff]
  unfold doorOf
  simp only
  omega
theorem num_valid {m : Mz} (V : Valid m) {to : List Int} (ho : orderB to m.size.toNat = true) : mazeB (numOf m to) = true := by
  have hs := V.size1
  refine valid_mk V.size1 V.size12 ?_ ?_ ?_ ?_ (numKs_set V to (Nat.le_refl _))
  · show (srt _).length ≤ 30
    rw [srt_len, numDs_len (Nat.le_refl _)]
    exact V.few
  · show ((numKs m to m.keys.length).length : Int) = m.size
    rw [numKs_len]
    omega
  · exact (doorsOk_mem (fun x => mem_srt)).2 (numDs_ok V ho _)
  · exact srt_asc (numDs_nodup V ho _)
theorem numV_len (m : Mz) (to : List Int) : (numV m to).doors.length ≤ 1048576 ∧ (numV m to).keys.length ≤ 1048576 := by
  unfold numV
  split
  · rename_i h
    unfold numB at h
    rw [Bool.and_eq_true] at h
    have W := valid_of (num_valid (valid_of h.1) h.2)
    have h1 := W.few
    have h2 := W.keysLen
    have h3 := W.size12
    omega
  · simp [C.mz0]
end M
end Go.Proofs.Ytmccpjdgnenmeaa
