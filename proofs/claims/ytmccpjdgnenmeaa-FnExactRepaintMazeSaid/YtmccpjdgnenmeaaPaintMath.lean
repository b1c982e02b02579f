/-
  MATHEMATICS of other colours, own to these proofs: sets told with other colours stay apart, so doors do, and the maze stays valid. No condition but what each says.
-/
import Derived.Test.YtmccpjdgnenmeaaRenMath
import Derived.Test.YtmccpjdgnenmeaaDigitsI
import Derived.Test.YtmccpjdgnenmeaaWithSetsP
import Derived.Test.YtmccpjdgnenmeaaOpenMath
namespace Go.Proofs.Ytmccpjdgnenmeaa
open Go.RowKit
namespace M
def paintL (l ds : List Int) : Nat := ds.foldl (fun s c => s ||| 2 ^ (l.getD c.toNat 0).toNat) 0
theorem paintL_nil (l : List Int) : paintL l [] = 0 := rfl
theorem paintL_snoc (l ds : List Int) (c : Int) : paintL l (ds ++ [c]) = paintL l ds ||| 2 ^ (l.getD c.toNat 0).toNat := by unfold paintL; rw [List.foldl_append]; rfl
theorem paintL_take {l ds : List Int} {k : Nat} (h : k < ds.length) : paintL l (ds.take (k + 1)) = paintL l (ds.take k) ||| 2 ^ (l.getD ds[k].toNat 0).toNat := by
  rw [List.take_succ_eq_append_getElem h, paintL_snoc]
def paintN (l : List Int) (n k : Nat) : Nat := paintL l (digsTo n k)
def paintF (l : List Int) (x : Int) : Int := (paintN l x.toNat 6 : Nat)
theorem paintN_yes {l : List Int} {n k : Nat} (h : digB n k = true) : paintN l n (k + 1) = paintN l n k ||| 2 ^ (l.getD k 0).toNat := by
  unfold paintN
  rw [digsTo_yes h, paintL_snoc, Int.toNat_natCast]
theorem paintN_no {l : List Int} {n k : Nat} (h : digB n k = false) : paintN l n (k + 1) = paintN l n k := by
  unfold paintN
  rw [digsTo_no h]
theorem digs_12 {n : Nat} (hn : n < 64) : digsTo n 12 = digsTo n 6 := digsTo_eq (Nat.div_eq_of_lt (by omega)) (by omega)
theorem paintL_lt {l : List Int} (ho : orderB l 6 = true) : ∀ (n k : Nat), k ≤ 6 → paintN l n k < 64
  | n, 0, _ => by show 0 < 64; omega
  | n, k + 1, hk => by
    have ih := paintL_lt ho n k (by omega)
    cases h : digB n k with
    | false => rw [paintN_no h]; exact ih
    | true =>
      rw [paintN_yes h]
      have h2 := order_at ho (k := k) (by omega)
      exact Nat.or_lt_two_pow (n := 6) ih (Nat.pow_lt_pow_right (by omega) (by omega))
theorem take_lt {l : List Int} (ho : orderB l 6 = true) {ds : List Int} (hd : ∀ c ∈ ds, 0 ≤ c ∧ c < 6) : ∀ k, paintL l (ds.take k) < 64
  | 0 => by show 0 < 64; omega
  | k + 1 => by
    have ih := take_lt ho hd k
    rcases Nat.lt_or_ge k ds.length with h | h
    · rw [paintL_take h]
      have h1 := hd _ (List.getElem_mem h)
      have h2 := order_at ho (k := ds[k].toNat) (by omega)
      exact Nat.or_lt_two_pow (n := 6) ih (Nat.pow_lt_pow_right (by omega) (by omega))
    · rw [List.take_of_length_le (by omega)]
      rw [List.take_of_length_le h] at ih
      exact ih
theorem or_bit_fin : ∀ p : Fin 64, ∀ y : Fin 6, bits .or .i64 (p.val : Int) (wrap64 (2 ^ y.val)) = ((p.val ||| 2 ^ y.val : Nat) : Int) := by decide +kernel
theorem or_bit {p y : Nat} (hp : p < 64) (hy : y < 6) : bits .or .i64 (p : Int) (wrap64 (2 ^ y)) = ((p ||| 2 ^ y : Nat) : Int) := or_bit_fin ⟨p, hp⟩ ⟨y, hy⟩
theorem or_none_fin : ∀ p : Fin 64, bits .or .i64 (p.val : Int) 0 = (p.val : Int) := by decide +kernel
theorem or_none {p : Nat} (hp : p < 64) : bits .or .i64 (p : Int) 0 = (p : Int) := or_none_fin ⟨p, hp⟩
theorem mem_digs {n : Nat} {c : Int} (h : c ∈ digsTo n 6) : 0 ≤ c ∧ c < 6 := by
  obtain ⟨p, rfl, hp, _⟩ := mem_digsTo.1 h
  omega
/-! different sets stay apart -/
theorem paint_bit {l : List Int} (ho : orderB l 6 = true) (n : Nat) {c : Nat} (hc : c < 6) : ∀ k, k ≤ 6 → ((paintN l n k).testBit (l.getD c 0).toNat = (decide (c < k) && digB n c))
  | 0, _ => by
    show (0 : Nat).testBit _ = _
    rw [Nat.zero_testBit]
    rfl
  | k + 1, hk => by
    have ih := paint_bit ho n hc k (by omega)
    have hinj : (l.getD k 0).toNat = (l.getD c 0).toNat ↔ k = c := by
      constructor
      · intro h
        have h1 := order_at ho (k := k) (by omega)
        have h2 := order_at ho (k := c) (by omega)
        exact order_inj ho (by omega) (by omega) (by omega)
      · rintro rfl; rfl
    cases h : digB n k with
    | false =>
      rw [paintN_no h, ih]
      rcases Nat.lt_trichotomy c k with h1 | h1 | h1
      · rw [decide_eq_true h1, decide_eq_true (by omega : c < k + 1)]
      · subst h1
        rw [h, Bool.and_false, Bool.and_false]
      · rw [decide_eq_false (by omega : ¬ c < k), decide_eq_false (by omega : ¬ c < k + 1)]
    | true =>
      rw [paintN_yes h, Nat.testBit_or, ih, Nat.testBit_two_pow]
      rcases Nat.lt_trichotomy c k with h1 | h1 | h1
      · rw [decide_eq_true h1, decide_eq_true (by omega : c < k + 1), decide_eq_false (fun e => by have := hinj.1 e; omega), Bool.or_false]
      · subst h1
        rw [decide_eq_true (hinj.2 rfl), h]
        simp
      · rw [decide_eq_false (by omega : ¬ c < k), decide_eq_false (by omega : ¬ c < k + 1), decide_eq_false (fun e => by have := hinj.1 e; omega)]
        rfl
theorem paintF_inj {l : List Int} (ho : orderB l 6 = true) {x y : Int} (hx0 : 0 ≤ x) (hx : x < 64) (hy0 : 0 ≤ y) (hy : y < 64) (h : paintF l x = paintF l y) : x = y := by
  unfold paintF at h
  have h' : paintN l x.toNat 6 = paintN l y.toNat 6 := by omega
  have hb : ∀ c, c < 6 → digB x.toNat c = digB y.toNat c := fun c hc => by
    have h1 := paint_bit ho x.toNat hc 6 (Nat.le_refl _)
    have h2 := paint_bit ho y.toNat hc 6 (Nat.le_refl _)
    rw [h', h2, decide_eq_true hc, Bool.true_and, Bool.true_and] at h1
    exact h1.symm
  have he : x.toNat = y.toNat := by
    refine Nat.eq_of_testBit_eq fun i => ?_
    rw [← digB_testBit, ← digB_testBit]
    rcases Nat.lt_or_ge i 6 with hi | hi
    · exact hb i hi
    · rw [digB_lt (k := 6) (Nat.div_eq_of_lt (by omega)) hi, digB_lt (k := 6) (Nat.div_eq_of_lt (by omega)) hi]
  omega
theorem paintF_set {l : List Int} (ho : orderB l 6 = true) (x : Int) : 0 ≤ paintF l x ∧ paintF l x < 64 := by
  have := paintL_lt ho x.toNat 6 (Nat.le_refl _)
  unfold paintF
  omega
/-! mazes -/
def rpOf (m : Mz) (l : List Int) : Mz := sorted (replaced (paintF l) m)
def rpB (m : Mz) (l : List Int) : Bool := mazeB m && orderB l 6
def rpV (m : Mz) (l : List Int) : Mz := if rpB m l then rpOf m l else C.mz0
theorem rpV_yes {m : Mz} {l : List Int} (h : rpB m l = true) : rpV m l = rpOf m l := by unfold rpV; rw [if_pos h]
theorem rpV_no {m : Mz} {l : List Int} (h : rpB m l = false) : rpV m l = C.mz0 := by unfold rpV; rw [h]; rfl
theorem rp_nodup {m : Mz} (V : Valid m) {l : List Int} (ho : orderB l 6 = true) : (m.doors.map (repD (paintF l))).Nodup := by
  unfold List.Nodup
  rw [List.pairwise_map]
  refine List.Pairwise.imp_of_mem ?_ V.asc.nodup
  intro d e hd he hne h
  have h1 := doorB_iff.1 (V.ok d hd)
  have h2 := doorB_iff.1 (V.ok e he)
  obtain ⟨d1, d2, d3⟩ := d
  obtain ⟨e1, e2, e3⟩ := e
  unfold repD at h
  simp only [Prod.mk.injEq] at h
  simp only at h1 h2
  obtain ⟨rfl, rfl, h5⟩ := h
  have := paintF_inj ho (by omega) (by omega) (by omega) (by omega) h5
  subst this
  exact hne rfl
theorem rp_doorsOk {m : Mz} (V : Valid m) {l : List Int} (ho : orderB l 6 = true) : doorsOk m.size (m.doors.map (repD (paintF l))) := by
  intro d hd
  rw [List.mem_map] at hd
  obtain ⟨e, he, rfl⟩ := hd
  have h1 := doorB_iff.1 (V.ok e he)
  have h2 := paintF_set ho e.2.2
  rw [doorB_iff]
  unfold repD
  simp only
  omega
theorem rp_valid {m : Mz} (V : Valid m) {l : List Int} (ho : orderB l 6 = true) : mazeB (rpOf m l) = true := by
  refine valid_mk V.size1 V.size12 ?_ ?_ ?_ ?_ ?_
  · show (srt _).length ≤ 30
    rw [srt_len]
    show (m.doors.map _).length ≤ 30
    rw [List.length_map]
    exact V.few
  · show ((m.keys.map _).length : Int) = m.size
    rw [List.length_map]
    exact V.keysLen
  · exact (doorsOk_mem (fun x => mem_srt)).2 (rp_doorsOk V ho)
  · exact srt_asc (rp_nodup V ho)
  · intro s hs
    have hs' : s ∈ m.keys.map (paintF l) := hs
    rw [List.mem_map] at hs'
    obtain ⟨x, _, rfl⟩ := hs'
    exact paintF_set ho x
theorem rpB_sorted {m : Mz} {l : List Int} (h : rpB m l = true) : sortedB (replaced (paintF l) m) = true := by
  unfold rpB at h
  rw [Bool.and_eq_true] at h
  exact rp_valid (valid_of h.1) h.2
theorem rpV_sorted {m : Mz} {l : List Int} (h : rpB m l = true) : sortedV (replaced (paintF l) m) = rpV m l := by
  rw [sortedV_yes (rpB_sorted h), rpV_yes h]
  rfl
theorem rpV_len (m : Mz) (l : List Int) : (rpV m l).doors.length ≤ 1048576 ∧ (rpV m l).keys.length ≤ 1048576 := by
  unfold rpV
  split
  · rename_i h
    unfold rpB at h
    rw [Bool.and_eq_true] at h
    have W := valid_of (rp_valid (valid_of h.1) h.2)
    have h1 := W.few
    have h2 := W.keysLen
    have h3 := W.size12
    omega
  · simp [C.mz0]
/-! what the model holds while it goes on -/
noncomputable def rpTo (m : Mz) (l : List Int) (k : Nat) : List Dr := putAll ltD [] ((m.doors.take k).map (repD (paintF l)))
def rpKs (m : Mz) (l : List Int) (k : Nat) : List Int := (m.keys.take k).map (paintF l)
theorem rpKs_len {m : Mz} {l : List Int} {k : Nat} (h : k ≤ m.keys.length) : (rpKs m l k).length = k := by unfold rpKs; rw [List.length_map, List.length_take]; omega
theorem rpKs_succ {m : Mz} {l : List Int} {k : Nat} (hk : k < m.keys.length) : rpKs m l (k + 1) = rpKs m l k ++ [paintF l m.keys[k]] := by
  unfold rpKs
  rw [List.take_succ_eq_append_getElem hk, List.map_append, List.map_cons, List.map_nil]
theorem rpTo_len (m : Mz) (l : List Int) (k : Nat) : (rpTo m l k).length ≤ m.doors.length := by
  unfold rpTo
  have h1 := len_putAll_le (lt := ltD) [] ((m.doors.take k).map (repD (paintF l)))
  have h2 : ((m.doors.take k).map (repD (paintF l))).length ≤ m.doors.length := by rw [List.length_map, List.length_take]; omega
  rw [List.length_nil] at h1
  omega
theorem rpTo_succ {m : Mz} {l : List Int} {k : Nat} (hk : k < m.doors.length) : rpTo m l (k + 1) = put ltD (rpTo m l k) (repD (paintF l) m.doors[k]) := by
  unfold rpTo
  rw [List.take_succ_eq_append_getElem hk, List.map_append, List.map_cons, List.map_nil, putAll_snoc]
theorem rpTo_all {m : Mz} (V : Valid m) {l : List Int} (ho : orderB l 6 = true) : rpTo m l m.doors.length = (rpOf m l).doors := by
  unfold rpTo
  rw [List.take_of_length_le (Nat.le_refl _)]
  exact putAll_srt (rp_nodup V ho)
theorem rpKs_all (m : Mz) (l : List Int) : rpKs m l m.keys.length = (rpOf m l).keys := by
  unfold rpKs
  rw [List.take_of_length_le (Nat.le_refl _)]
  rfl
end M
end Go.Proofs.Ytmccpjdgnenmeaa
