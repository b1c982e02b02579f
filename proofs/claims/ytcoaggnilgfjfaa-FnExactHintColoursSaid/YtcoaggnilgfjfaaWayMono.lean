/-
  MATHEMATICS, own to these proofs: whoever has more colours can go the same walks. No condition.
-/
import Derived.Test.YtcoaggnilgfjfaaSpW
import Derived.Laws.BitsLemmas
namespace Go.Proofs.Ytcoaggnilgfjfaa
open Go.RowKit
namespace M
theorem small6 (n : Int) (h0 : 0 ≤ n) (h1 : n < 2 ^ 6) : IntKind.i64.wrap n = n := IntWalk.i64_in _ (by omega)
theorem andN {a b : Nat} (ha : a < 64) (hb : b < 64) : bits .and .i64 (a : Int) (b : Int) = ((a &&& b : Nat) : Int) := (bits_nat .i64 6 (by decide) small6 a b (by omega) (by omega)).1
theorem orN {a b : Nat} (ha : a < 64) (hb : b < 64) : bits .or .i64 (a : Int) (b : Int) = ((a ||| b : Nat) : Int) := (bits_nat .i64 6 (by decide) small6 a b (by omega) (by omega)).2
theorem has2N {a b : Nat} (ha : a < 64) (hb : b < 64) : has2B (a : Int) (b : Int) = true ↔ a &&& b = b := by
  unfold has2B
  rw [andN ha hb, beq_iff_eq]
  omega
theorem has2_trans {a b c : Int} (ha : 0 ≤ a ∧ a < 64) (hb : 0 ≤ b ∧ b < 64) (hc : 0 ≤ c ∧ c < 64) (h1 : has2B a b = true) (h2 : has2B b c = true) : has2B a c = true := by
  obtain ⟨x, rfl⟩ : ∃ x : Nat, a = x := ⟨a.toNat, by omega⟩
  obtain ⟨y, rfl⟩ : ∃ y : Nat, b = y := ⟨b.toNat, by omega⟩
  obtain ⟨z, rfl⟩ : ∃ z : Nat, c = z := ⟨c.toNat, by omega⟩
  rw [has2N (by omega) (by omega)] at h1 h2 ⊢
  rw [← h2, ← Nat.and_assoc, h1]
theorem has2_or {a b k : Int} (ha : 0 ≤ a ∧ a < 64) (hb : 0 ≤ b ∧ b < 64) (hk : 0 ≤ k ∧ k < 64) (h : has2B a b = true) : has2B (bits .or .i64 a k) (bits .or .i64 b k) = true := by
  obtain ⟨x, rfl⟩ : ∃ x : Nat, a = x := ⟨a.toNat, by omega⟩
  obtain ⟨y, rfl⟩ : ∃ y : Nat, b = y := ⟨b.toNat, by omega⟩
  obtain ⟨z, rfl⟩ : ∃ z : Nat, k = z := ⟨k.toNat, by omega⟩
  rw [has2N (by omega) (by omega)] at h
  have l1 := or_set (s := (x : Int)) (t := (z : Int)) ha.1 ha.2 hk.1 hk.2
  have l2 := or_set (s := (y : Int)) (t := (z : Int)) hb.1 hb.2 hk.1 hk.2
  rw [orN (by omega) (by omega)] at l1 ⊢
  rw [orN (by omega) (by omega)] at l2 ⊢
  rw [has2N (by omega) (by omega)]
  refine Nat.eq_of_testBit_eq fun i => ?_
  have hi : (x &&& y).testBit i = y.testBit i := by rw [h]
  rw [Nat.testBit_and] at hi
  rw [Nat.testBit_and, Nat.testBit_or, Nat.testBit_or]
  generalize x.testBit i = p at hi ⊢
  generalize y.testBit i = q at hi ⊢
  generalize z.testBit i = r
  revert hi
  cases p <;> cases q <;> cases r <;> decide
theorem or63_fin : ∀ s : Fin 64, bits .or .i64 63 (s.val : Int) = 63 := by decide +kernel
theorem has63_fin : ∀ s : Fin 64, has2B 63 (s.val : Int) = true := by decide +kernel
theorem stAt63 {m : Mz} (V : Valid m) (x : Int) : stAt m x 63 = (x, 63) := by
  obtain ⟨k0, k1⟩ := keyAt_set V x
  have := or63_fin ⟨(keyAt m x).toNat, by omega⟩
  simp only at this
  rw [show (((keyAt m x).toNat : Nat) : Int) = keyAt m x by omega] at this
  unfold stAt
  rw [this]
theorem has63 {s : Int} (h0 : 0 ≤ s) (h1 : s < 64) : has2B 63 s = true := by
  have := has63_fin ⟨s.toNat, by omega⟩
  simp only at this
  rwa [show ((s.toNat : Nat) : Int) = s by omega] at this
theorem open_mono {m : Mz} (V : Valid m) {x y s t : Int} (hs : 0 ≤ s ∧ s < 64) (ht : 0 ≤ t ∧ t < 64) (h : has2B t s = true) (ho : openB m.doors x y s = true) : openB m.doors x y t = true := by
  unfold openB at *
  rw [List.any_eq_true] at *
  obtain ⟨d, hd, h1⟩ := ho
  rw [Bool.and_eq_true] at h1
  obtain ⟨i, hi, rfl⟩ := List.mem_iff_getElem.1 hd
  have hv := V.door i hi
  exact ⟨_, hd, by rw [Bool.and_eq_true]; exact ⟨h1.1, has2_trans ht hs ⟨hv.2.2.2.2.2.1, hv.2.2.2.2.2.2⟩ h h1.2⟩⟩
/-- the same walk with more colours -/
theorem wlk_mono {m : Mz} (V : Valid m) {s s' : St} (hs : StOk m s) (hs' : StOk m s') (hx : s'.1 = s.1) (hh : has2B s'.2 s.2 = true) {n : Nat} {t : St} (h : Wlk (nexts m) [s] n t) : ∃ t', Wlk (nexts m) [s'] n t' ∧ StOk m t ∧ StOk m t' ∧ t'.1 = t.1 ∧ has2B t'.2 t.2 = true := by
  induction h with
  | zero h =>
    rw [List.mem_singleton] at h
    subst h
    exact ⟨s', .zero (by simp), hs, hs', hx, hh⟩
  | @succ n u t hu ht ih =>
    obtain ⟨u', hu', hok, hok', he, hc⟩ := ih
    obtain ⟨y, hy, ho, rfl⟩ := mem_nexts.1 ht
    have hk := keyAt_set V (y : Int)
    refine ⟨stAt m y u'.2, .succ hu' (mem_nexts.2 ⟨y, hy, ?_, rfl⟩), stAt_ok V (by omega) (by omega) hok.2.2.1 hok.2.2.2, stAt_ok V (by omega) (by omega) hok'.2.2.1 hok'.2.2.2, rfl, has2_or ⟨hok'.2.2.1, hok'.2.2.2⟩ ⟨hok.2.2.1, hok.2.2.2⟩ hk hc⟩
    rw [he]
    exact open_mono V ⟨hok.2.2.1, hok.2.2.2⟩ ⟨hok'.2.2.1, hok'.2.2.2⟩ hc ho
theorem wayO_lst (m : Mz) (s : St) (p : St → Bool) : wayO m s p = lst fun n => ∃ t, p t = true ∧ Wlk (nexts m) [s] n t := minO_dst _ _ _
/-- where a walk goes there is a least one -/
theorem lst_some {P : Nat → Prop} {n : Nat} (h : P n) : ∃ k, lst P = some k ∧ k ≤ n := by
  have := lst_is P
  cases e : lst P with
  | none => rw [e] at this; exact absurd h (this n)
  | some k => rw [e] at this; exact ⟨k, rfl, this.2 n h⟩
theorem win63 {m : Mz} (V : Valid m) {n : Nat} (h : fwO m 0 = some n) : ∃ v, wayO m (0, 63) (wonB m) = some v := by
  have hm := of_valid V
  unfold fwO at h
  rw [hm, show setB 0 = true from by decide] at h
  simp only [Bool.and_self, if_true] at h
  rw [wayO_lst] at h
  have hl := lst_is fun n => ∃ t, wantW m 0 t = true ∧ Wlk (nexts m) [st0 m] n t
  rw [h] at hl
  obtain ⟨⟨t, ht, hw⟩, _⟩ := hl
  have h0 := st0_ok V
  have h63 : StOk m (0, 63) := ⟨by decide, by have := V.size1; show (0 : Int) < m.size; omega, by decide, by decide⟩
  obtain ⟨t', hw', _, _, he, _⟩ := wlk_mono V h0 h63 rfl (has63 h0.2.2.1 h0.2.2.2) hw
  rw [wayO_lst]
  obtain ⟨k, hk, _⟩ := lst_some (P := fun n => ∃ t, wonB m t = true ∧ Wlk (nexts m) [(0, 63)] n t) ⟨t', by
    unfold wantW at ht
    rw [Bool.and_eq_true] at ht
    unfold wonB
    rw [he]
    exact ht.1, hw'⟩
  exact ⟨k, hk⟩
theorem tabV_bd (m : Mz) : (tabV m).length ≤ 1048576 := by
  unfold tabV
  split
  · rename_i h
    have := (valid_of h).size12
    rw [stepsTo_len]
    omega
  · simp
theorem sakV_bd (m : Mz) : (sakV m).length ≤ 1048576 := Nat.le_trans (sakV_len m) (by decide)
end M
end Go.Proofs.Ytcoaggnilgfjfaa
