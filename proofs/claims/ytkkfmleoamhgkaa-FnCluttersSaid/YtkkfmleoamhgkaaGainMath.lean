/-
  MATHEMATICS of rounds, own to these proofs: the sets of colours behind each round, the nodes entered, when the rounds end; the program's pairs of nodes and colours tell the same. No condition.
-/
import Derived.Test.YtkkfmleoamhgkaaPutMath
import Derived.Test.YtkkfmleoamhgkaaOpenMath
import Derived.Test.YtkkfmleoamhgkaaSpecMaze
import Derived.Test.YtkkfmleoamhgkaaOwn
import Derived.Test.YtkkfmleoamhgkaaDigitsI
namespace Go.Proofs.Ytkkfmleoamhgkaa
open Go.RowKit
namespace M
/-- the keys at the nodes of a list, in addition to a set -/
def gath (m : Mz) : List Int → Int → Int
  | [], s => s
  | x :: l, s => gath m l (bits .or .i64 s (m.keys.getD x.toNat 0))
theorem gath_append (m : Mz) : ∀ (l l' : List Int) (s : Int), gath m (l ++ l') s = gath m l' (gath m l s)
  | [], _, _ => rfl
  | _ :: l, l', _ => gath_append m l l' _
theorem gath_take {m : Mz} {l : List Int} {k : Nat} (h : k < l.length) (s : Int) : gath m (l.take (k + 1)) s = bits .or .i64 (gath m (l.take k) s) (m.keys.getD l[k].toNat 0) := by
  rw [List.take_succ_eq_append_getElem h, gath_append]
  rfl
/-- a set has all colours of another one -/
def SubS (s t : Int) : Prop := has2B t s = true
theorem and_nat {a b : Nat} (ha : a < 64) (hb : b < 64) : bits .and .i64 (a : Int) (b : Int) = ((a &&& b : Nat) : Int) := (bits_nat .i64 62 (by decide) wraps_i64 a b (by omega) (by omega)).1
theorem or_nat {a b : Nat} (ha : a < 64) (hb : b < 64) : bits .or .i64 (a : Int) (b : Int) = ((a ||| b : Nat) : Int) := (bits_nat .i64 62 (by decide) wraps_i64 a b (by omega) (by omega)).2
theorem sub_nat {a b : Nat} (ha : a < 64) (hb : b < 64) : SubS (a : Int) (b : Int) ↔ b &&& a = a := by
  unfold SubS has2B
  rw [and_nat hb ha, beq_iff_eq]
  exact ⟨fun h => by exact_mod_cast h, fun h => by exact_mod_cast h⟩
theorem SubS.trans {s t u : Int} (hs : 0 ≤ s ∧ s < 64) (ht : 0 ≤ t ∧ t < 64) (hu : 0 ≤ u ∧ u < 64) (h1 : SubS s t) (h2 : SubS t u) : SubS s u := by
  obtain ⟨a, rfl⟩ : ∃ a : Nat, s = a := ⟨s.toNat, by omega⟩
  obtain ⟨b, rfl⟩ : ∃ a : Nat, t = a := ⟨t.toNat, by omega⟩
  obtain ⟨c, rfl⟩ : ∃ a : Nat, u = a := ⟨u.toNat, by omega⟩
  rw [sub_nat (by omega) (by omega)] at *
  rw [← h1, ← Nat.and_assoc, h2]
theorem SubS.refl {s : Int} (hs : 0 ≤ s ∧ s < 64) : SubS s s := by
  obtain ⟨a, rfl⟩ : ∃ a : Nat, s = a := ⟨s.toNat, by omega⟩
  rw [sub_nat (by omega) (by omega), Nat.and_self]
theorem SubS.le {s t : Int} (hs : 0 ≤ s ∧ s < 64) (ht : 0 ≤ t ∧ t < 64) (h : SubS s t) : s ≤ t := by
  obtain ⟨a, rfl⟩ : ∃ a : Nat, s = a := ⟨s.toNat, by omega⟩
  obtain ⟨b, rfl⟩ : ∃ a : Nat, t = a := ⟨t.toNat, by omega⟩
  rw [sub_nat (by omega) (by omega)] at h
  have : b &&& a ≤ b := Nat.and_le_left
  omega
theorem SubS.or {s t : Int} (hs : 0 ≤ s ∧ s < 64) (ht : 0 ≤ t ∧ t < 64) : SubS s (bits .or .i64 s t) := by
  obtain ⟨a, rfl⟩ : ∃ a : Nat, s = a := ⟨s.toNat, by omega⟩
  obtain ⟨b, rfl⟩ : ∃ a : Nat, t = a := ⟨t.toNat, by omega⟩
  have ha : a < 64 := by omega
  have hb : b < 64 := by omega
  have h64 : (2 : Nat) ^ 6 = 64 := rfl
  have hlt : a ||| b < 64 := by rw [← h64]; exact Nat.or_lt_two_pow (by rw [h64]; exact ha) (by rw [h64]; exact hb)
  rw [or_nat ha hb, sub_nat ha hlt]
  refine Nat.eq_of_testBit_eq fun p => ?_
  rw [Nat.testBit_and, Nat.testBit_or]
  cases a.testBit p <;> simp
theorem key_set {m : Mz} (V : Valid m) (k : Nat) : 0 ≤ m.keys.getD k 0 ∧ m.keys.getD k 0 < 64 := by
  rw [List.getD_eq_getElem?_getD]
  rcases Nat.lt_or_ge k m.keys.length with h | h
  · rw [List.getElem?_eq_getElem h]
    exact V.key k h
  · rw [List.getElem?_eq_none h]
    exact ⟨by decide, by decide⟩
theorem gath_set {m : Mz} (V : Valid m) : ∀ (l : List Int) (s : Int), 0 ≤ s ∧ s < 64 → (0 ≤ gath m l s ∧ gath m l s < 64) ∧ SubS s (gath m l s)
  | [], _, h => ⟨h, SubS.refl h⟩
  | x :: l, s, h => by
    have hk := key_set V x.toNat
    have ho := or_set h.1 h.2 hk.1 hk.2
    have ih := gath_set V l _ ho
    exact ⟨ih.1, (SubS.or h hk).trans h ho ih.1 ih.2⟩
theorem least_of {p : Nat → Prop} : ∀ k, p k → ∃ j, j ≤ k ∧ p j ∧ ∀ i, i < j → ¬ p i := by
  intro k
  induction k using Nat.strongRecOn with
  | ind k ih =>
    intro hk
    rcases Classical.em (∃ i, i < k ∧ p i) with ⟨i, hi, hp⟩ | hn
    · obtain ⟨j, h1, h2, h3⟩ := ih i hi hp
      exact ⟨j, by omega, h2, h3⟩
    · exact ⟨k, Nat.le_refl _, hk, fun i hi hp => hn ⟨i, hi, hp⟩⟩
/-- the number whose binary digits are the nodes of a list -/
def mk : List Int → Nat
  | [] => 0
  | x :: l => 2 ^ x.toNat ||| mk l
theorem mk_lt {l : List Int} (hl : ∀ x ∈ l, x < 12) : mk l < 4096 := by
  have h12 : (2 : Nat) ^ 12 = 4096 := rfl
  induction l with
  | nil => decide
  | cons x l ih =>
    have hx := hl x (List.mem_cons_self ..)
    unfold mk
    rw [← h12]
    exact Nat.or_lt_two_pow (Nat.pow_lt_pow_of_lt (by decide) (by omega)) (by rw [h12]; exact ih fun y hy => hl y (List.mem_cons_of_mem _ hy))
end M
end Go.Proofs.Ytkkfmleoamhgkaa
