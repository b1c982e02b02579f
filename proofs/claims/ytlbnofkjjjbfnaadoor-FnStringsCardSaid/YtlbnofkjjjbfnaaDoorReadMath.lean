/-
  PLAIN MATHEMATICS of reading a decimal numeral: the digits of Lib.itoa read back give the number, and what the model's reader says of any list of bytes. No condition; nothing of the program stands here.
-/
import Derived.Below
import Derived.Lib.ItoaNum
import Derived.Lib.ItoaLen
namespace Go.Proofs.YtlbnofkjjjbfnaaDoor
namespace M

def isD (c : UInt8) : Bool := decide (48 ≤ (c.toNat : Int)) && decide ((c.toNat : Int) ≤ 57)
def vstep (n : Int) (c : UInt8) : Int := 10 * n + ((c.toNat : Int) - 48)
def val (l : List UInt8) : Int := l.foldl vstep 0
/-- the bytes behind a sign, where more than the sign stands there -/
def tl (l : List UInt8) : List UInt8 := if 1 < l.length ∧ l.headD 0 = 45 then l.drop 1 else l
def sg (l : List UInt8) : Int := if (tl l).length < l.length then -(val (tl l)) else val (tl l)
def rdOk (l : List UInt8) : Prop := 1 ≤ (tl l).length ∧ (tl l).length ≤ 6 ∧ (∀ c ∈ tl l, isD c = true) ∧ Lib.itoa (sg l) = l

theorem val_snoc (l : List UInt8) (c : UInt8) : val (l ++ [c]) = 10 * val l + ((c.toNat : Int) - 48) := by
  simp [val, List.foldl_append, vstep]

theorem isD_bd {c : UInt8} (h : isD c = true) : 48 ≤ (c.toNat : Int) ∧ (c.toNat : Int) ≤ 57 := by
  simpa [isD] using h

theorem vfold_bd (l : List UInt8) : ∀ a : Int, 0 ≤ a → (∀ c ∈ l, isD c = true) → 0 ≤ l.foldl vstep a ∧ l.foldl vstep a < (a + 1) * 10 ^ l.length := by
  induction l with
  | nil => intro a h _; simp; omega
  | cons c l ih =>
    intro a h0 h
    have h2 := isD_bd (h c (by simp))
    have h3 := ih (vstep a c) (by unfold vstep; omega) (fun c hc => h c (by simp [hc]))
    refine ⟨h3.1, Int.lt_of_lt_of_le h3.2 ?_⟩
    rw [List.length_cons, Int.pow_succ, show (a + 1) * (10 ^ l.length * 10) = (10 * (a + 1)) * 10 ^ l.length by rw [Int.mul_comm (10 ^ l.length) 10, ← Int.mul_assoc, Int.mul_comm (a + 1) 10]]
    exact Int.mul_le_mul_of_nonneg_right (by unfold vstep; omega) (Int.le_of_lt (Int.pow_pos (by decide)))
theorem val_bd (l : List UInt8) (h : ∀ c ∈ l, isD c = true) : 0 ≤ val l ∧ val l < 10 ^ l.length := by
  have := vfold_bd l 0 (by decide) h
  simpa [val] using this

theorem dg_toNat (u : Nat) (h : u < 10) : (UInt8.ofNat (48 + u)).toNat = 48 + u := by
  rw [UInt8.toNat_ofNat']
  omega

theorem dd_isD (u : Nat) : ∀ c ∈ Lib.decDigits u, isD c = true := by
  induction u using Nat.strongRecOn with
  | _ u ih =>
    intro c hc
    rw [Lib.decDigits] at hc
    by_cases h : u < 10
    · rw [dif_pos h] at hc
      simp at hc
      subst hc
      simp [isD]
      omega
    · rw [dif_neg h] at hc
      simp at hc
      rcases hc with hc | hc
      · exact ih (u / 10) (by omega) c hc
      · subst hc
        simp [isD]
        omega

theorem dd_val (u : Nat) : val (Lib.decDigits u) = u := by
  induction u using Nat.strongRecOn with
  | _ u ih =>
    rw [Lib.decDigits]
    by_cases h : u < 10
    · rw [dif_pos h]
      simp [val, vstep]
      omega
    · rw [dif_neg h, val_snoc, ih (u / 10) (by omega), dg_toNat (u % 10) (by omega)]
      omega

theorem dd_len_pos (u : Nat) : 1 ≤ (Lib.decDigits u).length := by
  rw [Lib.decDigits_length]; exact Lib.nDigits_pos u

theorem dd_len (u : Nat) (h : u ≤ 999999) : (Lib.decDigits u).length ≤ 6 := by
  rw [Lib.decDigits_length]
  rw [Lib.nDigits]; split; · omega
  rw [Lib.nDigits]; split; · omega
  rw [Lib.nDigits]; split; · omega
  rw [Lib.nDigits]; split; · omega
  rw [Lib.nDigits]; split; · omega
  rw [Lib.nDigits]; split; · omega
  omega

theorem dd_head (u : Nat) : (Lib.decDigits u).headD 0 ≠ 45 := by
  have h1 := dd_len_pos u
  have h2 := dd_isD u
  cases hd : Lib.decDigits u with
  | nil => simp [hd] at h1
  | cons c r =>
    have := isD_bd (h2 c (by simp [hd]))
    simp
    intro hc
    subst hc
    simp at this

theorem tl_itoa (x : Int) : tl (Lib.itoa x) = Lib.decDigits x.natAbs := by
  unfold tl Lib.itoa
  by_cases h : x < 0
  · rw [if_pos h]
    have := dd_len_pos x.natAbs
    rw [if_pos (by simp; omega)]
    rfl
  · rw [if_neg h]
    have := dd_head x.toNat
    rw [if_neg (by intro hh; exact this hh.2)]
    rw [show x.toNat = x.natAbs by omega]

theorem sg_itoa (x : Int) : sg (Lib.itoa x) = x := by
  unfold sg
  rw [tl_itoa, dd_val]
  unfold Lib.itoa
  by_cases h : x < 0
  · rw [if_pos h, if_pos (by simp)]
    omega
  · rw [if_neg h, show x.toNat = x.natAbs by omega, if_neg (by omega)]
    omega

theorem rdOk_itoa (x : Int) (h0 : -999999 ≤ x) (h1 : x ≤ 999999) : rdOk (Lib.itoa x) := by
  refine ⟨?_, ?_, ?_, by rw [sg_itoa]⟩
  · rw [tl_itoa]; exact dd_len_pos _
  · rw [tl_itoa]; exact dd_len _ (by omega)
  · rw [tl_itoa]; exact dd_isD _

theorem sg_bd (l : List UInt8) (h : (tl l).length ≤ 6) (hd : ∀ c ∈ tl l, isD c = true) : -999999 ≤ sg l ∧ sg l ≤ 999999 := by
  have hb := val_bd _ hd
  have hp : (10 : Int) ^ (tl l).length ≤ 10 ^ 6 := by
    have : (10 : Nat) ^ (tl l).length ≤ 10 ^ 6 := Nat.pow_le_pow_right (by decide) h
    exact_mod_cast this
  unfold sg
  have : (10 : Int) ^ 6 = 1000000 := by decide
  split <;> omega

theorem val_bd6 (l : List UInt8) (hd : ∀ c ∈ l, isD c = true) (h : l.length ≤ 6) : 0 ≤ val l ∧ val l < 1000000 := by
  have hb := val_bd _ hd
  have hp : (10 : Int) ^ l.length ≤ 10 ^ 6 := by
    have : (10 : Nat) ^ l.length ≤ 10 ^ 6 := Nat.pow_le_pow_right (by decide) h
    exact_mod_cast this
  have : (10 : Int) ^ 6 = 1000000 := by decide
  omega
theorem all_snoc {l : List UInt8} {c : UInt8} (h : ∀ c ∈ l, isD c = true) (hc : isD c = true) : ∀ x ∈ l ++ [c], isD x = true := by
  intro x hx
  simp at hx
  rcases hx with hx | rfl
  · exact h x hx
  · exact hc
theorem not_isD {c : UInt8} (h : ¬ isD c = true) : (c.toNat : Int) < 48 ∨ 57 < (c.toNat : Int) := by
  by_cases h1 : (c.toNat : Int) < 48
  · exact .inl h1
  · refine .inr ?_
    by_cases h2 : 57 < (c.toNat : Int)
    · exact h2
    · exact absurd (by simp [isD]; omega) h
theorem not_rdOk_of {l : List UInt8} {c : UInt8} (h : c ∈ tl l) (hc : ¬ isD c = true) : ¬ rdOk l := fun hh => hc (hh.2.2.1 c h)
theorem mem_get (s : ByteArray) (k : Nat) (h : k < s.size) : s[k] ∈ s.data.toList := by
  have : s[k] = s.data.toList[k]'(by simpa using h) := rfl
  rw [this]
  exact List.getElem_mem _
theorem tl_plain (s : ByteArray) {h : 0 < s.size} (h45 : s[0] ≠ 45) : tl s.data.toList = s.data.toList := by
  unfold tl
  rw [if_neg]
  rintro ⟨_, h2⟩
  apply h45
  rw [← h2]
  cases hd : s.data.toList with
  | nil =>
    have : s.data.toList.length = 0 := by rw [hd]; rfl
    simp at this
    exact absurd h (by rw [show s.size = s.data.size from rfl, this]; simp)
  | cons c r =>
    have : s[0] = s.data.toList[0]'(by simpa using h) := rfl
    rw [this]
    simp [hd]
theorem tl_one (s : ByteArray) (h : s.size = 1) : tl s.data.toList = s.data.toList := by
  unfold tl
  rw [if_neg]
  rintro ⟨h2, _⟩
  simp at h2
  omega

theorem headD_get (l : List UInt8) (h : 0 < l.length) : l.headD 0 = l[0] := by
  cases l with
  | nil => simp at h
  | cons c r => rfl
theorem tl_neg (s : ByteArray) {t : ByteArray} (h1 : 1 < s.size) (h45 : s[0] = 45) (ht : s.extract 1 s.size = t) : tl s.data.toList = t.data.toList := by
  have h2 : s.data.toList.headD 0 = 45 := by
    rw [headD_get _ (by simp; omega)]
    exact h45
  unfold tl
  rw [if_pos ⟨by simpa using h1, h2⟩, ← ht]
  simp
  rw [List.take_of_length_le (by simp)]

/-- what is read is a numeral of a number within the limits -/
theorem rdOk_iff (l : List UInt8) : rdOk l ↔ ∃ x : Int, -999999 ≤ x ∧ x ≤ 999999 ∧ l = Lib.itoa x := by
  constructor
  · rintro ⟨_, h2, h3, h4⟩
    exact ⟨sg l, (sg_bd l h2 h3).1, (sg_bd l h2 h3).2, h4.symm⟩
  · rintro ⟨x, h0, h1, rfl⟩
    exact rdOk_itoa x h0 h1

end M
end Go.Proofs.YtlbnofkjjjbfnaaDoor
