/-
  PLAIN MATHEMATICS: the checksum of a list of bytes changes with any one byte, so a sealed list in which one byte is another one is no sealed list. No condition beyond that the list ahead of the mark holds no mark; nothing of the program stands here.
-/
import Derived.Test.YtlbnofkjjjbfnaaDoorMath
import Derived.Test.YtlbnofkjjjbfnaaDoorReadMath
import Derived.Test.YtlbnofkjjjbfnaaDoorFirst
namespace Go.Proofs.YtlbnofkjjjbfnaaDoor
namespace M

theorem cstep_inj {h h' : Int} {c : UInt8} (h0 : 0 ≤ h) (h1 : h < 999979) (h0' : 0 ≤ h') (h1' : h' < 999979) (e : cstep h c = cstep h' c) : h = h' := by
  unfold cstep at e
  omega
theorem cstep_byte {h : Int} {c c' : UInt8} (e : cstep h c = cstep h c') : c = c' := by
  unfold cstep at e
  have b1 := UInt8.toNat_lt c
  have b2 := UInt8.toNat_lt c'
  apply UInt8.toNat.inj
  omega
theorem fold_inj (l : List UInt8) : ∀ h h' : Int, 0 ≤ h → h < 999979 → 0 ≤ h' → h' < 999979 → l.foldl cstep h = l.foldl cstep h' → h = h' := by
  induction l with
  | nil => intro h h' _ _ _ _ e; exact e
  | cons c l ih =>
    intro h h' a b a' b' e
    exact cstep_inj a b a' b' (ih _ _ (cstep_bd h c).1 (cstep_bd h c).2 (cstep_bd h' c).1 (cstep_bd h' c).2 e)
theorem csum_byte {l1 l2 : List UInt8} {c c' : UInt8} (e : csum (l1 ++ c :: l2) = csum (l1 ++ c' :: l2)) : c = c' := by
  unfold csum at e
  simp only [List.foldl_append, List.foldl_cons] at e
  exact cstep_byte (fold_inj l2 _ _ (cstep_bd _ c).1 (cstep_bd _ c).2 (cstep_bd _ c').1 (cstep_bd _ c').2 e)

theorem itoa_inj {x y : Int} (h : Lib.itoa x = Lib.itoa y) : x = y := by rw [← sg_itoa x, h, sg_itoa]
theorem itoa_no35 {x : Int} (h : 0 ≤ x) : (35 : UInt8) ∉ Lib.itoa x := by
  intro hm
  unfold Lib.itoa at hm
  rw [if_neg (by omega)] at hm
  have := isD_bd (dd_isD _ _ hm)
  simp at this

/-- the sealed form of a list -/
def sealL (l : List UInt8) : List UInt8 := l ++ 35 :: Lib.itoa (csum l)

theorem seal_only (l : List UInt8) (h : (35 : UInt8) ∉ l) (j : Nat) : (sealL l)[j]? = some 35 ↔ j = l.length := by
  unfold sealL
  constructor
  · intro hj
    rcases Nat.lt_trichotomy j l.length with hlt | he | hgt
    · rw [List.getElem?_append_left hlt] at hj
      exact absurd (List.mem_of_getElem? hj) h
    · exact he
    · rw [List.getElem?_append_right (by omega)] at hj
      obtain ⟨m, hm⟩ : ∃ m, j - l.length = m + 1 := ⟨j - l.length - 1, by omega⟩
      rw [hm, List.getElem?_cons_succ] at hj
      exact absurd (List.mem_of_getElem? hj) (itoa_no35 (csum_bd l).1)
  · rintro rfl
    simp

theorem seal_detects (l : List UInt8) (h : (35 : UInt8) ∉ l) (k : Nat) (c' : UInt8) (hk : k < (sealL l).length) (hc : (sealL l)[k] ≠ c') : sealL (fstL 35 ((sealL l).set k c')) ≠ (sealL l).set k c' := by
  intro e
  obtain ⟨T, hT⟩ : ∃ T, T = fstL 35 ((sealL l).set k c') := ⟨_, rfl⟩
  have hfree : (35 : UInt8) ∉ T := by rw [hT]; exact fst_free _ _
  rw [← hT] at e
  have honly := seal_only T hfree
  rw [e] at honly
  have hS := seal_only l h
  have hset : ∀ j, j ≠ k → ((sealL l).set k c')[j]? = (sealL l)[j]? := fun j hj => by
    rw [List.getElem?_set_ne (by omega)]
  have hsetk : ((sealL l).set k c')[k]? = some c' := by
    rw [List.getElem?_set_self hk]
  have hSk : (sealL l)[k]? = some (sealL l)[k] := List.getElem?_eq_getElem hk
  by_cases hkl : k = l.length
  · have h35 : (sealL l)[k]? = some 35 := (hS k).2 hkl
    have h35' : (sealL l)[k] = 35 := by
      rw [hSk] at h35
      exact Option.some.inj h35
    have hT35 := (honly T.length).2 rfl
    by_cases hj : T.length = k
    · rw [hj, hsetk] at hT35
      exact hc (h35'.trans (Option.some.inj hT35).symm)
    · rw [hset _ hj, hS] at hT35
      exact hj (hT35.trans hkl.symm)
  · have hl35 : ((sealL l).set k c')[l.length]? = some 35 := by
      rw [hset _ (by omega)]
      exact (hS _).2 rfl
    have hlen : l.length = T.length := (honly _).1 hl35
    have hpart : ∀ j, j ≠ k → (sealL T)[j]? = (sealL l)[j]? := fun j hj => by rw [e]; exact hset j hj
    rcases Nat.lt_or_gt_of_ne hkl with hlt | hgt
    · -- ahead of the mark: the digits are the old ones, the list is another one
      have hdig : Lib.itoa (csum T) = Lib.itoa (csum l) := by
        apply List.ext_getElem?
        intro j
        have := hpart (l.length + 1 + j) (by omega)
        unfold sealL at this
        rw [List.getElem?_append_right (by omega), List.getElem?_append_right (by omega)] at this
        rw [show l.length + 1 + j - T.length = j + 1 by omega, show l.length + 1 + j - l.length = j + 1 by omega] at this
        simpa using this
      have hcs := itoa_inj hdig
      have hTl : T = l.take k ++ c' :: l.drop (k + 1) := by
        apply List.ext_getElem?
        intro j
        by_cases hj : j < T.length
        · have h1 : T[j]? = ((sealL l).set k c')[j]? := by
            rw [← e]
            unfold sealL
            rw [List.getElem?_append_left hj]
          rw [h1]
          by_cases hjk : j = k
          · subst hjk
            have e0 : j - (l.take j).length = 0 := by simp; omega
            rw [hsetk, List.getElem?_append_right (by simp; omega), e0]
            rfl
          · rw [hset j hjk]
            unfold sealL
            rw [List.getElem?_append_left (by omega)]
            rcases Nat.lt_or_gt_of_ne hjk with h2 | h2
            · rw [List.getElem?_append_left (by simp; omega), List.getElem?_take, if_pos h2]
            · rw [List.getElem?_append_right (by simp; omega)]
              simp only [List.length_take]
              rw [show min k l.length = k by omega]
              obtain ⟨m, hm⟩ : ∃ m, j - k = m + 1 := ⟨j - k - 1, by omega⟩
              rw [hm, List.getElem?_cons_succ, List.getElem?_drop]
              congr 1
              omega
        · rw [List.getElem?_eq_none (by omega), List.getElem?_eq_none (by simp; omega)]
      have hll : l = l.take k ++ l[k] :: l.drop (k + 1) := by simp
      have hb : c' = l[k] := by
        apply csum_byte (l1 := l.take k) (l2 := l.drop (k + 1))
        rw [← hTl, ← hll]
        exact hcs
      apply hc
      rw [hb]
      have h2 : (sealL l)[k]? = some l[k] := by
        unfold sealL
        rw [List.getElem?_append_left hlt, List.getElem?_eq_getElem hlt]
      rw [hSk] at h2
      exact Option.some.inj h2
    · have hTl : T = l := by
        apply List.ext_getElem?
        intro j
        by_cases hj : j < l.length
        · have := hpart j (by omega)
          unfold sealL at this
          rwa [List.getElem?_append_left (by omega), List.getElem?_append_left hj] at this
        · rw [List.getElem?_eq_none (by omega), List.getElem?_eq_none (by omega)]
      rw [hTl] at e
      have := congrArg (·[k]?) e
      simp only [hsetk, hSk] at this
      exact hc (Option.some.inj this)
end M
end Go.Proofs.YtlbnofkjjjbfnaaDoor
