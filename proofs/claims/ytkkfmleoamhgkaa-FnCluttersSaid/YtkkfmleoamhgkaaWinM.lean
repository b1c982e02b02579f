/-
  MATHEMATICS of the sets that win, own to these proofs: a maze of which only the keys of a set are left, that more colours win as well. No condition.
-/
import Derived.Test.YtkkfmleoamhgkaaSpecMaze
import Derived.Test.YtkkfmleoamhgkaaGainMath
import Derived.Test.YtkkfmleoamhgkaaClone
import Derived.Deep.RegionHeld3
import Derived.Deep.RegionLaw
import Derived.Test.YtkkfmleoamhgkaaMem
import Derived.Laws.StructEq
import Derived.ProofKit
import Derived.Test.YtkkfmleoamhgkaaPutMath
import Derived.Test.YtkkfmleoamhgkaaInts
import Derived.Test.YtkkfmleoamhgkaaOpenMath
import Derived.Test.YtkkfmleoamhgkaaCluM
namespace Go.Proofs.Ytkkfmleoamhgkaa
open Go.RowKit
namespace M
/-- the maze with the keys of a set alone -/
def onlyS (m : Mz) (s : Int) : Mz := ⟨m.size, m.doors, m.keys.map fun k => bits .and .i64 k s⟩
theorem andSub_fin : ∀ k s t : Fin 64, subF s t = true → has2B (bits .and .i64 (k.val : Int) (t.val : Int)) (bits .and .i64 (k.val : Int) (s.val : Int)) = true := by
  intro k s t h
  unfold subF at h
  rw [beq_iff_eq] at h
  rw [and_nat k.isLt s.isLt, and_nat k.isLt t.isLt]
  have h1 : k.val &&& s.val < 64 := Nat.lt_of_le_of_lt Nat.and_le_left k.isLt
  have h2 : k.val &&& t.val < 64 := Nat.lt_of_le_of_lt Nat.and_le_left k.isLt
  have := (sub_nat h1 h2).2 (by
    refine Nat.eq_of_testBit_eq fun p => ?_
    have hp := congrArg (fun x => Nat.testBit x p) h
    simp only [Nat.testBit_and] at hp ⊢
    cases hk : k.val.testBit p <;> cases h3 : s.val.testBit p <;> cases h4 : t.val.testBit p <;> simp_all)
  exact this
theorem only_key (m : Mz) (s : Int) (h0 : bits .and .i64 0 s = 0) (k : Nat) : (onlyS m s).keys.getD k 0 = bits .and .i64 (m.keys.getD k 0) s := by
  unfold onlyS
  simp only [List.getD_eq_getElem?_getD, List.getElem?_map]
  cases m.keys[k]? with
  | none => simp [h0]
  | some v => rfl
theorem and0_fin : ∀ t : Fin 64, bits .and .i64 0 (t.val : Int) = 0 := by decide +kernel
theorem set6 (s : St6) : (0 : Int) ≤ (s.val : Int) ∧ (s.val : Int) < 64 := by omega
/-- all colours but those of a set -/
def notF (s : St6) : St6 := ⟨63 - s.val, by omega⟩
theorem notF_val (s : St6) : ((notF s).val : Int) = 63 - (s.val : Int) := by show ((63 - s.val : Nat) : Int) = _; omega
theorem notF_sub : ∀ s t : St6, subF s t = true → subF (notF t) (notF s) = true := by decide +kernel
/-- a list of sets, as numbers -/
def intsF (l : List St6) : List Int := l.map fun a => (a.val : Int)
theorem intsF_len (l : List St6) : (intsF l).length = l.length := by unfold intsF; rw [List.length_map]
theorem intsF_snoc (l : List St6) (a : St6) : intsF (l ++ [a]) = intsF l ++ [(a.val : Int)] := by unfold intsF; rw [List.map_append]; rfl
theorem intsF_at {l : List St6} {k : Nat} (h : k < l.length) : (intsF l)[k]'(by rw [intsF_len]; exact h) = ((l[k]).val : Int) := by unfold intsF; rw [List.getElem_map]
theorem mem_intsF {l : List St6} {x : Int} (h : x ∈ intsF l) : 0 ≤ x ∧ x < 64 := by
  unfold intsF at h
  obtain ⟨a, _, rfl⟩ := List.mem_map.1 h
  exact set6 a
theorem intsF_inj {a b : List St6} (h : intsF a = intsF b) : a = b := by
  unfold intsF at h
  exact List.map_inj_right (fun x y e => Fin.ext (by omega)) |>.1 h
/-- a list of sets, taken from numbers -/
def setsOf (l : List Int) : List St6 := l.map fun z => ⟨z.toNat % 64, Nat.mod_lt _ (by decide)⟩
theorem setsOf_len (l : List Int) : (setsOf l).length = l.length := by unfold setsOf; rw [List.length_map]
theorem intsF_setsOf {l : List Int} (h : ∀ z ∈ l, 0 ≤ z ∧ z < 64) : intsF (setsOf l) = l := by
  unfold intsF setsOf
  rw [List.map_map]
  conv => rhs; rw [← List.map_id l]
  refine List.map_congr_left fun z hz => ?_
  have := h z hz
  show ((z.toNat % 64 : Nat) : Int) = z
  omega
/-- the sets below k of a kind -/
def selTo (P : St6 → Bool) (k : Nat) : List St6 := (allN.take k).filter P
  where allN : List St6 := List.finRange 64
theorem selTo_zero (P : St6 → Bool) : selTo P 0 = [] := by unfold selTo; simp
theorem selTo_at {k : Nat} (h : k < 64) : selTo.allN[k]'(by unfold selTo.allN; rw [List.length_finRange]; exact h) = ⟨k, h⟩ := by unfold selTo.allN; rw [List.getElem_finRange]; rfl
theorem selTo_yes {P : St6 → Bool} {k : Nat} (h : k < 64) (hp : P ⟨k, h⟩ = true) : selTo P (k + 1) = selTo P k ++ [⟨k, h⟩] := by
  unfold selTo
  rw [List.take_succ_eq_append_getElem (by unfold selTo.allN; rw [List.length_finRange]; exact h), List.filter_append, selTo_at h, List.filter_cons_of_pos hp]
  rfl
theorem selTo_no {P : St6 → Bool} {k : Nat} (h : k < 64) (hp : P ⟨k, h⟩ = false) : selTo P (k + 1) = selTo P k := by
  unfold selTo
  rw [List.take_succ_eq_append_getElem (by unfold selTo.allN; rw [List.length_finRange]; exact h), List.filter_append, selTo_at h, List.filter_cons_of_neg (by rw [hp]; decide), List.filter_nil, List.append_nil]
theorem selTo_len (P : St6 → Bool) (k : Nat) : (selTo P k).length ≤ k := by
  unfold selTo
  have := List.length_filter_le P (selTo.allN.take k)
  rw [List.length_take] at this
  omega
def selF (P : St6 → Bool) : List St6 := selTo P 64
theorem mem_selF {P : St6 → Bool} {a : St6} : a ∈ selF P ↔ P a = true := by
  unfold selF selTo selTo.allN
  rw [List.take_of_length_le (by rw [List.length_finRange]; exact Nat.le_refl _), List.mem_filter]
  exact ⟨fun h => h.2, fun h => ⟨List.mem_finRange a, h⟩⟩
end M
end Go.Proofs.Ytkkfmleoamhgkaa
