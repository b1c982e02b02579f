/-
  MATHEMATICS of the lever sets that pulls can make, own to these proofs. No condition.
-/
import Derived.Test.YtdgfceiobpnchaaHas
import Derived.Test.YtdgfceiobpnchaaWkA
namespace Go.Proofs.Ytdgfceiobpnchaa
open Go.RowKit
namespace M
def xorP (p : Int) (k : Int) : Int := bits .xor .i64 k p
def spanI (L : List Int) (p : Int) : List Int := if memB L p then L else L ++ L.map (xorP p)
def spanS (L : List Int) (p : Int) : List Int := if memB L p then L else L ++ L.reverse.map (xorP p)
theorem memB_perm {L L' : List Int} (h : L.Perm L') (p : Int) : memB L p = memB L' p := by
  rw [Bool.eq_iff_iff]
  unfold memB
  rw [List.contains_iff_mem, List.contains_iff_mem]
  exact h.mem_iff
theorem span_perm {L L' : List Int} (h : L.Perm L') (p : Int) : (spanI L p).Perm (spanS L' p) := by
  unfold spanI spanS
  rw [memB_perm h p]
  cases memB L' p with
  | true => exact h
  | false => exact h.append ((h.trans L'.reverse_perm.symm).map _)
theorem spans_perm (l : List Int) : ∀ {L L' : List Int}, L.Perm L' → (l.foldl spanI L).Perm (l.foldl spanS L') := by
  induction l with
  | nil => exact fun h => h
  | cons p l ih => exact fun h => ih (span_perm h p)
theorem spanI_len (L : List Int) (p : Int) : (spanI L p).length ≤ 2 * L.length := by
  unfold spanI
  split
  · omega
  · rw [List.length_append, List.length_map]; omega
theorem spans_len (l : List Int) : ∀ L : List Int, (l.foldl spanI L).length ≤ 2 ^ l.length * L.length := by
  induction l with
  | nil => intro L; simp
  | cons p l ih =>
    intro L
    have h1 := ih (spanI L p)
    have h2 := Nat.mul_le_mul_left (2 ^ l.length) (spanI_len L p)
    rw [List.foldl_cons, List.length_cons, Nat.pow_succ, Nat.mul_assoc]
    exact Nat.le_trans h1 h2
def spnI (m : Wk) (k : Nat) : List Int := (m.pulls.take k).foldl spanI [0]
def spnS (m : Wk) (k : Nat) : List Int := (m.pulls.take k).foldl spanS [0]
theorem spn_same (m : Wk) (k : Nat) : (spnI m k).length = (spnS m k).length := (spans_perm _ (List.Perm.refl [0])).length_eq
theorem spnI_len {m : Wk} (h : m.pulls.length ≤ 12) (k : Nat) : (spnI m k).length ≤ 4096 := by
  have h1 := spans_len (m.pulls.take k) [0]
  have h2 : 2 ^ (m.pulls.take k).length ≤ 2 ^ 12 := Nat.pow_le_pow_right (by decide) (by rw [List.length_take]; omega)
  have h3 : (2 : Nat) ^ 12 = 4096 := rfl
  unfold spnI
  rw [List.length_cons, List.length_nil] at h1
  omega
theorem spnS_len {m : Wk} (h : m.pulls.length ≤ 12) (k : Nat) : (spnS m k).length ≤ 4096 := by rw [← spn_same]; exact spnI_len h k
theorem spnI_succ {m : Wk} {k : Nat} (h : k < m.pulls.length) : spnI m (k + 1) = spanI (spnI m k) m.pulls[k] := by unfold spnI; rw [List.take_succ_eq_append_getElem h, List.foldl_append]; rfl
theorem spnS_succ {m : Wk} {k : Nat} (h : k < m.pulls.length) : spnS m (k + 1) = spanS (spnS m k) m.pulls[k] := by unfold spnS; rw [List.take_succ_eq_append_getElem h, List.foldl_append]; rfl
def spanV (m : Wk) : Int := if worksB m then ((spnI m m.pulls.length).length : Int) else 0
theorem span_off {m : Wk} (h : worksB m = false) : spanV m = 0 := by unfold spanV; rw [h]; rfl
theorem span_on {m : Wk} (h : worksB m = true) : spanV m = ((spnI m m.pulls.length).length : Int) := by unfold spanV; rw [h]; rfl
theorem spanI_old {L : List Int} {p : Int} (h : memB L p = true) : spanI L p = L := if_pos h
theorem spanI_new {L : List Int} {p : Int} (h : memB L p = false) : spanI L p = L ++ L.map (xorP p) := by unfold spanI; rw [h]; rfl
theorem spanS_old {L : List Int} {p : Int} (h : memB L p = true) : spanS L p = L := if_pos h
theorem spanS_new {L : List Int} {p : Int} (h : memB L p = false) : spanS L p = L ++ L.reverse.map (xorP p) := by unfold spanS; rw [h]; rfl
/-- the new ones taken one by one -/
theorem map_take_succ {L : List Int} {f : Int → Int} {j : Nat} (h : j < L.length) : (L.map f).take (j + 1) = (L.map f).take j ++ [f L[j]] := by
  rw [List.take_succ_eq_append_getElem (by rw [List.length_map]; exact h), List.getElem_map]
theorem rev_take_succ {L : List Int} {f : Int → Int} {j : Nat} (h : j < L.length) : (L.reverse.map f).take (j + 1) = (L.reverse.map f).take j ++ [f (L[L.length - 1 - j]'(by omega))] := by
  rw [map_take_succ (by rw [List.length_reverse]; exact h), List.getElem_reverse]
end M
end Go.Proofs.Ytdgfceiobpnchaa
