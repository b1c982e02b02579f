/-
  MATHEMATICS of key walks, own to these proofs: which sets are taken on a walk, and whether it is one. No condition.
-/
import Derived.Test.YtcoaggnilgfjfaaUBase
namespace Go.Proofs.Ytcoaggnilgfjfaa
open Go.RowKit
namespace M
def keyAt (m : Mz) (x : Int) : Int := m.keys.getD x.toNat 0
theorem keyAt_bd {m : Mz} (V : Valid m) (x : Int) : 0 ≤ keyAt m x ∧ keyAt m x < 64 := by
  unfold keyAt
  rw [List.getD_eq_getElem?_getD]
  rcases Nat.lt_or_ge x.toNat m.keys.length with h | h
  · rw [List.getElem?_eq_getElem h]; exact V.key _ h
  · rw [List.getElem?_eq_none h]; decide
/-- what is had behind the first k nodes -/
def haveTo (m : Mz) (walk : List Int) (k : Nat) : Int := (walk.take k).foldl (fun s x => bits .or .i64 s (keyAt m x)) 0
theorem haveTo_zero (m : Mz) (walk : List Int) : haveTo m walk 0 = 0 := rfl
theorem haveTo_succ (m : Mz) {walk : List Int} {k : Nat} (h : k < walk.length) : haveTo m walk (k + 1) = bits .or .i64 (haveTo m walk k) (keyAt m walk[k]) := by
  unfold haveTo; rw [List.take_succ_eq_append_getElem h, List.foldl_append]; rfl
theorem haveTo_bd {m : Mz} (V : Valid m) (walk : List Int) (k : Nat) : 0 ≤ haveTo m walk k ∧ haveTo m walk k < 64 := by
  induction k with
  | zero => rw [haveTo_zero]; decide
  | succ k ih =>
    rcases Nat.lt_or_ge k walk.length with h | h
    · rw [haveTo_succ m h]
      have b := keyAt_bd V walk[k]
      exact or_set ih.1 ih.2 b.1 b.2
    · have e : haveTo m walk (k + 1) = haveTo m walk k := by unfold haveTo; rw [List.take_of_length_le h, List.take_of_length_le (by omega)]
      rw [e]; exact ih
theorem or_zero_fin : ∀ t : Fin 64, bits .or .i64 0 (t.val : Int) = (t.val : Int) := by decide +kernel
theorem or_zero {t : Int} (h2 : 0 ≤ t) (h3 : t < 64) : bits .or .i64 0 t = t := by
  have := or_zero_fin ⟨t.toNat, by omega⟩
  simp only at this
  rwa [Int.toNat_of_nonneg h2] at this
theorem haveTo_one {m : Mz} (V : Valid m) {walk : List Int} (h : 0 < walk.length) (h0 : walk[0] = 0) : haveTo m walk 1 = keyAt m 0 := by
  have := haveTo_succ m h
  rw [haveTo_zero, h0] at this
  rw [this]
  have b := keyAt_bd V 0
  exact or_zero b.1 b.2
/-- the sets taken at the first k nodes -/
def takenTo (m : Mz) (walk : List Int) (k : Nat) : List Int := (List.range k).map fun i => haveTo m walk (i + 1)
theorem takenTo_succ (m : Mz) (walk : List Int) (k : Nat) : takenTo m walk (k + 1) = takenTo m walk k ++ [haveTo m walk (k + 1)] := by
  unfold takenTo; rw [List.range_succ, List.map_append]; rfl
theorem takenTo_len (m : Mz) (walk : List Int) (k : Nat) : (takenTo m walk k).length = k := by unfold takenTo; simp
/-- whether the step to a place of the walk can be taken -/
def okAt (m : Mz) (walk : List Int) (k : Nat) : Bool := if k = 0 then walk.getD 0 1 == 0 else openB m.doors (walk.getD (k - 1) 0) (walk.getD k 0) (haveTo m walk k)
theorem okAt_zero (m : Mz) {walk : List Int} (h : 0 < walk.length) : okAt m walk 0 = (walk[0] == 0) := by
  unfold okAt; rw [if_pos rfl, List.getD_eq_getElem?_getD, List.getElem?_eq_getElem h]; rfl
theorem okAt_succ (m : Mz) {walk : List Int} {k : Nat} (h : k + 1 < walk.length) : okAt m walk (k + 1) = openB m.doors walk[k] walk[k + 1] (haveTo m walk (k + 1)) := by
  unfold okAt
  rw [if_neg (by omega), Nat.add_sub_cancel, List.getD_eq_getElem?_getD, List.getD_eq_getElem?_getD, List.getElem?_eq_getElem (by omega), List.getElem?_eq_getElem h]
  rfl
/-- a door that is open leads to a node -/
theorem open_node {m : Mz} (V : Valid m) {x y set : Int} (h : openB m.doors x y set = true) : (0 ≤ x ∧ x < m.size) ∧ 0 ≤ y ∧ y < m.size := by
  unfold openB at h
  obtain ⟨d, hd, hj⟩ := List.any_eq_true.1 h
  rw [Bool.and_eq_true] at hj
  obtain ⟨k, hk, rfl⟩ := List.mem_iff_getElem.1 hd
  have hv := V.door k hk
  have := hj.1
  unfold joinsB at this
  simp only [Bool.or_eq_true, Bool.and_eq_true, beq_iff_eq] at this
  omega
def walkB (m : Mz) (walk : List Int) : Bool := decide (0 < walk.length) && (List.range walk.length).all (okAt m walk)
theorem walkB_yes {m : Mz} {walk : List Int} (h0 : 0 < walk.length) (h : ∀ k, k < walk.length → okAt m walk k = true) : walkB m walk = true := by
  unfold walkB; rw [decide_eq_true h0, all_range_take.2 h]; rfl
theorem walkB_no {m : Mz} {walk : List Int} {k : Nat} (hk : k < walk.length) (h : okAt m walk k = false) : walkB m walk = false := by
  unfold walkB; rw [all_range_no hk h, Bool.and_false]
theorem walkB_empty {m : Mz} {walk : List Int} (h : walk.length = 0) : walkB m walk = false := by
  unfold walkB; rw [decide_eq_false (by omega)]; rfl
def takenV (m : Mz) (walk : List Int) : List Int := if walkB m walk then takenTo m walk walk.length else []
theorem takenV_yes {m : Mz} {walk : List Int} (h : walkB m walk = true) : takenV m walk = takenTo m walk walk.length := by unfold takenV; rw [if_pos h]
theorem takenV_no {m : Mz} {walk : List Int} (h : walkB m walk = false) : takenV m walk = [] := by unfold takenV; rw [h]; rfl
theorem takenV_len (m : Mz) (walk : List Int) : (takenV m walk).length ≤ walk.length := by
  unfold takenV
  split
  · rw [takenTo_len]; exact Nat.le_refl _
  · simp
-- the functions' answers, the maze held valid or not
def takenOnB (m : Mz) (walk : List Int) : Bool := mazeB m && walkB m walk
def takenOnV (m : Mz) (walk : List Int) : List Int := if mazeB m then takenV m walk else []
theorem takenOnV_len (m : Mz) {walk : List Int} (h : walk.length ≤ 1048576) : (takenOnV m walk).length ≤ 1048576 := by
  unfold takenOnV
  split
  · exact Nat.le_trans (takenV_len m walk) h
  · simp
end M
end Go.Proofs.Ytcoaggnilgfjfaa
