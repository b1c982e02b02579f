/-
  MATHEMATICS of counting what locks need, own to these proofs. No condition.
-/
import Derived.Test.YthgmkkkfhbjhoaaVMath
import Derived.Test.YthgmkkkfhbjhoaaLkM
namespace Go.Proofs.Ythgmkkkfhbjhoaa
open Go.RowKit
namespace M
/-- the vector while a door is counted -/
def atN (m : Mz) (k c : Nat) : Nat → Int := fun c' => if c' < c then needC m (k + 1) c' else needC m k c'
theorem atN_zero (m : Mz) (k : Nat) : vecL (atN m k 0) = vecL (needC m k) := vecL_ext fun c _ => by unfold atN; rw [if_neg (by omega)]
theorem atN_six (m : Mz) (k : Nat) : vecL (atN m k 6) = vecL (needC m (k + 1)) := vecL_ext fun c hc => by unfold atN; rw [if_pos hc]
theorem atN_at (m : Mz) (k : Nat) {c : Nat} (hc : c < 6) : (encIs (vecL (atN m k c)))[c]? = some (.int .i64 (needC m k c)) := by
  rw [vecL_at _ hc]
  unfold atN
  rw [if_neg (by omega)]
theorem atN_set (m : Mz) (k : Nat) {c : Nat} (hc : c < 6) : (encIs (vecL (atN m k c))).set c (.int .i64 (needC m k c + bt (need m k) c)) = encIs (vecL (atN m k (c + 1))) := by
  rw [vecL_set _ hc]
  congr 1
  refine vecL_ext fun c' _ => ?_
  unfold updF atN
  rcases Nat.lt_trichotomy c' c with h | h | h
  · rw [if_neg (by omega), if_pos h, if_pos (by omega)]
  · subst h; rw [if_pos rfl, if_pos (by omega)]; rfl
  · rw [if_neg (by omega), if_neg (by omega), if_neg (by omega)]
theorem need0 (m : Mz) : vecL (needC m 0) = vecL fun _ => 0 := rfl
theorem needC_bnd (m : Mz) (k c : Nat) : 0 ≤ needC m k c ∧ needC m k c ≤ k := sm_bnd fun _ _ => bt_01 _ _
theorem needsV_no {m : Mz} (h : goodB m = false) : needsV m = [] := by unfold needsV; rw [h]; rfl
theorem needsV_yes {m : Mz} (h : goodB m = true) : needsV m = vecL (needC m m.doors.length) := by unfold needsV; rw [if_pos h]; rfl
theorem needsV_len (m : Mz) : (needsV m).length ≤ 1048576 := by
  unfold needsV
  split
  · simp
  · simp
/-- the vector after some locks -/
def lkV (m : Mz) (j : Nat) : Nat → Int := fun c => smL (needG m c) ((lockL m).take j)
theorem lkV_zero (m : Mz) : vecL (lkV m 0) = vecL fun _ => 0 := rfl
theorem lkV_step {m : Mz} {j : Nat} (h : j < (lockL m).length) {n : Nat} (hn : need m (lockL m)[j].toNat = (n : Int)) : (vecL fun c => lkV m j c + 1 * bt (n : Int) c) = vecL (lkV m (j + 1)) := vecL_ext fun c _ => by
  unfold lkV
  rw [smL_take _ h]
  show _ = smL (needG m c) ((lockL m).take j) + bt (need m (lockL m)[j].toNat) c
  rw [hn]
  omega
theorem lkV_bnd (m : Mz) (j c : Nat) (h : (lockL m).length ≤ 10) : 0 ≤ lkV m j c ∧ lkV m j c ≤ 10 := by
  have := smL_bnd (g := needG m c) (fun _ => bt_01 _ _) ((lockL m).take j)
  rw [List.length_take] at this
  unfold lkV
  omega
theorem lkV_end (m : Mz) : vecL (lkV m (lockL m).length) = vecL (needC m m.doors.length) := vecL_ext fun c _ => by
  unfold lkV
  rw [List.take_of_length_le (Nat.le_refl _)]
  unfold lockL needC
  rw [smL_fl]
  refine sm_ext fun k _ => ?_
  unfold lockB needG
  cases e : (need m k != 0) with
  | true => exact onI_t _
  | false =>
    have : need m k = 0 := by simpa using e
    rw [this, onI_f]
    unfold bt digB
    simp
end M
end Go.Proofs.Ythgmkkkfhbjhoaa
