/-
  MATHEMATICS of locks, own to these proofs. No condition.
-/
import Derived.Test.YthgmkkkfhbjhoaaVMath
import Derived.Test.YthgmkkkfhbjhoaaSpecMaze
import Derived.Test.YthgmkkkfhbjhoaaOwn
import Derived.Test.YthgmkkkfhbjhoaaBoolOk
namespace Go.Proofs.Ythgmkkkfhbjhoaa
open Go.RowKit
namespace M
def lockTo (m : Mz) (k : Nat) : List Int := fl (lockB m) k
theorem lockTo_yes {m : Mz} {k : Nat} (hk : k < m.doors.length) (h : m.doors[k].2.2 ≠ 0) : lockTo m (k + 1) = lockTo m k ++ [(k : Int)] := fl_yes (by unfold lockB; rw [need_at hk]; simpa using h)
theorem lockTo_no {m : Mz} {k : Nat} (hk : k < m.doors.length) (h : m.doors[k].2.2 = 0) : lockTo m (k + 1) = lockTo m k := fl_no (by unfold lockB; rw [need_at hk, h]; rfl)
theorem lockTo_len (m : Mz) (k : Nat) : (lockTo m k).length ≤ k := fl_len _ _
theorem locksV_no {m : Mz} (h : goodB m = false) : locksV m = [] := by unfold locksV; rw [h]; rfl
theorem locksV_yes {m : Mz} (h : goodB m = true) : locksV m = lockTo m m.doors.length := by unfold locksV; rw [if_pos h]; rfl
theorem good_no {m : Mz} (h : mazeB m = false) : goodB m = false := by unfold goodB; rw [h]; rfl
theorem good_no2 {m : Mz} (h : 10 < (lockTo m m.doors.length).length) : goodB m = false := by unfold goodB; rw [decide_eq_false (show ¬ (lockL m).length ≤ 10 from Nat.not_le.2 h), Bool.and_false]
theorem good_yes {m : Mz} (h : mazeB m = true) (h2 : (lockTo m m.doors.length).length ≤ 10) : goodB m = true := by unfold goodB; rw [h, decide_eq_true (show (lockL m).length ≤ 10 from h2)]; rfl
theorem locksV_len (m : Mz) : (locksV m).length ≤ 1048576 := by
  unfold locksV
  split
  · rename_i h; have := good_few h; omega
  · simp
end M
end Go.Proofs.Ythgmkkkfhbjhoaa
