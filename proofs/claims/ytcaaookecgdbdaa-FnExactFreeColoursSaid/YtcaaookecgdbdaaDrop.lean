/-
  CONTRACTS of DropDoor on both sides: the maze without one of its doors, in memory of its own, or the empty one and false; what lay in memory stays. No condition but that the maze reads so.
-/
import Derived.Test.YtcaaookecgdbdaaDel
import Derived.Test.YtcaaookecgdbdaaStep
import Derived.Test.YtcaaookecgdbdaaOwnMaz3
import Derived.Test.YtcaaookecgdbdaaDoorsAt
import Derived.Test.YtcaaookecgdbdaaMzEnd
namespace Go.Proofs.Ytcaaookecgdbdaa
open Go.RowKit
namespace M
def placeB (m : Mz) (k : Int) : Bool := decide (0 ≤ k ∧ k < m.doors.length)
def dropB (m : Mz) (k : Int) : Bool := mazeB m && placeB m k
def without (m : Mz) (k : Nat) : Mz := ⟨m.size, m.doors.take k ++ m.doors.drop (k + 1), m.keys⟩
def dropV (m : Mz) (k : Int) : Mz := if dropB m k then without m k.toNat else C.mz0
theorem dropV_yes {m : Mz} {k : Int} (h : dropB m k = true) : dropV m k = without m k.toNat := by unfold dropV; rw [if_pos h]
theorem dropV_no {m : Mz} {k : Int} (h : dropB m k = false) : dropV m k = C.mz0 := by unfold dropV; rw [h]; rfl
theorem without_len {m : Mz} {k : Nat} (hk : k < m.doors.length) : (without m k).doors.length = m.doors.length - 1 := by
  show (m.doors.take k ++ m.doors.drop (k + 1)).length = _
  rw [List.length_append, List.length_take, List.length_drop]; omega
theorem dropV_len (m : Mz) (k : Int) : (dropV m k).doors.length ≤ 1048576 ∧ (dropV m k).keys.length ≤ 1048576 := by
  unfold dropV
  split
  · rename_i h
    unfold dropB placeB at h
    rw [Bool.and_eq_true, decide_eq_true_iff] at h
    have V := valid_of h.1
    have h1 := V.few
    have h2 := V.keysLen
    have h3 := V.size12
    have h4 := without_len (m := m) (k := k.toNat) (by omega)
    have h5 : (without m k.toNat).keys.length = m.keys.length := rfl
    omega
  · simp [C.mz0]
end M
namespace C
set_option maxHeartbeats 16000000
set_option maxRecDepth 20000
end C
end Go.Proofs.Ytcaaookecgdbdaa
