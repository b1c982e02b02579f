/-
  CONTRACTS of spec.l6Wins and spec.l6Bars: for each set whether it wins or bars, in a new list; what lay in memory stays. Condition: a valid maze that reads so.
-/
import Derived.Test.YtkkfmleoamhgkaaWinM
import Derived.Test.YtkkfmleoamhgkaaGainMath
import Derived.Test.YtkkfmleoamhgkaaClone
import Derived.Deep.RegionHeld3
import Derived.Deep.RegionLaw
import Derived.Test.YtkkfmleoamhgkaaSpecMaze
import Derived.Test.YtkkfmleoamhgkaaMem
import Derived.Laws.StructEq
import Derived.ProofKit
import Derived.Test.YtkkfmleoamhgkaaPutMath
import Derived.Test.YtkkfmleoamhgkaaInts
import Derived.Test.YtkkfmleoamhgkaaOpenMath
import Derived.Test.YtkkfmleoamhgkaaOwn
import Derived.Test.YtkkfmleoamhgkaaOpenTo
import Derived.Maps.AppendAt
import Derived.Test.YtkkfmleoamhgkaaOpen
import Derived.Deep.RegionWith
import Derived.Deep.DeepCutAuto
import Derived.OwnWalk
import Derived.WalkKit
import Derived.Test.YtkkfmleoamhgkaaOwnQ
namespace Go.Proofs.Ytkkfmleoamhgkaa
open Go.RowKit
namespace M
def encBs (l : List Bool) : List Value := l.map Value.bool
theorem encBs_len (l : List Bool) : (encBs l).length = l.length := by simp [encBs]
theorem encBs_append (a b : List Bool) : encBs (a ++ b) = encBs a ++ encBs b := by simp [encBs]
/-- of each set below k whether it is of a kind -/
def boolsTo (P : St6 → Bool) (k : Nat) : List Bool := (selTo.allN.take k).map P
theorem boolsTo_zero (P : St6 → Bool) : boolsTo P 0 = [] := by unfold boolsTo; simp
theorem allN_len : selTo.allN.length = 64 := by unfold selTo.allN; rw [List.length_finRange]
theorem boolsTo_succ (P : St6 → Bool) {k : Nat} (h : k < 64) : boolsTo P (k + 1) = boolsTo P k ++ [P ⟨k, h⟩] := by
  unfold boolsTo
  rw [List.take_succ_eq_append_getElem (by rw [allN_len]; exact h), List.map_append, selTo_at h]
  rfl
theorem boolsTo_len (P : St6 → Bool) {k : Nat} (h : k ≤ 64) : (boolsTo P k).length = k := by unfold boolsTo; rw [List.length_map, List.length_take, allN_len]; omega
def boolsF (P : St6 → Bool) : List Bool := boolsTo P 64
theorem boolsF_len (P : St6 → Bool) : (boolsF P).length = 64 := boolsTo_len P (Nat.le_refl _)
theorem boolsF_at (P : St6 → Bool) (s : St6) : (encBs (boolsF P))[s.val]? = some (.bool (P s)) := by
  unfold boolsF boolsTo encBs
  rw [List.take_of_length_le (by rw [allN_len]; exact Nat.le_refl _), List.getElem?_map, List.getElem?_map, List.getElem?_eq_getElem (by rw [allN_len]; exact s.isLt), selTo_at s.isLt]
  rfl
end M
namespace C
theorem infoB : (Try.prog.info? 4).map (fun i => (i.zero, i.size, i.bytes)) = some (some (.bool false), 1, 1) := by kernel_rfl
/-- a list of bools handed back in memory of the call's own -/
def BlsPost (w : World) (l : List Bool) (e : Ending) (w' : World) : Prop :=
  ∃ a c, e = .returned (.slice a l.length c) ∧ OwnAt w.heap.size w'.heap.size w' 4 a (M.encBs l) ∧ l.length ≤ c ∧ c ≤ 9223372036854775807 ∧ Below w.heap.size w w'
theorem bls_end {w w' : World} {l : List Bool} {v : Value} (h : w'.ownsRow w.heap.size 4 1 v l.length (M.encBs l)) (hb : Below w.heap.size w w') : BlsPost w l (.returned v) w' := by
  obtain ⟨a, c, rfl, h1, h2, h3⟩ := own_slice h
  exact ⟨a, c, rfl, h3, h1, h2, hb⟩
set_option maxHeartbeats 3200000
set_option maxRecDepth 20000
end C
end Go.Proofs.Ytkkfmleoamhgkaa
