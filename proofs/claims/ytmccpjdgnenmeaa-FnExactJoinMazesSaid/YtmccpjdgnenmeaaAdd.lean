/-
  CONTRACTS of impl.doorBetween, impl.AddDoor: the maze with one more door, in memory of its own, or the empty one and false; what lay in memory stays. No condition but that the maze reads so.
-/
import Derived.Test.YtmccpjdgnenmeaaStep
import Derived.Test.YtmccpjdgnenmeaaAddMath
import Derived.Test.YtmccpjdgnenmeaaCloneR
import Derived.Test.YtmccpjdgnenmeaaOwnMaz3
import Derived.Test.YtmccpjdgnenmeaaPutN
import Derived.Test.YtmccpjdgnenmeaaDoorsAt
import Derived.Deep.RegionHeld3
import Derived.Deep.RegionLaw
import Derived.OwnWalk
namespace Go.Proofs.Ytmccpjdgnenmeaa
open Go.RowKit
namespace C
set_option maxHeartbeats 3200000
set_option maxRecDepth 20000
theorem doorBetween_any (x y n : Int) (w : World) : Calls Try.prog 73 #[.int .i64 x, .int .i64 y, .int .i64 n] w fun e w' => e = .returned (.agg #[.int .i64 (M.doorOf x y n).1, .int .i64 (M.doorOf x y n).2.1, .int .i64 (M.doorOf x y n).2.2]) ∧ Below w.heap.size w w' := by
  unfold M.doorOf
  rcases Int.lt_trichotomy x y with h | rfl | h
  · have e1 : min x y = x := by omega
    have e2 : max x y = y := by omega
    rw [e1, e2]
    go_enter Try.func73, Try.ntmps73
    go_wp2_with fail
    refine bodyPost_ret (v := .agg #[.int .i64 x, .int .i64 y, .int .i64 n]) (by simp [results, Try.results73, go_sem]) rfl ?_
    exact ⟨rfl, by first | exact below_alloc _ _ | exact (below_alloc _ _).alloc (by simp) _⟩
  · have e1 : min x x = x := by omega
    have e2 : max x x = x := by omega
    rw [e1, e2]
    go_enter Try.func73, Try.ntmps73
    go_wp2_with fail
    refine bodyPost_ret (v := .agg #[.int .i64 x, .int .i64 x, .int .i64 n]) (by simp [results, Try.results73, go_sem]) rfl ?_
    exact ⟨rfl, by first | exact below_alloc _ _ | exact (below_alloc _ _).alloc (by simp) _⟩
  · have e1 : min x y = y := by omega
    have e2 : max x y = x := by omega
    rw [e1, e2]
    go_enter Try.func73, Try.ntmps73
    go_wp2_with fail
    refine bodyPost_ret (v := .agg #[.int .i64 y, .int .i64 x, .int .i64 n]) (by simp [results, Try.results73, go_sem]) rfl ?_
    exact ⟨rfl, by first | exact below_alloc _ _ | exact (below_alloc _ _).alloc (by simp) _⟩
theorem mzOk_end {w w3 : World} {lo hi : Nat} {m : M.Mz} {ok : Bool} {a b : Option Addr} {c d : Nat} {u0 u1 u2 : Value} (hB : Below w.heap.size w w3) (ho : MzOwn lo hi w3 m a c b d) (h1 : w.heap.size + 1 < lo) (h2 : hi ≤ w3.heap.size) :
    MzOkPost w m ok (.returned (.tuple #[.agg #[.int .i64 m.size, .slice a m.doors.length c, .slice b m.keys.length d], .bool ok])) (((w3.setCell ⟨w.heap.size + 1, 0, none⟩ u0).setCell ⟨w.heap.size + 1, 1, none⟩ u1).setCell ⟨w.heap.size + 1, 2, none⟩ u2) := by
  have hT : Turned (w.heap.size + 1) (w.heap.size + 1 + 1) w3 (((w3.setCell ⟨w.heap.size + 1, 0, none⟩ u0).setCell ⟨w.heap.size + 1, 1, none⟩ u1).setCell ⟨w.heap.size + 1, 2, none⟩ u2) :=
    ((Turned.setCell _ _ _ _ (by omega) (by omega)).trans (Turned.setCell _ _ _ _ (by omega) (by omega))).trans (Turned.setCell _ _ _ _ (by omega) (by omega))
  have hs := hT.size
  have hz := hB.size
  exact ⟨_, _, _, _, rfl, (ho.turned hT h2 (.inr (by omega))).mono (by omega) (by omega), Below.thenTurned hB hT (by omega) (by omega)⟩
end C
end Go.Proofs.Ytmccpjdgnenmeaa
