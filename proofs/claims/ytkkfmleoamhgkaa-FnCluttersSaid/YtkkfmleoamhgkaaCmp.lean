/-
  CONTRACTS of impl's small functions over mazes: which numbers are nodes, how two doors compare; slices.Compare at two doors; slices.ContainsFunc at a predicate that only reads. No condition but that memory reads so.
-/
import Derived.Test.YtkkfmleoamhgkaaOpen
import Derived.Test.YtkkfmleoamhgkaaSets
import Derived.Deep.RegionWith
import Derived.BigQuiet
import Derived.Deep.QuietTactic
import Derived.Sort.Row
namespace Go.Proofs.Ytkkfmleoamhgkaa
open Go.RowKit
namespace M
def cmpI (x y : Int) : Int := if x < y then -1 else if y < x then 1 else 0
def cmpD (d e : Dr) : Int := if ltD d e then -1 else if ltD e d then 1 else 0
end M
namespace C
set_option maxHeartbeats 800000
set_option maxRecDepth 20000
theorem cmp_lt (x y : Int) (w : World) (h : x < y) : Calls Try.prog 47 #[.int .i64 x, .int .i64 y] w fun e w' => e = .returned (.int .i64 (-1)) ∧ w = w' := by
  have hn : ∀ x W, Calls Try.prog 62 #[.int .i64 x] W fun e w' => e = .returned (.bool false) ∧ W = w' := by
    intro x W
    go_enter Try.func62, Try.ntmps62
    go_wp2_with fail
    go_ret
    exact ⟨rfl, rfl⟩
  have HN := Lib.hid hn
  clear hn
  go_enter Try.func47, Try.ntmps47
  go_wp2_with (go_at_call 62; refine (HN.out _ _).mono ?_; rintro e w' ⟨rfl, rfl⟩)
  go_ret
  exact ⟨rfl, rfl⟩
theorem cmp_gt (x y : Int) (w : World) (h : y < x) : Calls Try.prog 47 #[.int .i64 x, .int .i64 y] w fun e w' => e = .returned (.int .i64 1) ∧ w = w' := by
  have hn : ∀ x W, Calls Try.prog 62 #[.int .i64 x] W fun e w' => e = .returned (.bool false) ∧ W = w' := by
    intro x W
    go_enter Try.func62, Try.ntmps62
    go_wp2_with fail
    go_ret
    exact ⟨rfl, rfl⟩
  have HN := Lib.hid hn
  clear hn
  have h' : ¬ x < y := by omega
  go_enter Try.func47, Try.ntmps47
  go_wp2_with (go_at_call 62; refine (HN.out _ _).mono ?_; rintro e w' ⟨rfl, rfl⟩)
  go_ret
  exact ⟨rfl, rfl⟩
theorem cmp_eq (x : Int) (w : World) : Calls Try.prog 47 #[.int .i64 x, .int .i64 x] w fun e w' => e = .returned (.int .i64 0) ∧ w = w' := by
  have hn : ∀ x W, Calls Try.prog 62 #[.int .i64 x] W fun e w' => e = .returned (.bool false) ∧ W = w' := by
    intro x W
    go_enter Try.func62, Try.ntmps62
    go_wp2_with fail
    go_ret
    exact ⟨rfl, rfl⟩
  have HN := Lib.hid hn
  clear hn
  have h' : ¬ x < x := by omega
  go_enter Try.func47, Try.ntmps47
  go_wp2_with (go_at_call 62; refine (HN.out _ _).mono ?_; rintro e w' ⟨rfl, rfl⟩)
  go_ret
  exact ⟨rfl, rfl⟩

end C
end Go.Proofs.Ytkkfmleoamhgkaa
