/-
  CONTRACTS of impl's small functions over mazes: which numbers are nodes, how two doors compare; slices.Compare at two doors; slices.ContainsFunc at a predicate that only reads. No condition but that memory reads so.
-/
import Derived.Test.YthgmkkkfhbjhoaaOpen
import Derived.Test.YthgmkkkfhbjhoaaSets
import Derived.Deep.RegionWith
import Derived.BigQuiet
import Derived.Deep.QuietTactic
import Derived.Sort.Row
namespace Go.Proofs.Ythgmkkkfhbjhoaa
open Go.RowKit
namespace M
def cmpI (x y : Int) : Int := if x < y then -1 else if y < x then 1 else 0
def cmpD (d e : Dr) : Int := if ltD d e then -1 else if ltD e d then 1 else 0
end M
namespace C
set_option maxHeartbeats 800000
set_option maxRecDepth 20000
theorem cmp_lt (x y : Int) (w : World) (h : x < y) : Calls Try.prog 108 #[.int .i64 x, .int .i64 y] w fun e w' => e = .returned (.int .i64 (-1)) ∧ w = w' := by
  have hn : ∀ x W, Calls Try.prog 109 #[.int .i64 x] W fun e w' => e = .returned (.bool false) ∧ W = w' := by
    intro x W
    go_enter Try.func109, Try.ntmps109
    go_wp2_with fail
    go_ret
    exact ⟨rfl, rfl⟩
  have HN := Lib.hid hn
  clear hn
  go_enter Try.func108, Try.ntmps108
  go_wp2_with (go_at_call 109; refine (HN.out _ _).mono ?_; rintro e w' ⟨rfl, rfl⟩)
  go_ret
  exact ⟨rfl, rfl⟩
theorem cmp_gt (x y : Int) (w : World) (h : y < x) : Calls Try.prog 108 #[.int .i64 x, .int .i64 y] w fun e w' => e = .returned (.int .i64 1) ∧ w = w' := by
  have hn : ∀ x W, Calls Try.prog 109 #[.int .i64 x] W fun e w' => e = .returned (.bool false) ∧ W = w' := by
    intro x W
    go_enter Try.func109, Try.ntmps109
    go_wp2_with fail
    go_ret
    exact ⟨rfl, rfl⟩
  have HN := Lib.hid hn
  clear hn
  have h' : ¬ x < y := by omega
  go_enter Try.func108, Try.ntmps108
  go_wp2_with (go_at_call 109; refine (HN.out _ _).mono ?_; rintro e w' ⟨rfl, rfl⟩)
  go_ret
  exact ⟨rfl, rfl⟩
theorem cmp_eq (x : Int) (w : World) : Calls Try.prog 108 #[.int .i64 x, .int .i64 x] w fun e w' => e = .returned (.int .i64 0) ∧ w = w' := by
  have hn : ∀ x W, Calls Try.prog 109 #[.int .i64 x] W fun e w' => e = .returned (.bool false) ∧ W = w' := by
    intro x W
    go_enter Try.func109, Try.ntmps109
    go_wp2_with fail
    go_ret
    exact ⟨rfl, rfl⟩
  have HN := Lib.hid hn
  clear hn
  have h' : ¬ x < x := by omega
  go_enter Try.func108, Try.ntmps108
  go_wp2_with (go_at_call 109; refine (HN.out _ _).mono ?_; rintro e w' ⟨rfl, rfl⟩)
  go_ret
  exact ⟨rfl, rfl⟩

theorem compare_any (g1 g2 : Nat) (c1 c2 : Nat) (x1 y1 z1 x2 y2 z2 : Int) (w : World)
    (a0 : w.cell? ⟨g1, 0, none⟩ = some (.int .i64 x1)) (a1 : w.cell? ⟨g1, 1, none⟩ = some (.int .i64 y1)) (a2 : w.cell? ⟨g1, 2, none⟩ = some (.int .i64 z1))
    (b0 : w.cell? ⟨g2, 0, none⟩ = some (.int .i64 x2)) (b1 : w.cell? ⟨g2, 1, none⟩ = some (.int .i64 y2)) (b2 : w.cell? ⟨g2, 2, none⟩ = some (.int .i64 z2)) :
    Calls Try.prog 107 #[.slice (some ⟨g1, 0, none⟩) 3 c1, .slice (some ⟨g2, 0, none⟩) 3 c2] w fun e w' => e = .returned (.int .i64 (M.cmpD (x1, y1, z1) (x2, y2, z2))) ∧ w = w' := by
  rcases Int.lt_trichotomy x1 x2 with h | rfl | h
  · have hc : Hid (M.cmpD (x1, y1, z1) (x2, y2, z2) = -1) := Lib.hid (by unfold M.cmpD M.ltD; simp [h])
    rw [hc.out]
    go_enter Try.func107, Try.ntmps107
    go_wp2_with fail
    refine wp_loop_rounds 4 ?_
    rw [rounds_succ]
    go_wp2_with (go_at_call 108; refine (cmp_lt _ _ _ h).mono ?_; rintro e w' ⟨rfl, rfl⟩)
    go_ret
    exact ⟨rfl, rfl⟩
  · rcases Int.lt_trichotomy y1 y2 with h | rfl | h
    · have hc : Hid (M.cmpD (x1, y1, z1) (x1, y2, z2) = -1) := Lib.hid (by unfold M.cmpD M.ltD; simp [h])
      rw [hc.out]
      go_enter Try.func107, Try.ntmps107
      go_wp2_with fail
      refine wp_loop_rounds 4 ?_
      rw [rounds_succ]
      go_wp2_with (go_at_call 108; refine (cmp_eq _ _).mono ?_; rintro e w' ⟨rfl, rfl⟩)
      rw [rounds_succ]
      go_wp2_with (go_at_call 108; refine (cmp_lt _ _ _ h).mono ?_; rintro e w' ⟨rfl, rfl⟩)
      go_ret
      exact ⟨rfl, rfl⟩
    · rcases Int.lt_trichotomy z1 z2 with h | rfl | h
      · have hc : Hid (M.cmpD (x1, y1, z1) (x1, y1, z2) = -1) := Lib.hid (by unfold M.cmpD M.ltD; simp [h])
        rw [hc.out]
        go_enter Try.func107, Try.ntmps107
        go_wp2_with fail
        refine wp_loop_rounds 4 ?_
        rw [rounds_succ]
        go_wp2_with (go_at_call 108; refine (cmp_eq _ _).mono ?_; rintro e w' ⟨rfl, rfl⟩)
        rw [rounds_succ]
        go_wp2_with (go_at_call 108; refine (cmp_eq _ _).mono ?_; rintro e w' ⟨rfl, rfl⟩)
        rw [rounds_succ]
        go_wp2_with (go_at_call 108; refine (cmp_lt _ _ _ h).mono ?_; rintro e w' ⟨rfl, rfl⟩)
        go_ret
        exact ⟨rfl, rfl⟩
      · have hc : Hid (M.cmpD (x1, y1, z1) (x1, y1, z1) = 0) := Lib.hid (by unfold M.cmpD M.ltD; simp)
        rw [hc.out]
        go_enter Try.func107, Try.ntmps107
        go_wp2_with fail
        refine wp_loop_rounds 4 ?_
        rw [rounds_succ]
        go_wp2_with (go_at_call 108; refine (cmp_eq _ _).mono ?_; rintro e w' ⟨rfl, rfl⟩)
        rw [rounds_succ]
        go_wp2_with (go_at_call 108; refine (cmp_eq _ _).mono ?_; rintro e w' ⟨rfl, rfl⟩)
        rw [rounds_succ]
        go_wp2_with (go_at_call 108; refine (cmp_eq _ _).mono ?_; rintro e w' ⟨rfl, rfl⟩)
        rw [rounds_succ]
        go_wp2_with fail
        go_ret
        exact ⟨rfl, rfl⟩
      · have hc : Hid (M.cmpD (x1, y1, z1) (x1, y1, z2) = 1) := Lib.hid (by unfold M.cmpD M.ltD; simp [h]; omega)
        rw [hc.out]
        go_enter Try.func107, Try.ntmps107
        go_wp2_with fail
        refine wp_loop_rounds 4 ?_
        rw [rounds_succ]
        go_wp2_with (go_at_call 108; refine (cmp_eq _ _).mono ?_; rintro e w' ⟨rfl, rfl⟩)
        rw [rounds_succ]
        go_wp2_with (go_at_call 108; refine (cmp_eq _ _).mono ?_; rintro e w' ⟨rfl, rfl⟩)
        rw [rounds_succ]
        go_wp2_with (go_at_call 108; refine (cmp_gt _ _ _ h).mono ?_; rintro e w' ⟨rfl, rfl⟩)
        go_ret
        exact ⟨rfl, rfl⟩
    · have hc : Hid (M.cmpD (x1, y1, z1) (x1, y2, z2) = 1) := Lib.hid (by unfold M.cmpD M.ltD; simp [h]; omega)
      rw [hc.out]
      go_enter Try.func107, Try.ntmps107
      go_wp2_with fail
      refine wp_loop_rounds 4 ?_
      rw [rounds_succ]
      go_wp2_with (go_at_call 108; refine (cmp_eq _ _).mono ?_; rintro e w' ⟨rfl, rfl⟩)
      rw [rounds_succ]
      go_wp2_with (go_at_call 108; refine (cmp_gt _ _ _ h).mono ?_; rintro e w' ⟨rfl, rfl⟩)
      go_ret
      exact ⟨rfl, rfl⟩
  · have hc : Hid (M.cmpD (x1, y1, z1) (x2, y2, z2) = 1) := Lib.hid (by unfold M.cmpD M.ltD; simp [h]; omega)
    rw [hc.out]
    go_enter Try.func107, Try.ntmps107
    go_wp2_with fail
    refine wp_loop_rounds 4 ?_
    rw [rounds_succ]
    go_wp2_with (go_at_call 108; refine (cmp_gt _ _ _ h).mono ?_; rintro e w' ⟨rfl, rfl⟩)
    go_ret
    exact ⟨rfl, rfl⟩
end C
end Go.Proofs.Ythgmkkkfhbjhoaa
