/-
  CONTRACTS of cmp.Compare, slices.Compare at four numbers, impl.compareGates; blocks of their own are all that they lay. No condition but that memory reads so.
-/
import Derived.Test.YtdgfceiobpnchaaWkB
namespace Go.Proofs.Ytdgfceiobpnchaa
open Go.RowKit
namespace C
set_option maxHeartbeats 1600000
set_option maxRecDepth 20000
theorem cmp_lt (x y : Int) (w : World) (h : x < y) : Calls Try.prog 153 #[.int .i64 x, .int .i64 y] w fun e w' => e = .returned (.int .i64 (-1)) ∧ w = w' := by
  have hn : ∀ x W, Calls Try.prog 159 #[.int .i64 x] W fun e w' => e = .returned (.bool false) ∧ W = w' := by
    intro x W
    go_enter Try.func159, Try.ntmps159
    go_wp2_with fail
    go_ret
    exact ⟨rfl, rfl⟩
  have HN := Lib.hid hn
  clear hn
  go_enter Try.func153, Try.ntmps153
  go_wp2_with (go_at_call 159; refine (HN.out _ _).mono ?_; rintro e w' ⟨rfl, rfl⟩)
  go_ret
  exact ⟨rfl, rfl⟩
theorem cmp_gt (x y : Int) (w : World) (h : y < x) : Calls Try.prog 153 #[.int .i64 x, .int .i64 y] w fun e w' => e = .returned (.int .i64 1) ∧ w = w' := by
  have hn : ∀ x W, Calls Try.prog 159 #[.int .i64 x] W fun e w' => e = .returned (.bool false) ∧ W = w' := by
    intro x W
    go_enter Try.func159, Try.ntmps159
    go_wp2_with fail
    go_ret
    exact ⟨rfl, rfl⟩
  have HN := Lib.hid hn
  clear hn
  have h' : ¬ x < y := by omega
  go_enter Try.func153, Try.ntmps153
  go_wp2_with (go_at_call 159; refine (HN.out _ _).mono ?_; rintro e w' ⟨rfl, rfl⟩)
  go_ret
  exact ⟨rfl, rfl⟩
theorem cmp_eq (x : Int) (w : World) : Calls Try.prog 153 #[.int .i64 x, .int .i64 x] w fun e w' => e = .returned (.int .i64 0) ∧ w = w' := by
  have hn : ∀ x W, Calls Try.prog 159 #[.int .i64 x] W fun e w' => e = .returned (.bool false) ∧ W = w' := by
    intro x W
    go_enter Try.func159, Try.ntmps159
    go_wp2_with fail
    go_ret
    exact ⟨rfl, rfl⟩
  have HN := Lib.hid hn
  clear hn
  have h' : ¬ x < x := by omega
  go_enter Try.func153, Try.ntmps153
  go_wp2_with (go_at_call 159; refine (HN.out _ _).mono ?_; rintro e w' ⟨rfl, rfl⟩)
  go_ret
  exact ⟨rfl, rfl⟩

theorem compare4_any (g1 g2 : Nat) (c1 c2 : Nat) (x1 y1 z1 v1 x2 y2 z2 v2 : Int) (w : World)
    (a0 : w.cell? ⟨g1, 0, none⟩ = some (.int .i64 x1)) (a1 : w.cell? ⟨g1, 1, none⟩ = some (.int .i64 y1)) (a2 : w.cell? ⟨g1, 2, none⟩ = some (.int .i64 z1)) (a3 : w.cell? ⟨g1, 3, none⟩ = some (.int .i64 v1))
    (b0 : w.cell? ⟨g2, 0, none⟩ = some (.int .i64 x2)) (b1 : w.cell? ⟨g2, 1, none⟩ = some (.int .i64 y2)) (b2 : w.cell? ⟨g2, 2, none⟩ = some (.int .i64 z2)) (b3 : w.cell? ⟨g2, 3, none⟩ = some (.int .i64 v2)) :
    Calls Try.prog 127 #[.slice (some ⟨g1, 0, none⟩) 4 c1, .slice (some ⟨g2, 0, none⟩) 4 c2] w fun e w' => e = .returned (.int .i64 (M.cmpG (x1, y1, z1, v1) (x2, y2, z2, v2))) ∧ w = w' := by
  rcases Int.lt_trichotomy x1 x2 with h | rfl | h
  · have hc : Hid (M.cmpG (x1, y1, z1, v1) (x2, y2, z2, v2) = -1) := Lib.hid (by unfold M.cmpG M.ltG; simp [h])
    rw [hc.out]
    go_enter Try.func127, Try.ntmps127
    go_wp2_with fail
    refine wp_loop_rounds 5 ?_
    rw [rounds_succ]
    go_wp2_with (go_at_call 153; refine (cmp_lt _ _ _ h).mono ?_; rintro e w' ⟨rfl, rfl⟩)
    go_ret
    exact ⟨rfl, rfl⟩
  · rcases Int.lt_trichotomy y1 y2 with h | rfl | h
    · have hc : Hid (M.cmpG (x1, y1, z1, v1) (x1, y2, z2, v2) = -1) := Lib.hid (by unfold M.cmpG M.ltG; simp [h])
      rw [hc.out]
      go_enter Try.func127, Try.ntmps127
      go_wp2_with fail
      refine wp_loop_rounds 5 ?_
      rw [rounds_succ]
      go_wp2_with (go_at_call 153; refine (cmp_eq _ _).mono ?_; rintro e w' ⟨rfl, rfl⟩)
      rw [rounds_succ]
      go_wp2_with (go_at_call 153; refine (cmp_lt _ _ _ h).mono ?_; rintro e w' ⟨rfl, rfl⟩)
      go_ret
      exact ⟨rfl, rfl⟩
    · rcases Int.lt_trichotomy z1 z2 with h | rfl | h
      · have hc : Hid (M.cmpG (x1, y1, z1, v1) (x1, y1, z2, v2) = -1) := Lib.hid (by unfold M.cmpG M.ltG; simp [h])
        rw [hc.out]
        go_enter Try.func127, Try.ntmps127
        go_wp2_with fail
        refine wp_loop_rounds 5 ?_
        rw [rounds_succ]
        go_wp2_with (go_at_call 153; refine (cmp_eq _ _).mono ?_; rintro e w' ⟨rfl, rfl⟩)
        rw [rounds_succ]
        go_wp2_with (go_at_call 153; refine (cmp_eq _ _).mono ?_; rintro e w' ⟨rfl, rfl⟩)
        rw [rounds_succ]
        go_wp2_with (go_at_call 153; refine (cmp_lt _ _ _ h).mono ?_; rintro e w' ⟨rfl, rfl⟩)
        go_ret
        exact ⟨rfl, rfl⟩
      · rcases Int.lt_trichotomy v1 v2 with h | rfl | h
        · have hc : Hid (M.cmpG (x1, y1, z1, v1) (x1, y1, z1, v2) = -1) := Lib.hid (by unfold M.cmpG M.ltG; simp [h])
          rw [hc.out]
          go_enter Try.func127, Try.ntmps127
          go_wp2_with fail
          refine wp_loop_rounds 5 ?_
          rw [rounds_succ]
          go_wp2_with (go_at_call 153; refine (cmp_eq _ _).mono ?_; rintro e w' ⟨rfl, rfl⟩)
          rw [rounds_succ]
          go_wp2_with (go_at_call 153; refine (cmp_eq _ _).mono ?_; rintro e w' ⟨rfl, rfl⟩)
          rw [rounds_succ]
          go_wp2_with (go_at_call 153; refine (cmp_eq _ _).mono ?_; rintro e w' ⟨rfl, rfl⟩)
          rw [rounds_succ]
          go_wp2_with (go_at_call 153; refine (cmp_lt _ _ _ h).mono ?_; rintro e w' ⟨rfl, rfl⟩)
          go_ret
          exact ⟨rfl, rfl⟩
        · have hc : Hid (M.cmpG (x1, y1, z1, v1) (x1, y1, z1, v1) = 0) := Lib.hid (by unfold M.cmpG M.ltG; simp)
          rw [hc.out]
          go_enter Try.func127, Try.ntmps127
          go_wp2_with fail
          refine wp_loop_rounds 5 ?_
          rw [rounds_succ]
          go_wp2_with (go_at_call 153; refine (cmp_eq _ _).mono ?_; rintro e w' ⟨rfl, rfl⟩)
          rw [rounds_succ]
          go_wp2_with (go_at_call 153; refine (cmp_eq _ _).mono ?_; rintro e w' ⟨rfl, rfl⟩)
          rw [rounds_succ]
          go_wp2_with (go_at_call 153; refine (cmp_eq _ _).mono ?_; rintro e w' ⟨rfl, rfl⟩)
          rw [rounds_succ]
          go_wp2_with (go_at_call 153; refine (cmp_eq _ _).mono ?_; rintro e w' ⟨rfl, rfl⟩)
          rw [rounds_succ]
          go_wp2_with fail
          go_ret
          exact ⟨rfl, rfl⟩
        · have hc : Hid (M.cmpG (x1, y1, z1, v1) (x1, y1, z1, v2) = 1) := Lib.hid (by unfold M.cmpG M.ltG; simp [h]; omega)
          rw [hc.out]
          go_enter Try.func127, Try.ntmps127
          go_wp2_with fail
          refine wp_loop_rounds 5 ?_
          rw [rounds_succ]
          go_wp2_with (go_at_call 153; refine (cmp_eq _ _).mono ?_; rintro e w' ⟨rfl, rfl⟩)
          rw [rounds_succ]
          go_wp2_with (go_at_call 153; refine (cmp_eq _ _).mono ?_; rintro e w' ⟨rfl, rfl⟩)
          rw [rounds_succ]
          go_wp2_with (go_at_call 153; refine (cmp_eq _ _).mono ?_; rintro e w' ⟨rfl, rfl⟩)
          rw [rounds_succ]
          go_wp2_with (go_at_call 153; refine (cmp_gt _ _ _ h).mono ?_; rintro e w' ⟨rfl, rfl⟩)
          go_ret
          exact ⟨rfl, rfl⟩
      · have hc : Hid (M.cmpG (x1, y1, z1, v1) (x1, y1, z2, v2) = 1) := Lib.hid (by unfold M.cmpG M.ltG; simp [h]; omega)
        rw [hc.out]
        go_enter Try.func127, Try.ntmps127
        go_wp2_with fail
        refine wp_loop_rounds 5 ?_
        rw [rounds_succ]
        go_wp2_with (go_at_call 153; refine (cmp_eq _ _).mono ?_; rintro e w' ⟨rfl, rfl⟩)
        rw [rounds_succ]
        go_wp2_with (go_at_call 153; refine (cmp_eq _ _).mono ?_; rintro e w' ⟨rfl, rfl⟩)
        rw [rounds_succ]
        go_wp2_with (go_at_call 153; refine (cmp_gt _ _ _ h).mono ?_; rintro e w' ⟨rfl, rfl⟩)
        go_ret
        exact ⟨rfl, rfl⟩
    · have hc : Hid (M.cmpG (x1, y1, z1, v1) (x1, y2, z2, v2) = 1) := Lib.hid (by unfold M.cmpG M.ltG; simp [h]; omega)
      rw [hc.out]
      go_enter Try.func127, Try.ntmps127
      go_wp2_with fail
      refine wp_loop_rounds 5 ?_
      rw [rounds_succ]
      go_wp2_with (go_at_call 153; refine (cmp_eq _ _).mono ?_; rintro e w' ⟨rfl, rfl⟩)
      rw [rounds_succ]
      go_wp2_with (go_at_call 153; refine (cmp_gt _ _ _ h).mono ?_; rintro e w' ⟨rfl, rfl⟩)
      go_ret
      exact ⟨rfl, rfl⟩
  · have hc : Hid (M.cmpG (x1, y1, z1, v1) (x2, y2, z2, v2) = 1) := Lib.hid (by unfold M.cmpG M.ltG; simp [h]; omega)
    rw [hc.out]
    go_enter Try.func127, Try.ntmps127
    go_wp2_with fail
    refine wp_loop_rounds 5 ?_
    rw [rounds_succ]
    go_wp2_with (go_at_call 153; refine (cmp_gt _ _ _ h).mono ?_; rintro e w' ⟨rfl, rfl⟩)
    go_ret
    exact ⟨rfl, rfl⟩
theorem compareGates_any (d e : M.Gt) (w : World) :
    Calls Try.prog 104 #[.agg #[.int .i64 d.1, .int .i64 d.2.1, .int .i64 d.2.2.1, .int .i64 d.2.2.2], .agg #[.int .i64 e.1, .int .i64 e.2.1, .int .i64 e.2.2.1, .int .i64 e.2.2.2]] w fun en w' => en = .returned (.int .i64 (M.cmpG d e)) ∧ ∃ q os, w' = Sort.grow (w.drewN q) os := by
  obtain ⟨x1, y1, z1, v1⟩ := d
  obtain ⟨x2, y2, z2, v2⟩ := e
  go_enter Try.func104, Try.ntmps104
  go_wp2_with fail
  go_region_with (go_at_call 127; refine (compare4_any _ _ _ _ x1 y1 z1 v1 x2 y2 z2 v2 _ (by go_simp) (by go_simp) (by go_simp) (by go_simp) (by go_simp) (by go_simp) (by go_simp) (by go_simp)).mono ?_; rintro e w' ⟨rfl, rfl⟩)
  all_goals
    go_wp2_with fail
    go_ret
    exact ⟨rfl, 1, _, by rw [Sort.alloc_eq_grow, Sort.alloc_eq_grow, Sort.grow_grow]; rfl⟩
end C
end Go.Proofs.Ytdgfceiobpnchaa
