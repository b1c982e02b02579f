/-
  CONTRACT of spec.l8Before: it tells whether a gate comes before another one; blocks of its own are all that it lays. No condition.
-/
import Derived.Test.YtdgfceiobpnchaaWkB
namespace Go.Proofs.Ytdgfceiobpnchaa
open Go.RowKit
namespace C
set_option maxHeartbeats 1600000
set_option maxRecDepth 20000
theorem befG_any (d e : M.Gt) (w : World) :
    Calls Try.prog 106 #[.agg #[.int .i64 d.1, .int .i64 d.2.1, .int .i64 d.2.2.1, .int .i64 d.2.2.2], .agg #[.int .i64 e.1, .int .i64 e.2.1, .int .i64 e.2.2.1, .int .i64 e.2.2.2]] w fun en w' => en = .returned (.bool (M.ltG d e)) ∧ ∃ q os, w' = Sort.grow (w.drewN q) os := by
  obtain ⟨x1, y1, z1, v1⟩ := d
  obtain ⟨x2, y2, z2, v2⟩ := e
  rcases Int.lt_trichotomy x1 x2 with h | rfl | h
  · have hc : Hid (M.ltG (x1, y1, z1, v1) (x2, y2, z2, v2) = true) := Lib.hid (by unfold M.ltG; simp [h])
    have hn1 : ((x1 : Int) == x2) = false := by simp; omega
    have hn2 : ((x1 : Int) != x2) = true := by simp; omega
    go_enter Try.func106, Try.ntmps106
    go_wp2_with fail
    refine wp_loop_rounds 5 ?_
    rw [rounds_succ]
    go_wp2_with fail
    go_quiet (fail)
    go_wp2_with fail
    go_quiet (fail)
    go_wp2_with fail
    go_ret
    exact ⟨by rw [hc.out]; first | rfl | exact congrArg (fun b => Ending.returned (.bool b)) (decide_eq_false (by omega)), _, _, by rw [Sort.alloc_eq_grow, Sort.alloc_eq_grow, Sort.grow_grow]; (try simp only [World.drewN_drewN]); rfl⟩
  · rcases Int.lt_trichotomy y1 y2 with h | rfl | h
    · have hc : Hid (M.ltG (x1, y1, z1, v1) (x1, y2, z2, v2) = true) := Lib.hid (by unfold M.ltG; simp [h])
      have hn1 : ((y1 : Int) == y2) = false := by simp; omega
      have hn2 : ((y1 : Int) != y2) = true := by simp; omega
      go_enter Try.func106, Try.ntmps106
      go_wp2_with fail
      refine wp_loop_rounds 5 ?_
      rw [rounds_succ]
      go_wp2_with fail
      go_quiet (fail)
      go_wp2_with fail
      rw [rounds_succ]
      go_wp2_with fail
      go_quiet (fail)
      go_wp2_with fail
      go_quiet (fail)
      go_wp2_with fail
      go_ret
      exact ⟨by rw [hc.out]; first | rfl | exact congrArg (fun b => Ending.returned (.bool b)) (decide_eq_false (by omega)), _, _, by rw [Sort.alloc_eq_grow, Sort.alloc_eq_grow, Sort.grow_grow]; (try simp only [World.drewN_drewN]); rfl⟩
    · rcases Int.lt_trichotomy z1 z2 with h | rfl | h
      · have hc : Hid (M.ltG (x1, y1, z1, v1) (x1, y1, z2, v2) = true) := Lib.hid (by unfold M.ltG; simp [h])
        have hn1 : ((z1 : Int) == z2) = false := by simp; omega
        have hn2 : ((z1 : Int) != z2) = true := by simp; omega
        go_enter Try.func106, Try.ntmps106
        go_wp2_with fail
        refine wp_loop_rounds 5 ?_
        rw [rounds_succ]
        go_wp2_with fail
        go_quiet (fail)
        go_wp2_with fail
        rw [rounds_succ]
        go_wp2_with fail
        go_quiet (fail)
        go_wp2_with fail
        rw [rounds_succ]
        go_wp2_with fail
        go_quiet (fail)
        go_wp2_with fail
        go_quiet (fail)
        go_wp2_with fail
        go_ret
        exact ⟨by rw [hc.out]; first | rfl | exact congrArg (fun b => Ending.returned (.bool b)) (decide_eq_false (by omega)), _, _, by rw [Sort.alloc_eq_grow, Sort.alloc_eq_grow, Sort.grow_grow]; (try simp only [World.drewN_drewN]); rfl⟩
      · rcases Int.lt_trichotomy v1 v2 with h | rfl | h
        · have hc : Hid (M.ltG (x1, y1, z1, v1) (x1, y1, z1, v2) = true) := Lib.hid (by unfold M.ltG; simp [h])
          have hn1 : ((v1 : Int) == v2) = false := by simp; omega
          have hn2 : ((v1 : Int) != v2) = true := by simp; omega
          go_enter Try.func106, Try.ntmps106
          go_wp2_with fail
          refine wp_loop_rounds 5 ?_
          rw [rounds_succ]
          go_wp2_with fail
          go_quiet (fail)
          go_wp2_with fail
          rw [rounds_succ]
          go_wp2_with fail
          go_quiet (fail)
          go_wp2_with fail
          rw [rounds_succ]
          go_wp2_with fail
          go_quiet (fail)
          go_wp2_with fail
          rw [rounds_succ]
          go_wp2_with fail
          go_quiet (fail)
          go_wp2_with fail
          go_quiet (fail)
          go_wp2_with fail
          go_ret
          exact ⟨by rw [hc.out]; first | rfl | exact congrArg (fun b => Ending.returned (.bool b)) (decide_eq_false (by omega)), _, _, by rw [Sort.alloc_eq_grow, Sort.alloc_eq_grow, Sort.grow_grow]; (try simp only [World.drewN_drewN]); rfl⟩
        · have hc : Hid (M.ltG (x1, y1, z1, v1) (x1, y1, z1, v1) = false) := Lib.hid (M.ltG_irrefl _)
          go_enter Try.func106, Try.ntmps106
          go_wp2_with fail
          refine wp_loop_rounds 5 ?_
          rw [rounds_succ]
          go_wp2_with fail
          go_quiet (fail)
          go_wp2_with fail
          rw [rounds_succ]
          go_wp2_with fail
          go_quiet (fail)
          go_wp2_with fail
          rw [rounds_succ]
          go_wp2_with fail
          go_quiet (fail)
          go_wp2_with fail
          rw [rounds_succ]
          go_wp2_with fail
          go_quiet (fail)
          go_wp2_with fail
          rw [rounds_succ]
          go_wp2_with fail
          go_ret
          exact ⟨by rw [hc.out]; first | rfl | exact congrArg (fun b => Ending.returned (.bool b)) (decide_eq_false (by omega)), _, _, by rw [Sort.alloc_eq_grow, Sort.alloc_eq_grow, Sort.grow_grow]; (try simp only [World.drewN_drewN]); rfl⟩
        · have hc : Hid (M.ltG (x1, y1, z1, v1) (x1, y1, z1, v2) = false) := Lib.hid (by unfold M.ltG; simp; omega)
          have hn1 : ((v1 : Int) == v2) = false := by simp; omega
          have hn2 : ((v1 : Int) != v2) = true := by simp; omega
          have hn3 : ¬ (v1 : Int) < v2 := by omega
          go_enter Try.func106, Try.ntmps106
          go_wp2_with fail
          refine wp_loop_rounds 5 ?_
          rw [rounds_succ]
          go_wp2_with fail
          go_quiet (fail)
          go_wp2_with fail
          rw [rounds_succ]
          go_wp2_with fail
          go_quiet (fail)
          go_wp2_with fail
          rw [rounds_succ]
          go_wp2_with fail
          go_quiet (fail)
          go_wp2_with fail
          rw [rounds_succ]
          go_wp2_with fail
          go_quiet (fail)
          go_wp2_with fail
          go_quiet (fail)
          go_wp2_with fail
          go_ret
          exact ⟨by rw [hc.out]; first | rfl | exact congrArg (fun b => Ending.returned (.bool b)) (decide_eq_false (by omega)), _, _, by rw [Sort.alloc_eq_grow, Sort.alloc_eq_grow, Sort.grow_grow]; (try simp only [World.drewN_drewN]); rfl⟩
      · have hc : Hid (M.ltG (x1, y1, z1, v1) (x1, y1, z2, v2) = false) := Lib.hid (by unfold M.ltG; simp; omega)
        have hn1 : ((z1 : Int) == z2) = false := by simp; omega
        have hn2 : ((z1 : Int) != z2) = true := by simp; omega
        have hn3 : ¬ (z1 : Int) < z2 := by omega
        go_enter Try.func106, Try.ntmps106
        go_wp2_with fail
        refine wp_loop_rounds 5 ?_
        rw [rounds_succ]
        go_wp2_with fail
        go_quiet (fail)
        go_wp2_with fail
        rw [rounds_succ]
        go_wp2_with fail
        go_quiet (fail)
        go_wp2_with fail
        rw [rounds_succ]
        go_wp2_with fail
        go_quiet (fail)
        go_wp2_with fail
        go_quiet (fail)
        go_wp2_with fail
        go_ret
        exact ⟨by rw [hc.out]; first | rfl | exact congrArg (fun b => Ending.returned (.bool b)) (decide_eq_false (by omega)), _, _, by rw [Sort.alloc_eq_grow, Sort.alloc_eq_grow, Sort.grow_grow]; (try simp only [World.drewN_drewN]); rfl⟩
    · have hc : Hid (M.ltG (x1, y1, z1, v1) (x1, y2, z2, v2) = false) := Lib.hid (by unfold M.ltG; simp; omega)
      have hn1 : ((y1 : Int) == y2) = false := by simp; omega
      have hn2 : ((y1 : Int) != y2) = true := by simp; omega
      have hn3 : ¬ (y1 : Int) < y2 := by omega
      go_enter Try.func106, Try.ntmps106
      go_wp2_with fail
      refine wp_loop_rounds 5 ?_
      rw [rounds_succ]
      go_wp2_with fail
      go_quiet (fail)
      go_wp2_with fail
      rw [rounds_succ]
      go_wp2_with fail
      go_quiet (fail)
      go_wp2_with fail
      go_quiet (fail)
      go_wp2_with fail
      go_ret
      exact ⟨by rw [hc.out]; first | rfl | exact congrArg (fun b => Ending.returned (.bool b)) (decide_eq_false (by omega)), _, _, by rw [Sort.alloc_eq_grow, Sort.alloc_eq_grow, Sort.grow_grow]; (try simp only [World.drewN_drewN]); rfl⟩
  · have hc : Hid (M.ltG (x1, y1, z1, v1) (x2, y2, z2, v2) = false) := Lib.hid (by unfold M.ltG; simp; omega)
    have hn1 : ((x1 : Int) == x2) = false := by simp; omega
    have hn2 : ((x1 : Int) != x2) = true := by simp; omega
    have hn3 : ¬ (x1 : Int) < x2 := by omega
    go_enter Try.func106, Try.ntmps106
    go_wp2_with fail
    refine wp_loop_rounds 5 ?_
    rw [rounds_succ]
    go_wp2_with fail
    go_quiet (fail)
    go_wp2_with fail
    go_quiet (fail)
    go_wp2_with fail
    go_ret
    exact ⟨by rw [hc.out]; first | rfl | exact congrArg (fun b => Ending.returned (.bool b)) (decide_eq_false (by omega)), _, _, by rw [Sort.alloc_eq_grow, Sort.alloc_eq_grow, Sort.grow_grow]; (try simp only [World.drewN_drewN]); rfl⟩
end C
end Go.Proofs.Ytdgfceiobpnchaa
