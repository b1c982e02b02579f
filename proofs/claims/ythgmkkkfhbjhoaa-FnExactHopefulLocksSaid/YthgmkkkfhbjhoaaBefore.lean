/-
  CONTRACT of spec.l2Before: it tells whether a door comes before another one; blocks of its own are all that it lays. No condition.
-/
import Derived.Test.YthgmkkkfhbjhoaaNode
import Derived.Sort.Grow
namespace Go.Proofs.Ythgmkkkfhbjhoaa
open Go.RowKit
namespace C
set_option maxHeartbeats 800000
set_option maxRecDepth 20000
theorem before_any (d e : M.Dr) (w : World) :
    Calls Try.prog 100 #[.agg #[.int .i64 d.1, .int .i64 d.2.1, .int .i64 d.2.2], .agg #[.int .i64 e.1, .int .i64 e.2.1, .int .i64 e.2.2]] w fun en w' => en = .returned (.bool (M.ltD d e)) ∧ ∃ q os, w' = Sort.grow (w.drewN q) os := by
  obtain ⟨x1, y1, z1⟩ := d
  obtain ⟨x2, y2, z2⟩ := e
  rcases Int.lt_trichotomy x1 x2 with h | rfl | h
  · have hc : Hid (M.ltD (x1, y1, z1) (x2, y2, z2) = true) := Lib.hid (by unfold M.ltD; simp [h])
    have hn1 : ((x1 : Int) == x2) = false := by simp; omega
    have hn2 : ((x1 : Int) != x2) = true := by simp; omega
    go_enter Try.func100, Try.ntmps100
    go_wp2_with fail
    refine wp_loop_rounds 4 ?_
    rw [rounds_succ]
    go_wp2_with fail
    go_quiet (fail)
    go_wp2_with fail
    go_quiet (fail)
    go_wp2_with fail
    go_ret
    exact ⟨by rw [hc.out]; first | rfl | exact congrArg (fun b => Ending.returned (.bool b)) (decide_eq_false (by omega)), _, _, by rw [Sort.alloc_eq_grow, Sort.alloc_eq_grow, Sort.grow_grow]; (try simp only [World.drewN_drewN]); rfl⟩
  · rcases Int.lt_trichotomy y1 y2 with h | rfl | h
    · have hc : Hid (M.ltD (x1, y1, z1) (x1, y2, z2) = true) := Lib.hid (by unfold M.ltD; simp [h])
      have hn1 : ((y1 : Int) == y2) = false := by simp; omega
      have hn2 : ((y1 : Int) != y2) = true := by simp; omega
      go_enter Try.func100, Try.ntmps100
      go_wp2_with fail
      refine wp_loop_rounds 4 ?_
      rw [rounds_succ]
      go_wp2_with fail
      go_quiet (fail)
      go_wp2_with fail
      rw [rounds_succ]
      go_wp2_with fail
      go_quiet (fail)
      go_wp2_with fail
      go_quiet (fail)
      go_wp2_with fail
      go_ret
      exact ⟨by rw [hc.out]; first | rfl | exact congrArg (fun b => Ending.returned (.bool b)) (decide_eq_false (by omega)), _, _, by rw [Sort.alloc_eq_grow, Sort.alloc_eq_grow, Sort.grow_grow]; (try simp only [World.drewN_drewN]); rfl⟩
    · rcases Int.lt_trichotomy z1 z2 with h | rfl | h
      · have hc : Hid (M.ltD (x1, y1, z1) (x1, y1, z2) = true) := Lib.hid (by unfold M.ltD; simp [h])
        have hn1 : ((z1 : Int) == z2) = false := by simp; omega
        have hn2 : ((z1 : Int) != z2) = true := by simp; omega
        go_enter Try.func100, Try.ntmps100
        go_wp2_with fail
        refine wp_loop_rounds 4 ?_
        rw [rounds_succ]
        go_wp2_with fail
        go_quiet (fail)
        go_wp2_with fail
        rw [rounds_succ]
        go_wp2_with fail
        go_quiet (fail)
        go_wp2_with fail
        rw [rounds_succ]
        go_wp2_with fail
        go_quiet (fail)
        go_wp2_with fail
        go_quiet (fail)
        go_wp2_with fail
        go_ret
        exact ⟨by rw [hc.out]; first | rfl | exact congrArg (fun b => Ending.returned (.bool b)) (decide_eq_false (by omega)), _, _, by rw [Sort.alloc_eq_grow, Sort.alloc_eq_grow, Sort.grow_grow]; (try simp only [World.drewN_drewN]); rfl⟩
      · have hc : Hid (M.ltD (x1, y1, z1) (x1, y1, z1) = false) := Lib.hid (M.ltD_irrefl _)
        go_enter Try.func100, Try.ntmps100
        go_wp2_with fail
        refine wp_loop_rounds 4 ?_
        rw [rounds_succ]
        go_wp2_with fail
        go_quiet (fail)
        go_wp2_with fail
        rw [rounds_succ]
        go_wp2_with fail
        go_quiet (fail)
        go_wp2_with fail
        rw [rounds_succ]
        go_wp2_with fail
        go_quiet (fail)
        go_wp2_with fail
        rw [rounds_succ]
        go_wp2_with fail
        go_ret
        exact ⟨by rw [hc.out]; first | rfl | exact congrArg (fun b => Ending.returned (.bool b)) (decide_eq_false (by omega)), _, _, by rw [Sort.alloc_eq_grow, Sort.alloc_eq_grow, Sort.grow_grow]; (try simp only [World.drewN_drewN]); rfl⟩
      · have hc : Hid (M.ltD (x1, y1, z1) (x1, y1, z2) = false) := Lib.hid (by unfold M.ltD; simp; omega)
        have hn1 : ((z1 : Int) == z2) = false := by simp; omega
        have hn2 : ((z1 : Int) != z2) = true := by simp; omega
        have hn3 : ¬ (z1 : Int) < z2 := by omega
        go_enter Try.func100, Try.ntmps100
        go_wp2_with fail
        refine wp_loop_rounds 4 ?_
        rw [rounds_succ]
        go_wp2_with fail
        go_quiet (fail)
        go_wp2_with fail
        rw [rounds_succ]
        go_wp2_with fail
        go_quiet (fail)
        go_wp2_with fail
        rw [rounds_succ]
        go_wp2_with fail
        go_quiet (fail)
        go_wp2_with fail
        go_quiet (fail)
        go_wp2_with fail
        go_ret
        exact ⟨by rw [hc.out]; first | rfl | exact congrArg (fun b => Ending.returned (.bool b)) (decide_eq_false (by omega)), _, _, by rw [Sort.alloc_eq_grow, Sort.alloc_eq_grow, Sort.grow_grow]; (try simp only [World.drewN_drewN]); rfl⟩
    · have hc : Hid (M.ltD (x1, y1, z1) (x1, y2, z2) = false) := Lib.hid (by unfold M.ltD; simp; omega)
      have hn1 : ((y1 : Int) == y2) = false := by simp; omega
      have hn2 : ((y1 : Int) != y2) = true := by simp; omega
      have hn3 : ¬ (y1 : Int) < y2 := by omega
      go_enter Try.func100, Try.ntmps100
      go_wp2_with fail
      refine wp_loop_rounds 4 ?_
      rw [rounds_succ]
      go_wp2_with fail
      go_quiet (fail)
      go_wp2_with fail
      rw [rounds_succ]
      go_wp2_with fail
      go_quiet (fail)
      go_wp2_with fail
      go_quiet (fail)
      go_wp2_with fail
      go_ret
      exact ⟨by rw [hc.out]; first | rfl | exact congrArg (fun b => Ending.returned (.bool b)) (decide_eq_false (by omega)), _, _, by rw [Sort.alloc_eq_grow, Sort.alloc_eq_grow, Sort.grow_grow]; (try simp only [World.drewN_drewN]); rfl⟩
  · have hc : Hid (M.ltD (x1, y1, z1) (x2, y2, z2) = false) := Lib.hid (by unfold M.ltD; simp; omega)
    have hn1 : ((x1 : Int) == x2) = false := by simp; omega
    have hn2 : ((x1 : Int) != x2) = true := by simp; omega
    have hn3 : ¬ (x1 : Int) < x2 := by omega
    go_enter Try.func100, Try.ntmps100
    go_wp2_with fail
    refine wp_loop_rounds 4 ?_
    rw [rounds_succ]
    go_wp2_with fail
    go_quiet (fail)
    go_wp2_with fail
    go_quiet (fail)
    go_wp2_with fail
    go_ret
    exact ⟨by rw [hc.out]; first | rfl | exact congrArg (fun b => Ending.returned (.bool b)) (decide_eq_false (by omega)), _, _, by rw [Sort.alloc_eq_grow, Sort.alloc_eq_grow, Sort.grow_grow]; (try simp only [World.drewN_drewN]); rfl⟩
end C
end Go.Proofs.Ythgmkkkfhbjhoaa
