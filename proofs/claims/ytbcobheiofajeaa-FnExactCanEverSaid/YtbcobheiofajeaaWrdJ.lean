/-
  CONTRACTS of impl.Maze.hasGoal, spread from node 0, allNodes; what lay in memory stays. Condition: a valid maze.
-/
import Derived.Test.YtbcobheiofajeaaWrdI
import Derived.Test.YtbcobheiofajeaaWGWinM
import Derived.Test.YtbcobheiofajeaaWEDoorsAt
namespace Go.Proofs.Ytbcobheiofajeaa
open Go.RowKit
namespace M
theorem own_get {w : Wl} (W : WlOK w) (i : Int) {k : Nat} (hk : k < w.mazes.length) {N : Nat} (hN : ∀ y : Nat, (y : Int) < (wm w k).size → digB N y = true) (h : Int) : ∀ x : Nat, (x : Int) ≤ (wm w k).size →
    ownTo w i k h x = orF h (((digsTo N x).filter fun x => decide ((wo w k).getD x.toNat 0 = i)).map fun x => (wm w k).keys.getD x.toNat 0)
  | 0, _ => rfl
  | x + 1, hx => by
    have ih := own_get W i hk hN h x (by omega)
    unfold ownTo
    rw [digsTo_yes (hN x (by omega)), List.filter_append, List.map_append, orF_append, ← ih]
    by_cases he : (wo w k).getD x 0 = i
    · rw [if_pos he, List.filter_cons, if_pos (by simp only [Int.toNat_natCast]; exact decide_eq_true he), List.filter_nil]
      simp only [List.map_cons, List.map_nil, orF_one, Int.toNat_natCast]
    · rw [if_neg he, List.filter_cons, if_neg (by simp only [Int.toNat_natCast]; rw [decide_eq_false he]; decide), List.filter_nil]
      rfl
noncomputable def allL (w : Wl) : List Int := (List.range w.mazes.length).map fun j : Nat => ((allW (wm w j) : Nat) : Int)
theorem allL_at (w : Wl) {j : Nat} (hj : j < w.mazes.length) : ((allL w).getD j 0).toNat = allW (wm w j) := by
  unfold allL
  rw [List.getD_eq_getElem?_getD, List.getElem?_map, List.getElem?_range hj]
  simp
theorem allW_lt {m : Mz} (V : Valid m) : allW m < 4096 := by
  have := size_pow V
  unfold allW
  have h2 : 0 < 2 ^ m.size.toNat := Nat.pow_pos (by decide)
  omega
theorem own_all {w : Wl} (W : WlOK w) (i : Int) : ∀ k, k ≤ w.mazes.length → ownAll w i k = orF 0 (keysL w i (allL w) k)
  | 0, _ => rfl
  | k + 1, hk => by
    have ih := own_all W i k (by omega)
    have V := valid_of (W.world k (by omega)).1
    show ownTo w i k (ownAll w i k) (wm w k).size.toNat = orF 0 (keysL w i (allL w) k ++ keysJ9 w i k ((allL w).getD k 0).toNat 12)
    rw [own_get W i (by omega) (N := allW (wm w k)) (fun y hy => by rw [digB_allW V]; exact decide_eq_true hy) _ _ (by have := V.size1; omega), ih, orF_append, allL_at w (by omega)]
    unfold keysJ9
    rw [digs_size V (fun p hp => by rw [digB_allW V, decide_eq_true_iff] at hp; exact hp) (allW_lt V)]
end M
namespace C
set_option linter.unusedVariables false
set_option maxHeartbeats 3200000
set_option maxRecDepth 20000
theorem reachMk_any (w : World) (lo hi : Nat) (m : M.Mz) (a b : Option Addr) (c d : Nat) (h : MzIn lo hi w m a c b d) (hz : hi ≤ w.heap.size) (V : M.Valid m) (s : Int) :
    Calls Try.prog 78 #[.agg #[.int .i64 m.size, .slice a m.doors.length c, .slice b m.keys.length d], .int .i64 1, .int .i64 s] w fun e w' => e = .returned (.int .i64 ((M.mk (M.reachOf m 0 s) : Nat) : Int)) ∧ Below w.heap.size w w' := by
  refine (spread_any w lo hi m a b c d h hz V 1 s (M.MaskOk m.doors (M.openTo s) 0) (M.MaskOk.start (by decide)) (fun n e he hn => by
    obtain ⟨j, hj, rfl⟩ := List.mem_iff_getElem.1 he
    obtain ⟨p1, p2, p3, p4, _⟩ := V.door j hj
    have := V.size12
    exact hn.step (List.getElem_mem hj) p1 (by omega) p3 (by omega)) (fun n hn => hn.2.1)).mono ?_
  rintro e w' ⟨n, rfl, h1, h2, hb⟩
  exact ⟨by rw [M.reach_mk9 V h1 h2], hb⟩
theorem hasGoal_any (w : World) (m : M.Mz) (a b : Option Addr) (c d : Nat) (V : M.Valid m) (n : Nat) (hn : n < 4096) :
    Calls Try.prog 77 #[.agg #[.int .i64 m.size, .slice a m.doors.length c, .slice b m.keys.length d], .int .i64 (n : Int)] w (BoolPost w (M.digB n (m.size - 1).toNat)) := by
  have v1 := V.size1
  have v12 := V.size12
  have CG := Lib.hid (fun W => goal_any W m a b c d v1 v12)
  clear V
  obtain ⟨k, hk⟩ : ∃ k : Nat, m.size - 1 = (k : Int) := ⟨(m.size - 1).toNat, by omega⟩
  rw [hk] at CG ⊢
  have hbt := M.bit_test (p := k) hn
  rw [Int.toNat_natCast]
  have hk12 : k < 12 := by omega
  clear hk
  cases hd : M.digB n k with
  | true =>
    rw [hd] at hbt
    clear hd
    go_enter Try.func77, Try.ntmps77
    go_wp2_with fail
    refine (CG.out _).mono ?_
    rintro e w1 ⟨rfl, hb1⟩
    have HB := Lib.hid (C.Below.more (below_alloc _ _) hb1)
    clear hb1
    go_wp2_with fail
    go_ret
    exact ⟨by first | rfl | (simp [hbt]; done), HB.out⟩
  | false =>
    rw [hd] at hbt
    clear hd
    go_enter Try.func77, Try.ntmps77
    go_wp2_with fail
    refine (CG.out _).mono ?_
    rintro e w1 ⟨rfl, hb1⟩
    have HB := Lib.hid (C.Below.more (below_alloc _ _) hb1)
    clear hb1
    go_wp2_with fail
    go_ret
    exact ⟨by first | rfl | (simp [hbt]; done), HB.out⟩
theorem allW_any (w : World) (m : M.Mz) (a b : Option Addr) (c d : Nat) (V : M.Valid m) :
    Calls Try.prog 76 #[.agg #[.int .i64 m.size, .slice a m.doors.length c, .slice b m.keys.length d]] w fun e w' => e = .returned (.int .i64 ((M.allW m : Nat) : Int)) ∧ Below w.heap.size w w' := by
  have v1 := V.size1
  have v12 := V.size12
  have hp := M.size_pow V
  have h2 : 0 < 2 ^ m.size.toNat := Nat.pow_pos (by decide)
  have hwp : wrap64 (2 ^ m.size.toNat) = ((2 ^ m.size.toNat : Nat) : Int) := by
    have e : ((2 : Int) ^ m.size.toNat) = ((2 ^ m.size.toNat : Nat) : Int) := by simp
    rw [e]
    clear e
    generalize 2 ^ m.size.toNat = N at *
    unfold wrap64
    omega
  have hm0 : ¬ m.size < 0 := by omega
  have HAN : Hid (M.allW m = 2 ^ m.size.toNat - 1) := Lib.hid rfl
  clear V
  generalize 2 ^ m.size.toNat = N at *
  have HS1 : Hid (((N - 1 : Nat) : Int) = (N : Int) - 1) := Lib.hid (by omega)
  go_enter Try.func76, Try.ntmps76
  go_wp2_with fail
  go_ret
  exact ⟨by rw [HAN.out, HS1.out]; rfl, below_alloc _ _⟩
end C
end Go.Proofs.Ytbcobheiofajeaa
