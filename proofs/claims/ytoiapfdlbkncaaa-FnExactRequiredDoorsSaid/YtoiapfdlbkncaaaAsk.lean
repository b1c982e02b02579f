/-
  CONTRACTS of spec.l3Ask and impl.Maze.goal, and words for what is asked of a valid maze and a set alone, own to these proofs; what lay in memory stays. No condition but that the maze reads so.
-/
import Derived.Test.YtoiapfdlbkncaaaSpecMaze
import Derived.Test.YtoiapfdlbkncaaaEntMath
import Derived.Test.YtoiapfdlbkncaaaPutI
import Derived.Deep.RegionHeld3
namespace Go.Proofs.Ytoiapfdlbkncaaa
open Go.RowKit
namespace M
def askB (m : Mz) (s : Int) : Bool := mazeB m && setB s
theorem ask_yes {m : Mz} {s : Int} (h : askB m s = true) : Valid m ∧ 0 ≤ s ∧ s < 64 := by
  unfold askB at h
  rw [Bool.and_eq_true] at h
  refine ⟨valid_of h.1, ?_⟩
  have := h.2
  unfold setB at this
  exact decide_eq_true_iff.1 this
def ifAsk {α : Type} (m : Mz) (s : Int) (x d : α) : α := if askB m s then x else d
theorem ifAsk_yes {α : Type} {m : Mz} {s : Int} (h : askB m s = true) (x d : α) : ifAsk m s x d = x := by unfold ifAsk; rw [if_pos h]
theorem ifAsk_no {α : Type} {m : Mz} {s : Int} (h : askB m s = false) (x d : α) : ifAsk m s x d = d := by unfold ifAsk; rw [h]; rfl
noncomputable def roundsV (m : Mz) (s : Int) : List Int := ifAsk m s (setsTo m s (lastK m s)) []
noncomputable def gainN (m : Mz) (s : Int) : List Int := ifAsk m s (reachOf m 0 (finC m s)) []
noncomputable def entV (m : Mz) (s : Int) : List Int := ifAsk m s (nodeRounds m s (lastK m s + 1)) []
noncomputable def winR (m : Mz) (s : Int) : Int := (entTo m s (lastK m s + 1) (m.size - 1) : Nat)
noncomputable def canB (m : Mz) (s : Int) : Bool := memB (reachOf m 0 (finC m s)) (m.size - 1)
theorem roundsV_len (m : Mz) (s : Int) : (roundsV m s).length ≤ 1048576 := by
  unfold roundsV ifAsk
  split
  · have := lastK_le m s; rw [setsTo_len]; omega
  · simp
theorem gainN_len (m : Mz) (s : Int) : (gainN m s).length ≤ 1048576 := by
  unfold gainN ifAsk
  split
  · have := rchL_len m.doors (openTo (finC m s)) 0; unfold reachOf; omega
  · simp
theorem entV_len (m : Mz) (s : Int) : (entV m s).length ≤ 1048576 := by
  unfold entV
  cases h : askB m s with
  | false => rw [ifAsk_no h]; simp
  | true => rw [ifAsk_yes h, nodeRounds_len]; have := (ask_yes h).1.size12; omega
theorem win_can {m : Mz} {s : Int} (h : askB m s = true) : decide (0 < winR m s) = canB m s := by
  obtain ⟨V, h0⟩ := ask_yes h
  have hl := ent_last V h0 (m.size - 1)
  unfold canB
  rw [Bool.eq_iff_iff, decide_eq_true_iff]
  unfold memB
  rw [List.contains_iff_mem, ← hl]
  unfold winR
  omega
end M
namespace C
set_option maxHeartbeats 1600000
set_option maxRecDepth 20000
theorem ask_any (w : World) (lo hi : Nat) (m : M.Mz) (a b : Option Addr) (c d : Nat) (s : Int) (h : MzIn lo hi w m a c b d) (hz : hi ≤ w.heap.size) :
    Calls Try.prog 71 #[.agg #[.int .i64 m.size, .slice a m.doors.length c, .slice b m.keys.length d], .int .i64 s] w (BoolPost w (M.askB m s)) := by
  have H := Lib.hid h
  clear h
  go_enter Try.func71, Try.ntmps71
  go_wp2_with fail
  refine named ?_
  intro W hW
  have hb : Below w.heap.size w W := by rw [hW]; exact below_alloc _ _
  clear hW
  have hzw := hb.size
  refine (specMaze_any W lo hi m a b c d (H.out.below hb hz) (by omega)).mono ?_
  rintro e w1 ⟨rfl, hb1⟩
  have HB := Lib.hid (hb.trans (hb1.mono hzw))
  clear hb hb1
  cases hm : M.mazeB m with
  | false =>
    have HF : Hid (M.askB m s = false) := Lib.hid (by unfold M.askB; rw [hm]; rfl)
    clear hm
    go_wp2_with fail
    go_ret
    exact ⟨by rw [HF.out]; rfl, HB.out⟩
  | true =>
    have HF : Hid (M.askB m s = M.setB s) := Lib.hid (by unfold M.askB; rw [hm]; rfl)
    clear hm
    go_wp2_with fail
    refine (l2Set_any _ _).mono ?_
    rintro e w2 ⟨rfl, rfl⟩
    go_wp2_with fail
    go_ret
    exact ⟨by rw [HF.out]; rfl, HB.out⟩
theorem goal_any (w : World) (m : M.Mz) (a b : Option Addr) (c d : Nat) (h1 : 1 ≤ m.size) (h2 : m.size ≤ 12) :
    Calls Try.prog 80 #[.agg #[.int .i64 m.size, .slice a m.doors.length c, .slice b m.keys.length d]] w fun e w' => e = .returned (.int .i64 (m.size - 1)) ∧ Below w.heap.size w w' := by
  go_enter Try.func80, Try.ntmps80
  go_wp2_with fail
  go_ret
  exact ⟨by first | rfl | (simp; omega), below_alloc _ _⟩
end C
end Go.Proofs.Ytoiapfdlbkncaaa
