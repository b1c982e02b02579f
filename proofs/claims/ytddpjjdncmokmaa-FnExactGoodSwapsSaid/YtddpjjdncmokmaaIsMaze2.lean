/-
  CONTRACT of impl.IsMaze: it tells whether a maze is valid; what lay in memory stays. No condition but that the maze reads so.
-/
import Derived.Test.YtddpjjdncmokmaaIsMaze
namespace Go.Proofs.Ytddpjjdncmokmaa
open Go.RowKit
namespace C
set_option maxHeartbeats 800000
set_option maxRecDepth 20000
theorem mazeB_parts (m : M.Mz) : M.mazeB m = (M.sizeB m && ((keysLenB m && M.keysB m.keys) && (fewB m && M.doorsB m.size m.doors))) := by
  unfold M.mazeB M.shapeB M.sizeB keysLenB fewB
  rw [Bool.eq_iff_iff]
  simp only [Bool.and_eq_true, decide_eq_true_eq]
  constructor
  · rintro ⟨⟨⟨h1, h2, h3, h4⟩, h5⟩, h6⟩
    exact ⟨⟨h1, h2⟩, ⟨h4, h6⟩, h3, h5⟩
  · rintro ⟨⟨h1, h2⟩, ⟨h4, h6⟩, h3, h5⟩
    exact ⟨⟨⟨h1, h2, h3, h4⟩, h5⟩, h6⟩
def BoolPost (w : World) (r : Bool) (e : Ending) (w' : World) : Prop := e = .returned (.bool r) ∧ Below w.heap.size w w'
theorem isMaze_any (w : World) (lo hi : Nat) (m : M.Mz) (a b : Option Addr) (c d : Nat) (h : MzIn lo hi w m a c b d) (hz : hi ≤ w.heap.size) :
    Calls Try.prog 64 #[.agg #[.int .i64 m.size, .slice a m.doors.length c, .slice b m.keys.length d]] w (BoolPost w (M.mazeB m)) := by
  have H := Lib.hid h
  have HP := Lib.hid (mazeB_parts m)
  clear h
  go_enter Try.func64, Try.ntmps64
  go_wp2_with fail
  refine wp_loop_rounds 4 ?_
  rw [rounds_succ]
  go_wp2_with fail
  refine named ?_
  intro W hW
  have hb : Below w.heap.size w W := by rw [hW]; exact ((Below.refl _ _).alloc (Nat.le_refl _) _).alloc (by simp) _
  have x1 : Box3 W w.heap.size 27 (.int .i64 m.size) (.slice a m.doors.length c) (.slice b m.keys.length d) := by rw [hW]; exact (Box3.new _ _ _ _ rfl).alloc _
  have x2 : Box3 W (w.heap.size + 1) 66 (.func (.func 100) #[] #[]) (.func (.func 101) #[] #[]) (.func (.func 102) #[] #[]) := by rw [hW]; exact Box3.new _ _ _ _ (by simp)
  clear hW
  have hzw := hb.size
  have HB := Lib.hid hb
  refine (validSize_any m a b c d W).mono ?_
  rintro e w1 ⟨rfl, hb1⟩
  have X1 := x1.below hb1
  have X2 := x2.below hb1
  obtain ⟨c10, c11, c12⟩ := X1.cells
  obtain ⟨c20, c21, c22⟩ := X2.cells
  have hz1 := hb1.size
  have HX1 := Lib.hid X1
  have HX2 := Lib.hid X2
  have HB1 := Lib.hid (hb.trans (hb1.mono hzw))
  clear x1 x2 hb hb1 X1 X2
  cases q0 : M.sizeB m with
  | false =>
    have HF : Hid (M.mazeB m = false) := Lib.hid (by rw [HP.out, q0]; rfl)
    clear q0
    go_wp2_with fail
    go_ret
    exact ⟨by rw [HF.out]; rfl, HB1.out⟩
  | true =>
    have hs12 : m.size ≤ 12 := by unfold M.sizeB at q0; exact (decide_eq_true_iff.1 q0).2
    have Q0 := Lib.hid q0
    clear q0
    go_wp2_with fail
    rw [rounds_succ]
    go_wp2_with fail
    refine (validKeys_any w1 lo hi m a b c d (H.out.below HB1.out hz) (by omega) hs12).mono ?_
    rintro e w2 ⟨rfl, hb2⟩
    clear c10 c11 c12 c20 c21 c22
    have X1 := HX1.out.below hb2
    have X2 := HX2.out.below hb2
    obtain ⟨c10, c11, c12⟩ := X1.cells
    obtain ⟨c20, c21, c22⟩ := X2.cells
    have hz2 := hb2.size
    have HB2 := Lib.hid (HB1.out.trans (hb2.mono (by omega)))
    clear hb2 X1 X2
    cases q1 : (keysLenB m && M.keysB m.keys) with
    | false =>
      have HF : Hid (M.mazeB m = false) := Lib.hid (by rw [HP.out, q1, Q0.out]; rfl)
      clear q1
      go_wp2_with fail
      go_ret
      exact ⟨by rw [HF.out]; rfl, HB2.out⟩
    | true =>
      have Q1 := Lib.hid q1
      clear q1
      go_wp2_with fail
      rw [rounds_succ]
      go_wp2_with fail
      refine (validDoors_any w2 lo hi m a b c d (H.out.below HB2.out hz) (by omega)).mono ?_
      rintro e w3 ⟨rfl, hb3⟩
      clear c10 c11 c12 c20 c21 c22
      have HB3 := Lib.hid (HB2.out.trans (hb3.mono (by omega)))
      clear hb3
      cases q2 : (fewB m && M.doorsB m.size m.doors) with
      | false =>
        have HF : Hid (M.mazeB m = false) := Lib.hid (by rw [HP.out, q2, Q0.out, Q1.out]; rfl)
        clear q2
        go_wp2_with fail
        go_ret
        exact ⟨by rw [HF.out]; rfl, HB3.out⟩
      | true =>
        have HF : Hid (M.mazeB m = true) := Lib.hid (by rw [HP.out, q2, Q0.out, Q1.out]; rfl)
        clear q2
        go_wp2_with fail
        rw [rounds_succ]
        go_wp2_with fail
        go_ret
        exact ⟨by rw [HF.out]; rfl, HB3.out⟩
end C
end Go.Proofs.Ytddpjjdncmokmaa
