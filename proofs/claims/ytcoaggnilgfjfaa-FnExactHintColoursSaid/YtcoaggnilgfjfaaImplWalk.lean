/-
  CONTRACTS of TakenOn and IsKeyWalk, the program's side; what lay in memory stays. No condition but that memory reads so, a walk of at most 1048576 numbers.
-/
import Derived.Test.YtcoaggnilgfjfaaImplTaken
import Derived.Test.YtcoaggnilgfjfaaSpecWalk
namespace Go.Proofs.Ytcoaggnilgfjfaa
open Go.RowKit
namespace C
set_option maxHeartbeats 1600000
set_option maxRecDepth 20000
theorem implTakenOn_lw (w : World) (lo hi : Nat) (m : M.Mz) (a b : Option Addr) (c d : Nat) (h : MzIn lo hi w m a c b d) (hz : hi ≤ w.heap.size) (_h1 : m.doors.length ≤ 1048576) (_h2 : m.keys.length ≤ 1048576) (lo' hi' : Nat) (wa : Option Addr) (wc : Nat) (walk : List Int) (hw : RowIn lo' hi' w wa (M.encIs walk)) (hz' : hi' ≤ w.heap.size) (hl : walk.length ≤ 1048576) (_u1 : walk.length ≤ wc) (_u2 : wc ≤ 9223372036854775807) (_u3 : ∀ z ∈ walk, -9223372036854775808 ≤ z ∧ z ≤ 9223372036854775807) :
    Calls Try.prog 134 #[.agg #[.int .i64 m.size, .slice a m.doors.length c, .slice b m.keys.length d], .slice wa walk.length wc] w (IntsOkPost w (M.takenOnV m walk) (M.takenOnB m walk)) := by
  have H := Lib.hid h
  have HW := Lib.hid hw
  clear h hw
  go_enter Try.func134, Try.ntmps134
  go_wp2_with fail
  refine named ?_
  intro W hW
  have hb : Below w.heap.size w W := by rw [hW]; exact below_alloc _ _
  have x1 : Box3 W w.heap.size 29 (.int .i64 m.size) (.slice a m.doors.length c) (.slice b m.keys.length d) := by rw [hW]; exact Box3.new _ _ _ _ rfl
  clear hW
  have hzw := hb.size
  refine (isMaze_any W lo hi m a b c d (H.out.below hb hz) (by omega)).mono ?_
  rintro e w1 ⟨rfl, hb1⟩
  have X1 := Lib.hid (x1.below hb1)
  have HB1 := Lib.hid (hb.trans (hb1.mono hzw))
  have hz1 := hb1.size
  clear hb hb1 x1
  obtain ⟨c0, c1, c2⟩ := X1.out.cells
  cases q0 : M.mazeB m with
  | false =>
    have HF := Lib.hid (takenOn_no (walk := walk) q0)
    clear q0
    go_wp2_with fail
    go_ret2
    rw [HF.out.1, HF.out.2]
    exact intsOk_end (l := []) (ownsRow_empty _ _ _ _ (by omega)) (HB1.out.alloc (by omega) _)
  | true =>
    have HF := Lib.hid (takenOn_yes (walk := walk) q0)
    have HV := Lib.hid (M.valid_of q0)
    clear q0
    go_wp2_with fail
    refine (implTaken_any w1 lo hi lo' hi' m a b c d wa wc walk (H.out.below HB1.out hz) (by omega) HV.out (HW.out.below HB1.out hz') (by omega) hl _u1 _u2).mono ?_
    rintro e w2 ⟨ra, rc, rfl, ho, hq1, hq2, hb2⟩
    have HO := Lib.hid ho
    have HB2 := Lib.hid (HB1.out.trans (hb2.mono (by omega)))
    have hzz := Nat.le_trans hzw hz1
    clear ho hb2
    go_wp2_with fail
    go_ret2
    rw [HF.out.1, HF.out.2]
    exact ⟨ra, rc, rfl, HO.out.mono hzz (Nat.le_refl _), hq1, hq2, HB2.out⟩
end C
end Go.Proofs.Ytcoaggnilgfjfaa
