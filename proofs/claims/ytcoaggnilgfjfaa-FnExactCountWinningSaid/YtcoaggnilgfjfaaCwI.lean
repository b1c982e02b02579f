/-
  CONTRACT of the program's CountWinning; what lay in memory stays. No condition but that the maze reads so.
-/
import Derived.Test.YtcoaggnilgfjfaaSWin
import Derived.Test.YtcoaggnilgfjfaaSClu
namespace Go.Proofs.Ytcoaggnilgfjfaa
open Go.RowKit
namespace C
set_option maxHeartbeats 3200000
set_option maxRecDepth 20000
theorem implCw_lw (w : World) (lo hi : Nat) (m : M.Mz) (a b : Option Addr) (c d : Nat) (h : MzIn lo hi w m a c b d) (hz : hi ≤ w.heap.size) (_h1 : m.doors.length ≤ 1048576) (_h2 : m.keys.length ≤ 1048576) :
    Calls Try.prog 33 #[.agg #[.int .i64 m.size, .slice a m.doors.length c, .slice b m.keys.length d]] w (fun e w' => e = .returned (.tuple #[.int .i64 (M.cntV m M.wF), .bool (M.mazeB m)]) ∧ Below w.heap.size w w') := by
  obtain ⟨ii0, hi0, hz0, hzz1, hz2⟩ := info_parts infoI
  have H := Lib.hid h
  clear h
  go_enter Try.func33, Try.ntmps33
  go_wp2_with fail
  refine named ?_
  intro W hW
  have hb : Below w.heap.size w W := by rw [hW]; exact below_alloc _ _
  have x1 : Box3 W w.heap.size 29 (.int .i64 m.size) (.slice a m.doors.length c) (.slice b m.keys.length d) := by rw [hW]; exact Box3.new _ _ _ _ rfl
  clear hW
  have hzw := hb.size
  refine (isMaze_any W lo hi m a b c d (H.out.below hb hz) (by omega)).mono ?_
  rintro e w1 ⟨rfl, hb1⟩
  have X1 := Lib.hid (x1.below hb1)
  have HB1 := Lib.hid (hb.trans (hb1.mono hzw))
  have hz1 := hb1.size
  have hxl1 := X1.out.lt
  clear hb hb1 x1
  obtain ⟨c0, c1, c2⟩ := X1.out.cells
  cases q0 : M.mazeB m with
  | false =>
    have HM := Lib.hid q0
    clear q0
    go_wp2_with fail
    go_ret2
    rw [HM.out]
    have e : M.cntV m M.wF = 0 := by unfold M.cntV; rw [HM.out]; rfl
    rw [e]
    exact ⟨rfl, HB1.out⟩
  | true =>
    have HM := Lib.hid q0
    have HV := Lib.hid (M.valid_of q0)
    clear q0
    have hl64 := M.selTo_len (M.wF m) 64
    have HSE := Lib.hid (setsWith_any 61 #[.agg #[.int .i64 m.size, .slice a m.doors.length c, .slice b m.keys.length d]] #[] (M.wF m) (enters_of Try.func61 (by kernel_rfl) rfl) w1 (fun W' s hq => wins6_any W' lo hi m a b c d (H.out.below (HB1.out.trans (hq.mono (by omega))) hz) (by have := hq.size; omega) HV.out s))
    have HCV : Hid (M.cntV m M.wF = ((M.selF (M.wF m)).length : Int)) := Lib.hid (by unfold M.cntV; rw [if_pos HM.out])
    go_wp2_with fail
    refine HSE.out.mono ?_
    rintro e w2 ⟨ra, rc, rfl, ho, ho1, ho2, hb2⟩
    rw [M.intsF_len] at ho1 ⊢
    go_wp2_with fail
    go_ret2
    rw [HM.out, HCV.out]
    exact ⟨rfl, HB1.out.trans (hb2.mono (by omega))⟩
end C
end Go.Proofs.Ytcoaggnilgfjfaa
