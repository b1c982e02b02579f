/-
  CONTRACTS of the model's SetWins and SetBars; what lay in memory stays. No condition but that the maze reads so.
-/
import Derived.Test.YtcoaggnilgfjfaaSWin
import Derived.Test.YtcoaggnilgfjfaaSP3
import Derived.Deep.RegionWith
namespace Go.Proofs.Ytcoaggnilgfjfaa
open Go.RowKit
namespace C
set_option maxHeartbeats 3200000
set_option maxRecDepth 20000
theorem specSw_lw (w : World) (lo hi : Nat) (m : M.Mz) (a b : Option Addr) (c d : Nat) (h : MzIn lo hi w m a c b d) (hz : hi ≤ w.heap.size) (_h1 : m.doors.length ≤ 1048576) (_h2 : m.keys.length ≤ 1048576) (x : Int) (_x1 : -9223372036854775808 ≤ x) (_x2 : x ≤ 9223372036854775807) :
    Calls Try.prog 18 #[.agg #[.int .i64 m.size, .slice a m.doors.length c, .slice b m.keys.length d], .int .i64 x] w (BoolsPost w (M.ifAsk m x (M.wF m (M.st6 x)) false) (M.askB m x)) := by
  obtain ⟨ii0, hi0, hz0, hzz1, hz2⟩ := info_parts infoI
  have H := Lib.hid h
  clear h
  go_enter Try.func18, Try.ntmps18
  go_wp2_with fail
  refine named ?_
  intro W hW
  have hb : Below w.heap.size w W := by rw [hW]; exact below_alloc _ _
  have x1 : Box3 W w.heap.size 29 (.int .i64 m.size) (.slice a m.doors.length c) (.slice b m.keys.length d) := by rw [hW]; exact Box3.new _ _ _ _ rfl
  clear hW
  have hzw := hb.size
  refine (specMaze_any W lo hi m a b c d (H.out.below hb hz) (by omega)).mono ?_
  rintro e w1 ⟨rfl, hb1⟩
  have X1 := Lib.hid (x1.below hb1)
  have HB1 := Lib.hid (hb.trans (hb1.mono hzw))
  have hz1 := hb1.size
  have hxl1 := X1.out.lt
  clear hb hb1 x1
  obtain ⟨c0, c1, c2⟩ := X1.out.cells
  cases q0 : M.mazeB m with
  | false =>
    have HM := Lib.hid q0
    clear q0
    go_wp2_with fail
    go_ret2
    have HF : Hid (M.askB m x = false) := Lib.hid (by unfold M.askB; rw [HM.out]; rfl)
    rw [M.ifAsk_no HF.out, HF.out]
    exact ⟨rfl, HB1.out⟩
  | true =>
    have HM := Lib.hid q0
    have HV := Lib.hid (M.valid_of q0)
    clear q0
    go_wp2_with fail
    refine (l2Set_any _ _).mono ?_
    rintro e w2 ⟨rfl, rfl⟩
    cases qs : M.setB x with
    | false =>
      have HF : Hid (M.askB m x = false) := Lib.hid (by unfold M.askB; rw [qs, Bool.and_false])
      clear qs
      go_wp2_with fail
      go_ret2
      rw [M.ifAsk_no HF.out, HF.out]
      exact ⟨rfl, HB1.out⟩
    | true =>
      have HF : Hid (M.askB m x = true) := Lib.hid (by unfold M.askB; rw [qs, HM.out]; rfl)
      obtain ⟨_, s0, s64⟩ := M.ask_yes HF.out
      clear qs
      have hx : x = ((M.st6 x).val : Int) := (M.st6_val ⟨s0, s64⟩).symm
      have HQ : Hid (M.ifAsk m x (M.wF m (M.st6 x)) false = M.wF m (M.st6 x)) := Lib.hid (M.ifAsk_yes HF.out _ _)
      clear _x1 _x2
      generalize M.st6 x = s at *
      subst hx
      have hat := M.boolsF_at (M.wF m) s
      have hl64 := M.boolsF_len (M.wF m)
      go_wp2_with fail
      refine (l6Wins_any w1 lo hi m a b c d (H.out.below HB1.out hz) (by omega) HV.out).mono ?_
      rintro e w3 ⟨ra, rc, rfl, ho, ho1, ho2, hb3⟩
      have HB3 := Lib.hid (HB1.out.trans (hb3.mono (by omega)))
      obtain ⟨rb, off, hra, _, _, hc0⟩ := ho.row.at_ (k := s.val) (by rw [M.encBs_len, hl64]; exact s.isLt)
      have k0 := hc0 _ _ hat
      subst hra
      rw [hl64] at ho1 ⊢
      have hs64 : s.val < 64 := s.isLt
      clear hc0 ho hb3 hat hl64
      generalize M.wF m s = q at *
      generalize s.val = k at *
      go_wp2_with fail
      go_ret2
      rw [HQ.out, HF.out]
      exact ⟨rfl, HB3.out⟩
theorem specSb_lw (w : World) (lo hi : Nat) (m : M.Mz) (a b : Option Addr) (c d : Nat) (h : MzIn lo hi w m a c b d) (hz : hi ≤ w.heap.size) (_h1 : m.doors.length ≤ 1048576) (_h2 : m.keys.length ≤ 1048576) (x : Int) (_x1 : -9223372036854775808 ≤ x) (_x2 : x ≤ 9223372036854775807) :
    Calls Try.prog 30 #[.agg #[.int .i64 m.size, .slice a m.doors.length c, .slice b m.keys.length d], .int .i64 x] w (BoolsPost w (M.ifAsk m x (M.bF m (M.st6 x)) false) (M.askB m x)) := by
  obtain ⟨ii0, hi0, hz0, hzz1, hz2⟩ := info_parts infoI
  have H := Lib.hid h
  clear h
  go_enter Try.func30, Try.ntmps30
  go_wp2_with fail
  refine named ?_
  intro W hW
  have hb : Below w.heap.size w W := by rw [hW]; exact below_alloc _ _
  have x1 : Box3 W w.heap.size 29 (.int .i64 m.size) (.slice a m.doors.length c) (.slice b m.keys.length d) := by rw [hW]; exact Box3.new _ _ _ _ rfl
  clear hW
  have hzw := hb.size
  refine (specMaze_any W lo hi m a b c d (H.out.below hb hz) (by omega)).mono ?_
  rintro e w1 ⟨rfl, hb1⟩
  have X1 := Lib.hid (x1.below hb1)
  have HB1 := Lib.hid (hb.trans (hb1.mono hzw))
  have hz1 := hb1.size
  have hxl1 := X1.out.lt
  clear hb hb1 x1
  obtain ⟨c0, c1, c2⟩ := X1.out.cells
  cases q0 : M.mazeB m with
  | false =>
    have HM := Lib.hid q0
    clear q0
    go_wp2_with fail
    go_ret2
    have HF : Hid (M.askB m x = false) := Lib.hid (by unfold M.askB; rw [HM.out]; rfl)
    rw [M.ifAsk_no HF.out, HF.out]
    exact ⟨rfl, HB1.out⟩
  | true =>
    have HM := Lib.hid q0
    have HV := Lib.hid (M.valid_of q0)
    clear q0
    go_wp2_with fail
    refine (l2Set_any _ _).mono ?_
    rintro e w2 ⟨rfl, rfl⟩
    cases qs : M.setB x with
    | false =>
      have HF : Hid (M.askB m x = false) := Lib.hid (by unfold M.askB; rw [qs, Bool.and_false])
      clear qs
      go_wp2_with fail
      go_ret2
      rw [M.ifAsk_no HF.out, HF.out]
      exact ⟨rfl, HB1.out⟩
    | true =>
      have HF : Hid (M.askB m x = true) := Lib.hid (by unfold M.askB; rw [qs, HM.out]; rfl)
      obtain ⟨_, s0, s64⟩ := M.ask_yes HF.out
      clear qs
      have hx : x = ((M.st6 x).val : Int) := (M.st6_val ⟨s0, s64⟩).symm
      have HQ : Hid (M.ifAsk m x (M.bF m (M.st6 x)) false = M.bF m (M.st6 x)) := Lib.hid (M.ifAsk_yes HF.out _ _)
      clear _x1 _x2
      generalize M.st6 x = s at *
      subst hx
      have hat := M.boolsF_at (M.bF m) s
      have hl64 := M.boolsF_len (M.bF m)
      go_wp2_with fail
      refine (l6Bars_any w1 lo hi m a b c d (H.out.below HB1.out hz) (by omega) HV.out).mono ?_
      rintro e w3 ⟨ra, rc, rfl, ho, ho1, ho2, hb3⟩
      have HB3 := Lib.hid (HB1.out.trans (hb3.mono (by omega)))
      obtain ⟨rb, off, hra, _, _, hc0⟩ := ho.row.at_ (k := s.val) (by rw [M.encBs_len, hl64]; exact s.isLt)
      have k0 := hc0 _ _ hat
      subst hra
      rw [hl64] at ho1 ⊢
      have hs64 : s.val < 64 := s.isLt
      clear hc0 ho hb3 hat hl64
      generalize M.bF m s = q at *
      generalize s.val = k at *
      go_wp2_with fail
      go_ret2
      rw [HQ.out, HF.out]
      exact ⟨rfl, HB3.out⟩
end C
end Go.Proofs.Ytcoaggnilgfjfaa
