/-
  CONTRACTS of the model's RoundsOf, GainAtLast, l3Wins, CanWin, NodeRounds, WinRound; what lay in memory stays. No condition but that the maze reads so.
-/
import Derived.Test.YtoiapfdlbkncaaaAsk
import Derived.Test.YtoiapfdlbkncaaaEntered
import Derived.Deep.RegionHeld3
import Derived.IntWalk
namespace Go.Proofs.Ytoiapfdlbkncaaa
open Go.RowKit
namespace C
set_option maxHeartbeats 1600000
set_option maxRecDepth 20000
def BoolsPost (w : World) (r ok : Bool) (e : Ending) (w' : World) : Prop := e = .returned (.tuple #[.bool r, .bool ok]) ∧ Below w.heap.size w w'
def GainPost (w : World) (s : Int) (l : List Int) (ok : Bool) (e : Ending) (w' : World) : Prop :=
  ∃ a c, e = .returned (.tuple #[.int .i64 s, .slice a l.length c, .bool ok]) ∧ OwnAt w.heap.size w'.heap.size w' 3 a (M.encIs l) ∧ l.length ≤ c ∧ c ≤ 9223372036854775807 ∧ Below w.heap.size w w'
theorem wins_any (w : World) (lo hi : Nat) (m : M.Mz) (a b : Option Addr) (c d : Nat) (h : MzIn lo hi w m a c b d) (hz : hi ≤ w.heap.size) (V : M.Valid m) (s : Int) (h0 : 0 ≤ s) (h1 : s < 64) :
    Calls Try.prog 76 #[.agg #[.int .i64 m.size, .slice a m.doors.length c, .slice b m.keys.length d], .int .i64 s] w (BoolPost w (M.canB m s)) := by
  have H := Lib.hid h
  have HVA := Lib.hid V
  have v1 := V.size1
  have v12 := V.size12
  clear h V
  go_enter Try.func76, Try.ntmps76
  go_wp2_with fail
  refine named ?_
  intro W hW
  have hb : Below w.heap.size w W := by rw [hW]; exact below_alloc _ _
  have x1 : Box3 W w.heap.size 29 (.int .i64 m.size) (.slice a m.doors.length c) (.slice b m.keys.length d) := by rw [hW]; exact Box3.new _ _ _ _ rfl
  clear hW
  have hzw := hb.size
  refine (close_any W lo hi m a b c d (H.out.below hb hz) (by omega) HVA.out s h0 h1).mono ?_
  rintro e w1 ⟨ra, rc, rfl, ho, ho1, ho2, hb1⟩
  have X1 := Lib.hid (x1.below hb1)
  have HB1 := Lib.hid (hb.trans (hb1.mono hzw))
  have HO := Lib.hid ho
  have hl := M.rchL_len m.doors (M.openTo (M.finC m s)) 0
  have hlen : (M.reachOf m 0 (M.finC m s)).length ≤ 1048576 := by unfold M.reachOf; omega
  obtain ⟨c0, c1, c2⟩ := X1.out.cells
  have HCB : Hid (M.memB (M.reachOf m 0 (M.finC m s)) (m.size - 1) = M.canB m s) := Lib.hid rfl
  clear hb hb1 x1 ho hl
  generalize M.reachOf m 0 (M.finC m s) = L at *
  go_wp2_with fail
  refine (l1Has_any w1 _ _ ra rc L (m.size - 1) HO.out.row hlen).mono ?_
  rintro e w2 ⟨rfl, rfl⟩
  go_wp2_with fail
  go_ret
  exact ⟨by rw [← HCB.out]; rfl, HB1.out⟩
theorem specRounds_lw (w : World) (lo hi : Nat) (m : M.Mz) (a b : Option Addr) (c d : Nat) (h : MzIn lo hi w m a c b d) (hz : hi ≤ w.heap.size) (_h1 : m.doors.length ≤ 1048576) (_h2 : m.keys.length ≤ 1048576) (s : Int) (_s1 : -9223372036854775808 ≤ s) (_s2 : s ≤ 9223372036854775807) :
    Calls Try.prog 24 #[.agg #[.int .i64 m.size, .slice a m.doors.length c, .slice b m.keys.length d], .int .i64 s] w (IntsOkPost w (M.roundsV m s) (M.askB m s)) := by
  have H := Lib.hid h
  clear h
  go_enter Try.func24, Try.ntmps24
  go_wp2_with fail
  refine named ?_
  intro W hW
  have hb : Below w.heap.size w W := by rw [hW]; exact below_alloc _ _
  have x1 : Box3 W w.heap.size 29 (.int .i64 m.size) (.slice a m.doors.length c) (.slice b m.keys.length d) := by rw [hW]; exact Box3.new _ _ _ _ rfl
  clear hW
  have hzw := hb.size
  refine (ask_any W lo hi m a b c d s (H.out.below hb hz) (by omega)).mono ?_
  rintro e w1 ⟨rfl, hb1⟩
  have X1 := Lib.hid (x1.below hb1)
  have HB1 := Lib.hid (hb.trans (hb1.mono hzw))
  have hz1 := hb1.size
  have hbl := X1.out.lt
  clear hb hb1 x1
  obtain ⟨c0, c1, c2⟩ := X1.out.cells
  cases q0 : M.askB m s with
  | false =>
    have HF := Lib.hid q0
    clear q0
    go_wp2_with fail
    go_ret2
    have HV : Hid (M.roundsV m s = []) := Lib.hid (M.ifAsk_no HF.out _ _)
    rw [HF.out, HV.out]
    exact intsOk_end (l := []) (ownsRow_empty _ _ _ _ (by omega)) (HB1.out.alloc (by omega) _)
  | true =>
    have HF := Lib.hid q0
    have HVA := Lib.hid (M.ask_yes q0).1
    obtain ⟨_, s0, s64⟩ := M.ask_yes q0
    have v1 := HVA.out.size1
    have v12 := HVA.out.size12
    clear q0
    go_wp2_with fail
    refine (rounds_any w1 lo hi m a b c d (H.out.below HB1.out hz) (by omega) HVA.out s s0 s64).mono ?_
    rintro e w4 ⟨ra, rc, rfl, ho, ho1, ho2, hb4⟩
    have HO := Lib.hid ho
    have HB4 := Lib.hid (HB1.out.trans (hb4.mono (by omega)))
    have hz4 := hb4.size
    clear ho hb4
    have HV := Lib.hid (show M.roundsV m s = _ from M.ifAsk_yes HF.out _ _)
    go_wp2_with fail
    go_ret2
    rw [HF.out, HV.out]
    exact ⟨_, _, rfl, HO.out.mono (by omega) (Nat.le_refl _), ho1, ho2, HB4.out⟩
theorem specEnt_lw (w : World) (lo hi : Nat) (m : M.Mz) (a b : Option Addr) (c d : Nat) (h : MzIn lo hi w m a c b d) (hz : hi ≤ w.heap.size) (_h1 : m.doors.length ≤ 1048576) (_h2 : m.keys.length ≤ 1048576) (s : Int) (_s1 : -9223372036854775808 ≤ s) (_s2 : s ≤ 9223372036854775807) :
    Calls Try.prog 30 #[.agg #[.int .i64 m.size, .slice a m.doors.length c, .slice b m.keys.length d], .int .i64 s] w (IntsOkPost w (M.entV m s) (M.askB m s)) := by
  have H := Lib.hid h
  clear h
  go_enter Try.func30, Try.ntmps30
  go_wp2_with fail
  refine named ?_
  intro W hW
  have hb : Below w.heap.size w W := by rw [hW]; exact below_alloc _ _
  have x1 : Box3 W w.heap.size 29 (.int .i64 m.size) (.slice a m.doors.length c) (.slice b m.keys.length d) := by rw [hW]; exact Box3.new _ _ _ _ rfl
  clear hW
  have hzw := hb.size
  refine (ask_any W lo hi m a b c d s (H.out.below hb hz) (by omega)).mono ?_
  rintro e w1 ⟨rfl, hb1⟩
  have X1 := Lib.hid (x1.below hb1)
  have HB1 := Lib.hid (hb.trans (hb1.mono hzw))
  have hz1 := hb1.size
  have hbl := X1.out.lt
  clear hb hb1 x1
  obtain ⟨c0, c1, c2⟩ := X1.out.cells
  cases q0 : M.askB m s with
  | false =>
    have HF := Lib.hid q0
    clear q0
    go_wp2_with fail
    go_ret2
    have HV : Hid (M.entV m s = []) := Lib.hid (M.ifAsk_no HF.out _ _)
    rw [HF.out, HV.out]
    exact intsOk_end (l := []) (ownsRow_empty _ _ _ _ (by omega)) (HB1.out.alloc (by omega) _)
  | true =>
    have HF := Lib.hid q0
    have HVA := Lib.hid (M.ask_yes q0).1
    obtain ⟨_, s0, s64⟩ := M.ask_yes q0
    have v1 := HVA.out.size1
    have v12 := HVA.out.size12
    clear q0
    go_wp2_with fail
    refine (entered_any w1 lo hi m a b c d (H.out.below HB1.out hz) (by omega) HVA.out s s0 s64).mono ?_
    rintro e w4 ⟨ra, rc, rfl, ho, ho1, ho2, hb4⟩
    have HO := Lib.hid ho
    have HB4 := Lib.hid (HB1.out.trans (hb4.mono (by omega)))
    have hz4 := hb4.size
    clear ho hb4
    have HV := Lib.hid (show M.entV m s = _ from M.ifAsk_yes HF.out _ _)
    go_wp2_with fail
    go_ret2
    rw [HF.out, HV.out]
    exact ⟨_, _, rfl, HO.out.mono (by omega) (Nat.le_refl _), ho1, ho2, HB4.out⟩
theorem specCan_lw (w : World) (lo hi : Nat) (m : M.Mz) (a b : Option Addr) (c d : Nat) (h : MzIn lo hi w m a c b d) (hz : hi ≤ w.heap.size) (_h1 : m.doors.length ≤ 1048576) (_h2 : m.keys.length ≤ 1048576) (s : Int) (_s1 : -9223372036854775808 ≤ s) (_s2 : s ≤ 9223372036854775807) :
    Calls Try.prog 28 #[.agg #[.int .i64 m.size, .slice a m.doors.length c, .slice b m.keys.length d], .int .i64 s] w (BoolsPost w (M.ifAsk m s (M.canB m s) false) (M.askB m s)) := by
  have H := Lib.hid h
  clear h
  go_enter Try.func28, Try.ntmps28
  go_wp2_with fail
  refine named ?_
  intro W hW
  have hb : Below w.heap.size w W := by rw [hW]; exact below_alloc _ _
  have x1 : Box3 W w.heap.size 29 (.int .i64 m.size) (.slice a m.doors.length c) (.slice b m.keys.length d) := by rw [hW]; exact Box3.new _ _ _ _ rfl
  clear hW
  have hzw := hb.size
  refine (ask_any W lo hi m a b c d s (H.out.below hb hz) (by omega)).mono ?_
  rintro e w1 ⟨rfl, hb1⟩
  have X1 := Lib.hid (x1.below hb1)
  have HB1 := Lib.hid (hb.trans (hb1.mono hzw))
  have hz1 := hb1.size
  have hbl := X1.out.lt
  clear hb hb1 x1
  obtain ⟨c0, c1, c2⟩ := X1.out.cells
  cases q0 : M.askB m s with
  | false =>
    have HF := Lib.hid q0
    clear q0
    go_wp2_with fail
    go_ret2
    rw [HF.out, M.ifAsk_no HF.out]
    exact ⟨rfl, HB1.out⟩
  | true =>
    have HF := Lib.hid q0
    have HVA := Lib.hid (M.ask_yes q0).1
    obtain ⟨_, s0, s64⟩ := M.ask_yes q0
    have v1 := HVA.out.size1
    have v12 := HVA.out.size12
    clear q0
    go_wp2_with fail
    refine (wins_any w1 lo hi m a b c d (H.out.below HB1.out hz) (by omega) HVA.out s s0 s64).mono ?_
    rintro e w4 ⟨rfl, hb4⟩
    have HB4 := Lib.hid (HB1.out.trans (hb4.mono (by omega)))
    go_wp2_with fail
    go_ret2
    rw [HF.out, M.ifAsk_yes HF.out]
    exact ⟨rfl, HB4.out⟩
theorem specGain_lw (w : World) (lo hi : Nat) (m : M.Mz) (a b : Option Addr) (c d : Nat) (h : MzIn lo hi w m a c b d) (hz : hi ≤ w.heap.size) (_h1 : m.doors.length ≤ 1048576) (_h2 : m.keys.length ≤ 1048576) (s : Int) (_s1 : -9223372036854775808 ≤ s) (_s2 : s ≤ 9223372036854775807) :
    Calls Try.prog 26 #[.agg #[.int .i64 m.size, .slice a m.doors.length c, .slice b m.keys.length d], .int .i64 s] w (GainPost w (M.ifAsk m s (M.finC m s) 0) (M.gainN m s) (M.askB m s)) := by
  have H := Lib.hid h
  clear h
  go_enter Try.func26, Try.ntmps26
  go_wp2_with fail
  refine named ?_
  intro W hW
  have hb : Below w.heap.size w W := by rw [hW]; exact below_alloc _ _
  have x1 : Box3 W w.heap.size 29 (.int .i64 m.size) (.slice a m.doors.length c) (.slice b m.keys.length d) := by rw [hW]; exact Box3.new _ _ _ _ rfl
  clear hW
  have hzw := hb.size
  refine (ask_any W lo hi m a b c d s (H.out.below hb hz) (by omega)).mono ?_
  rintro e w1 ⟨rfl, hb1⟩
  have X1 := Lib.hid (x1.below hb1)
  have HB1 := Lib.hid (hb.trans (hb1.mono hzw))
  have hz1 := hb1.size
  have hbl := X1.out.lt
  clear hb hb1 x1
  obtain ⟨c0, c1, c2⟩ := X1.out.cells
  cases q0 : M.askB m s with
  | false =>
    have HF := Lib.hid q0
    clear q0
    go_wp2_with fail
    go_ret3
    have HV : Hid (M.gainN m s = []) := Lib.hid (M.ifAsk_no HF.out _ _)
    rw [HF.out, HV.out, M.ifAsk_no HF.out]
    exact ⟨_, _, rfl, OwnAt.nil _ _ _ _ _, Nat.le_refl _, by omega, HB1.out.alloc (by omega) _⟩
  | true =>
    have HF := Lib.hid q0
    have HVA := Lib.hid (M.ask_yes q0).1
    obtain ⟨_, s0, s64⟩ := M.ask_yes q0
    have v1 := HVA.out.size1
    have v12 := HVA.out.size12
    clear q0
    go_wp2_with fail
    refine (close_any w1 lo hi m a b c d (H.out.below HB1.out hz) (by omega) HVA.out s s0 s64).mono ?_
    rintro e w4 ⟨ra, rc, rfl, ho, ho1, ho2, hb4⟩
    have HO := Lib.hid ho
    have HB4 := Lib.hid (HB1.out.trans (hb4.mono (by omega)))
    have hz4 := hb4.size
    have HV := Lib.hid (show M.gainN m s = _ from M.ifAsk_yes HF.out _ _)
    clear ho hb4
    go_wp2_with fail
    go_ret3
    rw [HF.out, HV.out, M.ifAsk_yes HF.out]
    exact ⟨_, _, rfl, HO.out.mono (by omega) (Nat.le_refl _), ho1, ho2, HB4.out⟩
theorem specWin_lw (w : World) (lo hi : Nat) (m : M.Mz) (a b : Option Addr) (c d : Nat) (h : MzIn lo hi w m a c b d) (hz : hi ≤ w.heap.size) (_h1 : m.doors.length ≤ 1048576) (_h2 : m.keys.length ≤ 1048576) (s : Int) (_s1 : -9223372036854775808 ≤ s) (_s2 : s ≤ 9223372036854775807) :
    Calls Try.prog 32 #[.agg #[.int .i64 m.size, .slice a m.doors.length c, .slice b m.keys.length d], .int .i64 s] w (fun e w' => e = .returned (.tuple #[.int .i64 (M.ifAsk m s (M.winR m s) 0), .bool (M.askB m s && decide (0 < M.winR m s))]) ∧ Below w.heap.size w w') := by
  have H := Lib.hid h
  clear h
  go_enter Try.func32, Try.ntmps32
  go_wp2_with fail
  refine named ?_
  intro W hW
  have hb : Below w.heap.size w W := by rw [hW]; exact below_alloc _ _
  have x1 : Box3 W w.heap.size 29 (.int .i64 m.size) (.slice a m.doors.length c) (.slice b m.keys.length d) := by rw [hW]; exact Box3.new _ _ _ _ rfl
  clear hW
  have hzw := hb.size
  refine (ask_any W lo hi m a b c d s (H.out.below hb hz) (by omega)).mono ?_
  rintro e w1 ⟨rfl, hb1⟩
  have X1 := Lib.hid (x1.below hb1)
  have HB1 := Lib.hid (hb.trans (hb1.mono hzw))
  have hz1 := hb1.size
  have hbl := X1.out.lt
  clear hb hb1 x1
  obtain ⟨c0, c1, c2⟩ := X1.out.cells
  cases q0 : M.askB m s with
  | false =>
    have HF := Lib.hid q0
    clear q0
    go_wp2_with fail
    go_ret2
    rw [HF.out, M.ifAsk_no HF.out]
    exact ⟨rfl, HB1.out⟩
  | true =>
    have HF := Lib.hid q0
    have HVA := Lib.hid (M.ask_yes q0).1
    obtain ⟨_, s0, s64⟩ := M.ask_yes q0
    have v1 := HVA.out.size1
    have v12 := HVA.out.size12
    clear q0
    go_wp2_with fail
    obtain ⟨n, hn⟩ : ∃ n : Nat, m.size = (n : Int) + 1 := ⟨(m.size - 1).toNat, by omega⟩
    have hsn : m.size - 1 = (n : Int) := by omega
    have HSN := Lib.hid hsn
    have hnl : (M.nodeRounds m s (M.lastK m s + 1)).length = n + 1 := by rw [M.nodeRounds_len, hn]; omega
    have HRO := Lib.hid (fun W' (hq : Below w1.heap.size w1 W') => entered_any W' lo hi m a b c d (H.out.below (HB1.out.trans (hq.mono (by omega))) hz) (by have := hq.size; omega) HVA.out s s0 s64)
    have hat : (M.encIs (M.nodeRounds m s (M.lastK m s + 1)))[n]? = some (.int .i64 (M.winR m s)) := by
      unfold M.encIs M.nodeRounds M.winR
      rw [List.getElem?_map, List.getElem?_map, List.getElem?_range (by rw [hn]; omega), hsn]
      rfl
    have HAT := Lib.hid hat
    have hi0 : (0 : Int) ≤ m.size - 1 := by omega
    have hi1 : m.size - 1 < (n : Int) + 1 := by omega
    have hi2 : (m.size - 1).toNat = n := by omega
    have hi3 : ¬ m.size - 1 < 0 := by omega
    have hwi : IntKind.i64.wrap (m.size - 1) = m.size - 1 := IntWalk.i64_in _ (by omega)
    clear hat hn hsn
    generalize hwr : M.winR m s = r at *
    have HWR := Lib.hid hwr
    clear hwr
    go_cut [6] (fun s6 wx => s6 = .int .i64 r ∧ Below w1.heap.size w1 wx)
    case first =>
      go_region_with (first
        | (go_at_call 78; refine (HRO.out w1.drew (Below.refl w1.heap.size w1).drew).mono ?_; rintro e w5 ⟨qa, qc, rfl, hq, hq1, hq2, hb5⟩; have hb5' : Below w1.heap.size w1 w5 := (Below.refl w1.heap.size w1).drew.trans hb5; obtain ⟨c0, c1, c2⟩ := (X1.out.below hb5').cells; obtain ⟨lb, loff, hla, _, _, hlc⟩ := hq.row.at_ (k := n) (by rw [M.encIs_len, hnl]; omega); have lx := hlc _ _ HAT.out; subst hla; rw [hnl]))
      all_goals
        go_wp2_with fail
        go_meet
        exact ⟨rfl, hb5'⟩
    case rest =>
      obtain ⟨rfl, hb5⟩ := hcut
      clear hwi
      have HB5 := Lib.hid (HB1.out.trans (hb5.mono (by omega)))
      clear hb5 c0 c1 c2
      go_wp2_with fail
      go_ret2
      rw [HF.out, M.ifAsk_yes HF.out, HWR.out]
      exact ⟨by simp, HB5.out⟩
end C
end Go.Proofs.Ytoiapfdlbkncaaa
