/-
  CONTRACTS of the program's GainAtLast, canBeWon, CanWin, NodeRounds, WinRound; what lay in memory stays. No condition but that the maze reads so.
-/
import Derived.Test.YtddpjjdncmokmaaWHClose
import Derived.Test.YtddpjjdncmokmaaWFPlay
import Derived.Test.YtddpjjdncmokmaaWBDigitsI
import Derived.Deep.RegionWith
import Derived.Deep.DeepCutAuto
namespace Go.Proofs.Ytddpjjdncmokmaa
open Go.RowKit
namespace M
theorem ent_goal {m : Mz} {s : Int} (h : askB m s = true) {n : Nat} (hn : m.size - 1 = (n : Int)) : ((entTo m s (lastG m s) (n : Int) : Nat) : Int) = winR m s := by
  unfold winR
  rw [hn, ent_lastG (ask_yes h).1]
end M
namespace C
theorem OwnAt.grownOther {lo hi B size n : Nat} {w w' : World} {T e : TypeId} {a : Option Addr} {xs ys : List Value} {v : Value} (h : OwnAt lo hi w T a xs) (ho : w.ownsRow B e size v n ys) (hne : e ≠ T) (hg : w.grownBy w' v.ownBlock) : OwnAt lo hi w' T a xs := by
  rcases h with h | ⟨g, off, cur, ha, h1, h2, hh, hc⟩
  · exact .inl h
  · refine .inr ⟨g, off, cur, ha, h1, h2, (hg.block g (heap_lt hh) ?_).trans hh, hc⟩
    intro he
    rcases ho.2 with ⟨rfl, _⟩ | ⟨g', cap', cur', rfl, _, hh', _⟩
    · simp [Value.ownBlock] at he
    · have : g' = g := by simpa [Value.ownBlock] using he.symm
      subst this
      rw [hh] at hh'
      injection hh' with hh'
      injection hh' with _ ht
      exact hne ht.symm
set_option maxHeartbeats 3200000
set_option maxRecDepth 20000
theorem implWin_lw (w : World) (lo hi : Nat) (m : M.Mz) (a b : Option Addr) (c d : Nat) (h : MzIn lo hi w m a c b d) (hz : hi ≤ w.heap.size) (_h1 : m.doors.length ≤ 1048576) (_h2 : m.keys.length ≤ 1048576) (s : Int) (_s1 : -9223372036854775808 ≤ s) (_s2 : s ≤ 9223372036854775807) :
    Calls Try.prog 72 #[.agg #[.int .i64 m.size, .slice a m.doors.length c, .slice b m.keys.length d], .int .i64 s] w (fun e w' => e = .returned (.tuple #[.int .i64 (M.ifAsk m s (M.winR m s) 0), .bool (M.askB m s && decide (0 < M.winR m s))]) ∧ Below w.heap.size w w') := by
  obtain ⟨ii0, hi0, hz0, hzz1, hz2⟩ := info_parts infoI
  have H := Lib.hid h
  clear h
  go_enter Try.func72, Try.ntmps72
  go_wp2_with fail
  refine named ?_
  intro W hW
  have hb : Below w.heap.size w W := by rw [hW]; exact below_alloc _ _
  have x1 : Box3 W w.heap.size 27 (.int .i64 m.size) (.slice a m.doors.length c) (.slice b m.keys.length d) := by rw [hW]; exact Box3.new _ _ _ _ rfl
  clear hW
  have hzw := hb.size
  refine (isMaze_any W lo hi m a b c d (H.out.below hb hz) (by omega)).mono ?_
  rintro e w1 ⟨rfl, hb1⟩
  have X1 := Lib.hid (x1.below hb1)
  have HB1 := Lib.hid (hb.trans (hb1.mono hzw))
  have hz1 := hb1.size
  have hbl := X1.out.lt
  clear hb hb1 x1
  obtain ⟨c0, c1, c2⟩ := X1.out.cells
  cases qm : M.mazeB m with
  | false =>
    have HF : Hid (M.askB m s = false) := Lib.hid (by unfold M.askB; rw [qm]; rfl)
    clear qm
    go_wp2_with fail
    go_ret2
    rw [HF.out, M.ifAsk_no HF.out]
    exact ⟨rfl, HB1.out⟩
  | true =>
    have HM := Lib.hid qm
    clear qm
    go_wp2_with fail
    refine (isSet_any _ _).mono ?_
    rintro e w2 ⟨rfl, rfl⟩
    cases qs : M.setB s with
    | false =>
      have HF : Hid (M.askB m s = false) := Lib.hid (by unfold M.askB; rw [qs, Bool.and_false])
      clear qs
      go_wp2_with fail
      go_ret2
      rw [HF.out, M.ifAsk_no HF.out]
      exact ⟨rfl, HB1.out⟩
    | true =>
      have q0 : M.askB m s = true := by unfold M.askB; rw [qs, HM.out]; rfl
      have HF := Lib.hid q0
      have HVA := Lib.hid (M.ask_yes q0).1
      obtain ⟨_, s0, s64⟩ := M.ask_yes q0
      have v1 := HVA.out.size1
      have v12 := HVA.out.size12
      clear q0 qs
      go_wp2_with fail
      obtain ⟨n, hn⟩ : ∃ n : Nat, m.size = (n : Int) + 1 := ⟨(m.size - 1).toNat, by omega⟩
      have hsn : m.size - 1 = (n : Int) := by omega
      have hg65 := M.lastG_le m s
      have HEG := Lib.hid (M.ent_goal HF.out hsn)
      have HGA := Lib.hid (fun W' (hq : Below w1.heap.size w1 W') => gainsOf_any W' lo hi m a b c d (H.out.below (HB1.out.trans (hq.mono (by omega))) hz) (by have := hq.size; omega) HVA.out s s0 s64)
      have HRO := Lib.hid (fun (W' : World) (lo' hi' : Nat) ga gc (hr : RowIn lo' hi' W' ga (M.encGs (M.gainsTo m s (M.lastG m s)))) (hz' : hi' ≤ W'.heap.size) => show Calls Try.prog 107 #[.slice ga (M.lastG m s + 1) gc, .int .i64 (m.size - 1)] W' (fun e w' => e = .returned (.int .i64 (M.winR m s)) ∧ Below W'.heap.size W' w') from by
        have := roundOf_any W' lo' hi' m HVA.out s (M.lastG m s) n ga gc hr hz' (by omega) (by omega)
        rw [HEG.out, ← hsn] at this
        exact this)
      have HGO := Lib.hid (fun W' => goal_any W' m a b c d v1 v12)
      have HGL := Lib.hid (M.gainsTo_len m s (M.lastG m s))
      clear hn hsn
      generalize hwr : M.winR m s = r at *
      have HWR := Lib.hid hwr
      clear hwr
      go_cut [6] (fun s6 wx => s6 = .int .i64 r ∧ Below w1.heap.size w1 wx)
      case first =>
        go_region_with (first
          | (go_at_call 108; refine (HGA.out w1.drew (Below.refl w1.heap.size w1).drew).mono ?_; rintro e w5 ⟨ga, gc, rfl, hq, hq1, hq2, hb5⟩; have hb5' : Below w1.heap.size w1 w5 := (Below.refl w1.heap.size w1).drew.trans hb5; obtain ⟨c0, c1, c2⟩ := (X1.out.below hb5').cells; rw [HGL.out])
          | (go_at_call 108; refine (HGA.out w6 hb6').mono ?_; rintro e w5 ⟨ga, gc, rfl, hq, hq1, hq2, hb5⟩; have hb5' : Below w1.heap.size w1 w5 := hb6'.trans (hb5.mono hb6'.size); obtain ⟨c0, c1, c2⟩ := (X1.out.below hb5').cells; rw [HGL.out])
          | (go_at_call 109; refine (HGO.out w1.drew).mono ?_; rintro e w6 ⟨rfl, hb6⟩; have hb6' : Below w1.heap.size w1 w6 := (Below.refl w1.heap.size w1).drew.trans hb6; obtain ⟨c0, c1, c2⟩ := (X1.out.below hb6').cells)
          | (go_at_call 109; refine (HGO.out w5).mono ?_; rintro e w6 ⟨rfl, hb6⟩; have hq := hq.below hb6 (Nat.le_refl _); have hq9 := hb6.size; have hb6' : Below w1.heap.size w1 w6 := hb5'.trans (hb6.mono hb5'.size); obtain ⟨c0, c1, c2⟩ := (X1.out.below hb6').cells)
          | (go_at_call 107; refine (HRO.out w6 _ _ ga gc hq.row hq9).mono ?_; rintro e w7 ⟨rfl, hb7⟩; have hb7' : Below w1.heap.size w1 w7 := hb6'.trans (hb7.mono hb6'.size))
          | (go_at_call 107; refine (HRO.out w5 _ _ ga gc hq.row (Nat.le_refl _)).mono ?_; rintro e w7 ⟨rfl, hb7⟩; have hb7' : Below w1.heap.size w1 w7 := hb5'.trans (hb7.mono hb5'.size)))
        all_goals
          go_wp2_with fail
          go_meet
          exact ⟨rfl, hb7'⟩
      case rest =>
        obtain ⟨rfl, hb5⟩ := hcut
        have HB5 := Lib.hid (HB1.out.trans (hb5.mono (by omega)))
        clear hb5 c0 c1 c2
        go_wp2_with fail
        go_ret2
        rw [HF.out, M.ifAsk_yes HF.out, HWR.out]
        exact ⟨by simp, HB5.out⟩
theorem implGain_lw (w : World) (lo hi : Nat) (m : M.Mz) (a b : Option Addr) (c d : Nat) (h : MzIn lo hi w m a c b d) (hz : hi ≤ w.heap.size) (_h1 : m.doors.length ≤ 1048576) (_h2 : m.keys.length ≤ 1048576) (s : Int) (_s1 : -9223372036854775808 ≤ s) (_s2 : s ≤ 9223372036854775807) :
    Calls Try.prog 120 #[.agg #[.int .i64 m.size, .slice a m.doors.length c, .slice b m.keys.length d], .int .i64 s] w (GainPost w (M.ifAsk m s (M.finC m s) 0) (M.gainN m s) (M.askB m s)) := by
  obtain ⟨ii0, hi0, hz0, hzz1, hz2⟩ := info_parts infoI
  have H := Lib.hid h
  clear h
  go_enter Try.func120, Try.ntmps120
  go_wp2_with fail
  refine named ?_
  intro W hW
  have hb : Below w.heap.size w W := by rw [hW]; exact below_alloc _ _
  have x1 : Box3 W w.heap.size 27 (.int .i64 m.size) (.slice a m.doors.length c) (.slice b m.keys.length d) := by rw [hW]; exact Box3.new _ _ _ _ rfl
  clear hW
  have hzw := hb.size
  refine (isMaze_any W lo hi m a b c d (H.out.below hb hz) (by omega)).mono ?_
  rintro e w1 ⟨rfl, hb1⟩
  have X1 := Lib.hid (x1.below hb1)
  have HB1 := Lib.hid (hb.trans (hb1.mono hzw))
  have hz1 := hb1.size
  have hbl := X1.out.lt
  clear hb hb1 x1
  obtain ⟨c0, c1, c2⟩ := X1.out.cells
  cases qm : M.mazeB m with
  | false =>
    have HF : Hid (M.askB m s = false) := Lib.hid (by unfold M.askB; rw [qm]; rfl)
    clear qm
    go_wp2_with fail
    go_ret3
    have HV : Hid (M.gainN m s = []) := Lib.hid (M.ifAsk_no HF.out _ _)
    rw [HF.out, HV.out, M.ifAsk_no HF.out]
    exact ⟨_, _, rfl, OwnAt.nil _ _ _ _ _, Nat.le_refl _, by omega, HB1.out.alloc (by omega) _⟩
  | true =>
    have HM := Lib.hid qm
    clear qm
    go_wp2_with fail
    refine (isSet_any _ _).mono ?_
    rintro e w2 ⟨rfl, rfl⟩
    cases qs : M.setB s with
    | false =>
      have HF : Hid (M.askB m s = false) := Lib.hid (by unfold M.askB; rw [qs, Bool.and_false])
      clear qs
      go_wp2_with fail
      go_ret3
      have HV : Hid (M.gainN m s = []) := Lib.hid (M.ifAsk_no HF.out _ _)
      rw [HF.out, HV.out, M.ifAsk_no HF.out]
      exact ⟨_, _, rfl, OwnAt.nil _ _ _ _ _, Nat.le_refl _, by omega, HB1.out.alloc (by omega) _⟩
    | true =>
      have q0 : M.askB m s = true := by unfold M.askB; rw [qs, HM.out]; rfl
      have HF := Lib.hid q0
      have HVA := Lib.hid (M.ask_yes q0).1
      obtain ⟨_, s0, s64⟩ := M.ask_yes q0
      have v1 := HVA.out.size1
      have v12 := HVA.out.size12
      clear q0 qs
      go_wp2_with fail
      refine (gainsOf_any w1 lo hi m a b c d (H.out.below HB1.out hz) (by omega) HVA.out s s0 s64).mono ?_
      rintro e w4 ⟨ga, gc, rfl, ho, ho1, ho2, hb4⟩
      have hg65 := M.lastG_le m s
      have hgl := M.gainsTo_len m s (M.lastG m s)
      rw [hgl] at ho1 ⊢
      have hkl : M.lastG m s < (M.gainsTo m s (M.lastG m s)).length := by omega
      obtain ⟨gb, goff, hga, hgb1, hgb2, hgcc⟩ := ho.row.at_ (k := M.lastG m s * 2) (by rw [M.encGs_len]; omega)
      have g0 := hgcc _ _ (M.encGs_at0 hkl)
      have g1 : w4.cell? ⟨gb, goff + M.lastG m s * 2 + 1, none⟩ = _ := hgcc _ _ (M.encGs_at1 hkl)
      rw [M.gainsTo_at] at g0 g1
      have e1 : (M.pairAt m s (M.lastG m s)).1 = ((M.gn m s (M.lastG m s) : Nat) : Int) := rfl
      have e2 : (M.pairAt m s (M.lastG m s)).2 = M.finC m s := M.it_lastG HVA.out ⟨s0, s64⟩
      rw [e1] at g0
      rw [e2] at g1
      subst hga
      have hgn := M.gn_lt HVA.out s (M.lastG m s)
      have HDG := Lib.hid (M.gn_lastG HVA.out ⟨s0, s64⟩)
      have HB4 := Lib.hid (HB1.out.trans (hb4.mono (by omega)))
      have hz4 := hb4.size
      have HV := Lib.hid (show M.gainN m s = _ from M.ifAsk_yes HF.out _ _)
      clear ho hb4 c0 c1 c2 e1 e2 hgcc hkl hgl
      generalize M.gn m s (M.lastG m s) = n at *
      generalize M.lastG m s = G at *
      generalize hfc : M.finC m s = fc at *
      clear hfc
      go_wp2_with fail
      refine wp_named ?_
      intro W5 hW5
      have hb5 : Below w4.heap.size w4 W5 := by rw [hW5]; exact below_alloc _ _
      have n5 : Box2 W5 w4.heap.size 129 (.int .i64 (n : Nat)) (.int .i64 fc) := by rw [hW5]; exact Box2.new _ _ _ rfl
      clear hW5 g0 g1
      have hz5 := hb5.size
      have HB5 := Lib.hid (HB4.out.trans (hb5.mono (by omega)))
      have N5 := Lib.hid n5
      obtain ⟨u0, u1⟩ := n5.cells
      clear hb5 n5
      go_cut [4, 5, 6] (fun s4 s5 s6 wx => ∃ ra rc, s4 = .int .i64 fc ∧ s5 = .slice ra (M.digsTo n 12).length rc ∧ s6 = .bool true ∧ OwnAt W5.heap.size wx.heap.size wx 3 ra (M.encIs (M.digsTo n 12)) ∧ (M.digsTo n 12).length ≤ rc ∧ rc ≤ 9223372036854775807 ∧ Below W5.heap.size W5 wx)
      case first =>
        go_region_with (first
          | (go_at_call 58; refine (digits_any n hgn W5.drew).mono ?_; rintro e w6 ⟨ra, rc, rfl, hq, hq1, hq2, hb6⟩; have hb6' : Below W5.heap.size W5 w6 := (Below.refl W5.heap.size W5).drew.trans hb6; obtain ⟨u0, u1⟩ := (N5.out.below hb6').cells))
        all_goals
          go_wp2_with fail
          go_meet
          exact ⟨ra, rc, rfl, rfl, rfl, hq, hq1, hq2, hb6'⟩
      case rest =>
        obtain ⟨ra, rc, rfl, rfl, rfl, hq, hq1, hq2, hb6⟩ := hcut
        have HQ := Lib.hid hq
        have hz6 := hb6.size
        have HB6 := Lib.hid (HB5.out.trans (hb6.mono (by omega)))
        clear hq hb6 u0 u1
        go_wp2_with fail
        go_ret3
        rw [HF.out, HV.out, M.ifAsk_yes HF.out, ← HDG.out]
        exact ⟨_, _, rfl, HQ.out.mono (by omega) (Nat.le_refl _), hq1, hq2, HB6.out⟩
theorem canBeWon_any (w : World) (lo hi : Nat) (m : M.Mz) (a b : Option Addr) (c d : Nat) (h : MzIn lo hi w m a c b d) (hz : hi ≤ w.heap.size) (h1 : m.doors.length ≤ 1048576) (h2 : m.keys.length ≤ 1048576) (s : Int) (s1 : -9223372036854775808 ≤ s) (s2 : s ≤ 9223372036854775807) :
    Calls Try.prog 106 #[.agg #[.int .i64 m.size, .slice a m.doors.length c, .slice b m.keys.length d], .int .i64 s] w (BoolPost w (M.askB m s && M.canB m s)) := by
  have H := Lib.hid h
  have hcase : ∀ q, M.askB m s = q → (q && decide (0 < M.winR m s)) = (q && M.canB m s) := fun q hq => by
    cases q with
    | false => rfl
    | true => rw [M.win_can hq]
  have HCS := Lib.hid (hcase _ rfl)
  clear h hcase
  go_enter Try.func106, Try.ntmps106
  go_wp2_with fail
  refine named ?_
  intro W hW
  have hb : Below w.heap.size w W := by rw [hW]; exact below_alloc _ _
  clear hW
  refine (implWin_lw W lo hi m a b c d (H.out.below hb hz) (Nat.le_trans hz hb.size) h1 h2 s s1 s2).mono ?_
  rintro e w1 ⟨rfl, hb1⟩
  have HB := Lib.hid (hb.trans (hb1.mono hb.size))
  clear hb hb1
  rw [HCS.out]
  go_wp2_with fail
  go_ret
  exact ⟨by simp, HB.out⟩
theorem implCan_lw (w : World) (lo hi : Nat) (m : M.Mz) (a b : Option Addr) (c d : Nat) (h : MzIn lo hi w m a c b d) (hz : hi ≤ w.heap.size) (_h1 : m.doors.length ≤ 1048576) (_h2 : m.keys.length ≤ 1048576) (s : Int) (_s1 : -9223372036854775808 ≤ s) (_s2 : s ≤ 9223372036854775807) :
    Calls Try.prog 71 #[.agg #[.int .i64 m.size, .slice a m.doors.length c, .slice b m.keys.length d], .int .i64 s] w (BoolsPost w (M.ifAsk m s (M.canB m s) false) (M.askB m s)) := by
  obtain ⟨ii0, hi0, hz0, hzz1, hz2⟩ := info_parts infoI
  have H := Lib.hid h
  clear h
  go_enter Try.func71, Try.ntmps71
  go_wp2_with fail
  refine named ?_
  intro W hW
  have hb : Below w.heap.size w W := by rw [hW]; exact below_alloc _ _
  have x1 : Box3 W w.heap.size 27 (.int .i64 m.size) (.slice a m.doors.length c) (.slice b m.keys.length d) := by rw [hW]; exact Box3.new _ _ _ _ rfl
  clear hW
  have hzw := hb.size
  refine (isMaze_any W lo hi m a b c d (H.out.below hb hz) (by omega)).mono ?_
  rintro e w1 ⟨rfl, hb1⟩
  have X1 := Lib.hid (x1.below hb1)
  have HB1 := Lib.hid (hb.trans (hb1.mono hzw))
  have hz1 := hb1.size
  have hbl := X1.out.lt
  clear hb hb1 x1
  obtain ⟨c0, c1, c2⟩ := X1.out.cells
  cases qm : M.mazeB m with
  | false =>
    have HF : Hid (M.askB m s = false) := Lib.hid (by unfold M.askB; rw [qm]; rfl)
    clear qm
    go_wp2_with fail
    go_ret2
    rw [HF.out, M.ifAsk_no HF.out]
    exact ⟨rfl, HB1.out⟩
  | true =>
    have HM := Lib.hid qm
    clear qm
    go_wp2_with fail
    refine (isSet_any _ _).mono ?_
    rintro e w2 ⟨rfl, rfl⟩
    cases qs : M.setB s with
    | false =>
      have HF : Hid (M.askB m s = false) := Lib.hid (by unfold M.askB; rw [qs, Bool.and_false])
      clear qs
      go_wp2_with fail
      go_ret2
      rw [HF.out, M.ifAsk_no HF.out]
      exact ⟨rfl, HB1.out⟩
    | true =>
      have q0 : M.askB m s = true := by unfold M.askB; rw [qs, HM.out]; rfl
      have HF := Lib.hid q0
      have HVA := Lib.hid (M.ask_yes q0).1
      obtain ⟨_, s0, s64⟩ := M.ask_yes q0
      have v1 := HVA.out.size1
      have v12 := HVA.out.size12
      clear q0 qs
      go_wp2_with fail
      refine (canBeWon_any w1 lo hi m a b c d (H.out.below HB1.out hz) (by omega) _h1 _h2 s _s1 _s2).mono ?_
      rintro e w4 ⟨rfl, hb4⟩
      have HB4 := Lib.hid (HB1.out.trans (hb4.mono (by omega)))
      rw [HF.out, Bool.true_and]
      go_wp2_with fail
      go_ret2
      rw [HF.out, M.ifAsk_yes HF.out]
      exact ⟨rfl, HB4.out⟩
end C
end Go.Proofs.Ytddpjjdncmokmaa
