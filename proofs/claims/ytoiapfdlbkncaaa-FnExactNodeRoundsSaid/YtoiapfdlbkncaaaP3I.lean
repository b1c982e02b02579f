/-
  CONTRACTS of the program's GainAtLast, canBeWon, CanWin, NodeRounds, WinRound; what lay in memory stays. No condition but that the maze reads so.
-/
import Derived.Test.YtoiapfdlbkncaaaP3S
import Derived.Test.YtoiapfdlbkncaaaRoundOf
import Derived.Test.YtoiapfdlbkncaaaDigitsI
import Derived.Deep.RegionWith
import Derived.Deep.DeepCutAuto
namespace Go.Proofs.Ytoiapfdlbkncaaa
open Go.RowKit
namespace M
theorem ent_goal {m : Mz} {s : Int} (h : askB m s = true) {n : Nat} (hn : m.size - 1 = (n : Int)) : ((entTo m s (lastG m s) (n : Int) : Nat) : Int) = winR m s := by
  unfold winR
  rw [hn, ent_lastG (ask_yes h).1]
end M
namespace C
theorem OwnAt.grownOther {lo hi B size n : Nat} {w w' : World} {T e : TypeId} {a : Option Addr} {xs ys : List Value} {v : Value} (h : OwnAt lo hi w T a xs) (ho : w.ownsRow B e size v n ys) (hne : e ≠ T) (hg : w.grownBy w' v.ownBlock) : OwnAt lo hi w' T a xs := by
  rcases h with h | ⟨g, off, cur, ha, h1, h2, hh, hc⟩
  · exact .inl h
  · refine .inr ⟨g, off, cur, ha, h1, h2, (hg.block g (heap_lt hh) ?_).trans hh, hc⟩
    intro he
    rcases ho.2 with ⟨rfl, _⟩ | ⟨g', cap', cur', rfl, _, hh', _⟩
    · simp [Value.ownBlock] at he
    · have : g' = g := by simpa [Value.ownBlock] using he.symm
      subst this
      rw [hh] at hh'
      injection hh' with hh'
      injection hh' with _ ht
      exact hne ht.symm
set_option maxHeartbeats 3200000
set_option maxRecDepth 20000
theorem implEnt_lw (w : World) (lo hi : Nat) (m : M.Mz) (a b : Option Addr) (c d : Nat) (h : MzIn lo hi w m a c b d) (hz : hi ≤ w.heap.size) (_h1 : m.doors.length ≤ 1048576) (_h2 : m.keys.length ≤ 1048576) (s : Int) (_s1 : -9223372036854775808 ≤ s) (_s2 : s ≤ 9223372036854775807) :
    Calls Try.prog 31 #[.agg #[.int .i64 m.size, .slice a m.doors.length c, .slice b m.keys.length d], .int .i64 s] w (IntsOkPost w (M.entV m s) (M.askB m s)) := by
  obtain ⟨ii0, hi0, hz0, hzz1, hz2⟩ := info_parts infoI
  have H := Lib.hid h
  clear h
  go_enter Try.func31, Try.ntmps31
  go_wp2_with fail
  refine named ?_
  intro W hW
  have hb : Below w.heap.size w W := by rw [hW]; exact below_alloc _ _
  have x1 : Box3 W w.heap.size 29 (.int .i64 m.size) (.slice a m.doors.length c) (.slice b m.keys.length d) := by rw [hW]; exact Box3.new _ _ _ _ rfl
  clear hW
  have hzw := hb.size
  refine (isMaze_any W lo hi m a b c d (H.out.below hb hz) (by omega)).mono ?_
  rintro e w1 ⟨rfl, hb1⟩
  have X1 := Lib.hid (x1.below hb1)
  have HB1 := Lib.hid (hb.trans (hb1.mono hzw))
  have hz1 := hb1.size
  have hbl := X1.out.lt
  clear hb hb1 x1
  obtain ⟨c0, c1, c2⟩ := X1.out.cells
  cases qm : M.mazeB m with
  | false =>
    have HF : Hid (M.askB m s = false) := Lib.hid (by unfold M.askB; rw [qm]; rfl)
    clear qm
    go_wp2_with fail
    go_ret2
    have HV : Hid (M.entV m s = []) := Lib.hid (M.ifAsk_no HF.out _ _)
    rw [HF.out, HV.out]
    exact intsOk_end (l := []) (ownsRow_empty _ _ _ _ (by omega)) (HB1.out.alloc (by omega) _)
  | true =>
    have HM := Lib.hid qm
    clear qm
    go_wp2_with fail
    refine (isSet_any _ _).mono ?_
    rintro e w2 ⟨rfl, rfl⟩
    cases qs : M.setB s with
    | false =>
      have HF : Hid (M.askB m s = false) := Lib.hid (by unfold M.askB; rw [qs, Bool.and_false])
      clear qs
      go_wp2_with fail
      go_ret2
      have HV : Hid (M.entV m s = []) := Lib.hid (M.ifAsk_no HF.out _ _)
      rw [HF.out, HV.out]
      exact intsOk_end (l := []) (ownsRow_empty _ _ _ _ (by omega)) (HB1.out.alloc (by omega) _)
    | true =>
      have q0 : M.askB m s = true := by unfold M.askB; rw [qs, HM.out]; rfl
      have HF := Lib.hid q0
      have HVA := Lib.hid (M.ask_yes q0).1
      obtain ⟨_, s0, s64⟩ := M.ask_yes q0
      have v1 := HVA.out.size1
      have v12 := HVA.out.size12
      clear q0 qs
      go_wp2_with fail
      refine (gainsOf_any w1 lo hi m a b c d (H.out.below HB1.out hz) (by omega) HVA.out s s0 s64).mono ?_
      rintro e w4 ⟨ga, gc, rfl, ho, ho1, ho2, hb4⟩
      rw [M.gainsTo_len] at ho1 ⊢
      have HG := Lib.hid ho
      have X4 := Lib.hid (X1.out.below hb4)
      have HB4 := Lib.hid (HB1.out.trans (hb4.mono (by omega)))
      have hz4 := hb4.size
      have hbl4 := X4.out.lt
      have hg65 := M.lastG_le m s
      have HEQ := Lib.hid (fun x => M.ent_lastG HVA.out s x)
      obtain ⟨n, hn⟩ : ∃ n : Nat, m.size = (n : Int) := ⟨m.size.toNat, by omega⟩
      have hn12 : n ≤ 12 := by omega
      have HNS := Lib.hid hn
      clear ho hb4 c0 c1 c2 hn
      generalize hG : M.lastG m s = G at *
      have HGE := Lib.hid hG
      clear hG
      obtain ⟨c0, c1, c2⟩ := X4.out.cells
      have C0 := (below_alloc w4 (.cells #[] 3)).cell (p := ⟨w.heap.size, 0, none⟩) hbl4
      rw [c0] at C0
      have hlt : ((n : Nat) : Int) = m.size := HNS.out.symm
      obtain ⟨R, hR⟩ : ∃ R : List Int, R = (List.range n).map fun x : Nat => ((M.entTo m s G (x : Int) : Nat) : Int) := ⟨_, rfl⟩
      have hRl : R.length = n := by rw [hR]; simp
      have HRA := Lib.hid (show ∀ (k : Nat) (hk : k < R.length), R[k] = ((M.entTo m s G (k : Int) : Nat) : Int) from fun k hk => by subst hR; simp)
      have HRE : Hid (M.entV m s = R) := Lib.hid (by
        rw [show M.entV m s = _ from M.ifAsk_yes HF.out _ _, hR]
        unfold M.nodeRounds
        rw [HNS.out, Int.toNat_natCast]
        refine List.map_congr_left fun x _ => ?_
        rw [← HEQ.out])
      clear hR
      go_wp2_with fail
      refine wp_named ?_
      intro W5 hW5
      have hb5 : Below w4.heap.size w4 W5 := by rw [hW5]; exact below_alloc _ _
      have o5 : W5.ownsRow w.heap.size 3 1 (.slice (some ⟨w4.heap.size, 0, none⟩) 0 0) 0 (M.encIs (R.take 0)) := by rw [hW5]; exact ownsRow_empty _ _ _ _ (by omega)
      have ST := Lib.hid (show W5.ownsRow w.heap.size 3 1 (.slice (some ⟨w4.heap.size, 0, none⟩) 0 0) 0 (M.encIs (R.take 0)) ∧ OwnAt w1.heap.size w4.heap.size W5 65 ga (M.encGs (M.gainsTo m s G)) ∧ Below w.heap.size w W5 ∧ w4.heap.size ≤ W5.heap.size from ⟨o5, HG.out.below hb5 (Nat.le_refl _), HB4.out.trans (hb5.mono HB4.out.size), hb5.size⟩)
      clear hW5 hb5 o5 c0 c1 c2 C0
      go_loopw [7, 8, 24] (fun v7 _ v24 wr => ∃ (k : Nat), k ≤ R.length ∧ v24 = .int .i64 k ∧ wr.ownsRow w.heap.size 3 1 v7 k (M.encIs (R.take k)) ∧ OwnAt w1.heap.size w4.heap.size wr 65 ga (M.encGs (M.gainsTo m s G)) ∧ Below w.heap.size w wr ∧ w4.heap.size ≤ wr.heap.size) (fun _ _ v24 _ => R.length - (intOf v24).toNat)
      case atStart => exact ⟨0, Nat.zero_le _, rfl, ST.out.1, ST.out.2.1, ST.out.2.2.1, ST.out.2.2.2⟩
      case round => 
        obtain ⟨k, hk, rfl, hso, hgo, hlow, hsz⟩ := hrel
        obtain ⟨la, lc, hv, hl1, hl2, _⟩ := own_slice hso
        subst hv
        have SO := Lib.hid hso
        have GO := Lib.hid hgo
        have LO := Lib.hid hlow
        have hzr := hlow.size
        clear hso hgo hlow
        by_cases hkl : k < R.length
        · have hkx := HRA.out k hkl
          have hks : (k : Int) < m.size := by omega
          have htk : Hid (M.encIs (R.take (k + 1)) = M.encIs (R.take k) ++ [.int .i64 R[k]]) := Lib.hid (M.takeI_snoc hkl)
          have CR := Lib.hid (roundOf_any wr _ _ m HVA.out s G k ga gc GO.out.row hsz (by omega) (by omega))
          rw [← hkx] at CR
          generalize R[k] = u at *
          clear hkx
          go_wp2_with fail
          refine CR.out.mono ?_
          rintro e w6 ⟨rfl, hb6⟩
          have SO6 := Lib.hid (own_below SO.out hb6)
          have GO6 := Lib.hid (GO.out.below hb6 hsz)
          have LO6 := Lib.hid (LO.out.trans (hb6.mono hzr))
          have hz6 := hb6.size
          clear hb6
          go_wp2_with (at_builtin; refine wpList_append_own _ rfl _ _ 23 rfl w.heap.size 3 ii0 (.int .i64 0) 1 8 Try.underlying23 hi0 hz0 hzz1 hz2 rfl (by decide) _ _ _ rfl (SO6.out.alloc _) ⟨w6.heap.size, 0, none⟩ 1 1 [.int .i64 u] rfl rfl (cell_one_new _ _ _) (fun x hx => by simp at hx; subst hx; rfl) (by unfold maxLen; omega) (by omega) (by simp; omega) ?_; intro v' w3 hown' hgrow3 hnil3)
          go_roundw
          case rel =>
            refine ⟨k + 1, by omega, by go_num, ?_, (GO6.out.below (below_alloc _ _) (by omega)).grownOther (SO6.out.alloc _) (by decide) hgrow3, (LO6.out.alloc (by omega) _).grown hgrow3 (by simp; omega) (own_base SO6.out), by have := hgrow3.size; simp at this; omega⟩
            rw [htk.out]
            exact hown'
          case measure => simp [intOf]; omega
        · obtain rfl : k = R.length := by omega
          have hks : ¬ (R.length : Int) < m.size := by omega
          have hfin := SO.out
          rw [List.take_of_length_le (Nat.le_refl _)] at hfin
          have HFI := Lib.hid hfin
          clear hfin
          go_wp2_with fail
          go_ret2
          rw [HF.out, HRE.out]
          have hend := intsOk_end (ok := true) HFI.out LO.out
          rw [hRl] at hend
          exact hend
theorem implWin_lw (w : World) (lo hi : Nat) (m : M.Mz) (a b : Option Addr) (c d : Nat) (h : MzIn lo hi w m a c b d) (hz : hi ≤ w.heap.size) (_h1 : m.doors.length ≤ 1048576) (_h2 : m.keys.length ≤ 1048576) (s : Int) (_s1 : -9223372036854775808 ≤ s) (_s2 : s ≤ 9223372036854775807) :
    Calls Try.prog 33 #[.agg #[.int .i64 m.size, .slice a m.doors.length c, .slice b m.keys.length d], .int .i64 s] w (fun e w' => e = .returned (.tuple #[.int .i64 (M.ifAsk m s (M.winR m s) 0), .bool (M.askB m s && decide (0 < M.winR m s))]) ∧ Below w.heap.size w w') := by
  obtain ⟨ii0, hi0, hz0, hzz1, hz2⟩ := info_parts infoI
  have H := Lib.hid h
  clear h
  go_enter Try.func33, Try.ntmps33
  go_wp2_with fail
  refine named ?_
  intro W hW
  have hb : Below w.heap.size w W := by rw [hW]; exact below_alloc _ _
  have x1 : Box3 W w.heap.size 29 (.int .i64 m.size) (.slice a m.doors.length c) (.slice b m.keys.length d) := by rw [hW]; exact Box3.new _ _ _ _ rfl
  clear hW
  have hzw := hb.size
  refine (isMaze_any W lo hi m a b c d (H.out.below hb hz) (by omega)).mono ?_
  rintro e w1 ⟨rfl, hb1⟩
  have X1 := Lib.hid (x1.below hb1)
  have HB1 := Lib.hid (hb.trans (hb1.mono hzw))
  have hz1 := hb1.size
  have hbl := X1.out.lt
  clear hb hb1 x1
  obtain ⟨c0, c1, c2⟩ := X1.out.cells
  cases qm : M.mazeB m with
  | false =>
    have HF : Hid (M.askB m s = false) := Lib.hid (by unfold M.askB; rw [qm]; rfl)
    clear qm
    go_wp2_with fail
    go_ret2
    rw [HF.out, M.ifAsk_no HF.out]
    exact ⟨rfl, HB1.out⟩
  | true =>
    have HM := Lib.hid qm
    clear qm
    go_wp2_with fail
    refine (isSet_any _ _).mono ?_
    rintro e w2 ⟨rfl, rfl⟩
    cases qs : M.setB s with
    | false =>
      have HF : Hid (M.askB m s = false) := Lib.hid (by unfold M.askB; rw [qs, Bool.and_false])
      clear qs
      go_wp2_with fail
      go_ret2
      rw [HF.out, M.ifAsk_no HF.out]
      exact ⟨rfl, HB1.out⟩
    | true =>
      have q0 : M.askB m s = true := by unfold M.askB; rw [qs, HM.out]; rfl
      have HF := Lib.hid q0
      have HVA := Lib.hid (M.ask_yes q0).1
      obtain ⟨_, s0, s64⟩ := M.ask_yes q0
      have v1 := HVA.out.size1
      have v12 := HVA.out.size12
      clear q0 qs
      go_wp2_with fail
      obtain ⟨n, hn⟩ : ∃ n : Nat, m.size = (n : Int) + 1 := ⟨(m.size - 1).toNat, by omega⟩
      have hsn : m.size - 1 = (n : Int) := by omega
      have hg65 := M.lastG_le m s
      have HEG := Lib.hid (M.ent_goal HF.out hsn)
      have HGA := Lib.hid (fun W' (hq : Below w1.heap.size w1 W') => gainsOf_any W' lo hi m a b c d (H.out.below (HB1.out.trans (hq.mono (by omega))) hz) (by have := hq.size; omega) HVA.out s s0 s64)
      have HRO := Lib.hid (fun (W' : World) (lo' hi' : Nat) ga gc (hr : RowIn lo' hi' W' ga (M.encGs (M.gainsTo m s (M.lastG m s)))) (hz' : hi' ≤ W'.heap.size) => show Calls Try.prog 79 #[.slice ga (M.lastG m s + 1) gc, .int .i64 (m.size - 1)] W' (fun e w' => e = .returned (.int .i64 (M.winR m s)) ∧ Below W'.heap.size W' w') from by
        have := roundOf_any W' lo' hi' m HVA.out s (M.lastG m s) n ga gc hr hz' (by omega) (by omega)
        rw [HEG.out, ← hsn] at this
        exact this)
      have HGO := Lib.hid (fun W' => goal_any W' m a b c d v1 v12)
      have HGL := Lib.hid (M.gainsTo_len m s (M.lastG m s))
      clear hn hsn
      generalize hwr : M.winR m s = r at *
      have HWR := Lib.hid hwr
      clear hwr
      go_cut [6] (fun s6 wx => s6 = .int .i64 r ∧ Below w1.heap.size w1 wx)
      case first =>
        go_region_with (first
          | (go_at_call 73; refine (HGA.out w1.drew (Below.refl w1.heap.size w1).drew).mono ?_; rintro e w5 ⟨ga, gc, rfl, hq, hq1, hq2, hb5⟩; have hb5' : Below w1.heap.size w1 w5 := (Below.refl w1.heap.size w1).drew.trans hb5; obtain ⟨c0, c1, c2⟩ := (X1.out.below hb5').cells; rw [HGL.out])
          | (go_at_call 73; refine (HGA.out w6 hb6').mono ?_; rintro e w5 ⟨ga, gc, rfl, hq, hq1, hq2, hb5⟩; have hb5' : Below w1.heap.size w1 w5 := hb6'.trans (hb5.mono hb6'.size); obtain ⟨c0, c1, c2⟩ := (X1.out.below hb5').cells; rw [HGL.out])
          | (go_at_call 80; refine (HGO.out w1.drew).mono ?_; rintro e w6 ⟨rfl, hb6⟩; have hb6' : Below w1.heap.size w1 w6 := (Below.refl w1.heap.size w1).drew.trans hb6; obtain ⟨c0, c1, c2⟩ := (X1.out.below hb6').cells)
          | (go_at_call 80; refine (HGO.out w5).mono ?_; rintro e w6 ⟨rfl, hb6⟩; have hq := hq.below hb6 (Nat.le_refl _); have hq9 := hb6.size; have hb6' : Below w1.heap.size w1 w6 := hb5'.trans (hb6.mono hb5'.size); obtain ⟨c0, c1, c2⟩ := (X1.out.below hb6').cells)
          | (go_at_call 79; refine (HRO.out w6 _ _ ga gc hq.row hq9).mono ?_; rintro e w7 ⟨rfl, hb7⟩; have hb7' : Below w1.heap.size w1 w7 := hb6'.trans (hb7.mono hb6'.size))
          | (go_at_call 79; refine (HRO.out w5 _ _ ga gc hq.row (Nat.le_refl _)).mono ?_; rintro e w7 ⟨rfl, hb7⟩; have hb7' : Below w1.heap.size w1 w7 := hb5'.trans (hb7.mono hb5'.size)))
        all_goals
          go_wp2_with fail
          go_meet
          exact ⟨rfl, hb7'⟩
      case rest =>
        obtain ⟨rfl, hb5⟩ := hcut
        have HB5 := Lib.hid (HB1.out.trans (hb5.mono (by omega)))
        clear hb5 c0 c1 c2
        go_wp2_with fail
        go_ret2
        rw [HF.out, M.ifAsk_yes HF.out, HWR.out]
        exact ⟨by simp, HB5.out⟩
theorem implGain_lw (w : World) (lo hi : Nat) (m : M.Mz) (a b : Option Addr) (c d : Nat) (h : MzIn lo hi w m a c b d) (hz : hi ≤ w.heap.size) (_h1 : m.doors.length ≤ 1048576) (_h2 : m.keys.length ≤ 1048576) (s : Int) (_s1 : -9223372036854775808 ≤ s) (_s2 : s ≤ 9223372036854775807) :
    Calls Try.prog 27 #[.agg #[.int .i64 m.size, .slice a m.doors.length c, .slice b m.keys.length d], .int .i64 s] w (GainPost w (M.ifAsk m s (M.finC m s) 0) (M.gainN m s) (M.askB m s)) := by
  obtain ⟨ii0, hi0, hz0, hzz1, hz2⟩ := info_parts infoI
  have H := Lib.hid h
  clear h
  go_enter Try.func27, Try.ntmps27
  go_wp2_with fail
  refine named ?_
  intro W hW
  have hb : Below w.heap.size w W := by rw [hW]; exact below_alloc _ _
  have x1 : Box3 W w.heap.size 29 (.int .i64 m.size) (.slice a m.doors.length c) (.slice b m.keys.length d) := by rw [hW]; exact Box3.new _ _ _ _ rfl
  clear hW
  have hzw := hb.size
  refine (isMaze_any W lo hi m a b c d (H.out.below hb hz) (by omega)).mono ?_
  rintro e w1 ⟨rfl, hb1⟩
  have X1 := Lib.hid (x1.below hb1)
  have HB1 := Lib.hid (hb.trans (hb1.mono hzw))
  have hz1 := hb1.size
  have hbl := X1.out.lt
  clear hb hb1 x1
  obtain ⟨c0, c1, c2⟩ := X1.out.cells
  cases qm : M.mazeB m with
  | false =>
    have HF : Hid (M.askB m s = false) := Lib.hid (by unfold M.askB; rw [qm]; rfl)
    clear qm
    go_wp2_with fail
    go_ret3
    have HV : Hid (M.gainN m s = []) := Lib.hid (M.ifAsk_no HF.out _ _)
    rw [HF.out, HV.out, M.ifAsk_no HF.out]
    exact ⟨_, _, rfl, OwnAt.nil _ _ _ _ _, Nat.le_refl _, by omega, HB1.out.alloc (by omega) _⟩
  | true =>
    have HM := Lib.hid qm
    clear qm
    go_wp2_with fail
    refine (isSet_any _ _).mono ?_
    rintro e w2 ⟨rfl, rfl⟩
    cases qs : M.setB s with
    | false =>
      have HF : Hid (M.askB m s = false) := Lib.hid (by unfold M.askB; rw [qs, Bool.and_false])
      clear qs
      go_wp2_with fail
      go_ret3
      have HV : Hid (M.gainN m s = []) := Lib.hid (M.ifAsk_no HF.out _ _)
      rw [HF.out, HV.out, M.ifAsk_no HF.out]
      exact ⟨_, _, rfl, OwnAt.nil _ _ _ _ _, Nat.le_refl _, by omega, HB1.out.alloc (by omega) _⟩
    | true =>
      have q0 : M.askB m s = true := by unfold M.askB; rw [qs, HM.out]; rfl
      have HF := Lib.hid q0
      have HVA := Lib.hid (M.ask_yes q0).1
      obtain ⟨_, s0, s64⟩ := M.ask_yes q0
      have v1 := HVA.out.size1
      have v12 := HVA.out.size12
      clear q0 qs
      go_wp2_with fail
      refine (gainsOf_any w1 lo hi m a b c d (H.out.below HB1.out hz) (by omega) HVA.out s s0 s64).mono ?_
      rintro e w4 ⟨ga, gc, rfl, ho, ho1, ho2, hb4⟩
      have hg65 := M.lastG_le m s
      have hgl := M.gainsTo_len m s (M.lastG m s)
      rw [hgl] at ho1 ⊢
      have hkl : M.lastG m s < (M.gainsTo m s (M.lastG m s)).length := by omega
      obtain ⟨gb, goff, hga, hgb1, hgb2, hgcc⟩ := ho.row.at_ (k := M.lastG m s * 2) (by rw [M.encGs_len]; omega)
      have g0 := hgcc _ _ (M.encGs_at0 hkl)
      have g1 : w4.cell? ⟨gb, goff + M.lastG m s * 2 + 1, none⟩ = _ := hgcc _ _ (M.encGs_at1 hkl)
      rw [M.gainsTo_at] at g0 g1
      have e1 : (M.pairAt m s (M.lastG m s)).1 = ((M.gn m s (M.lastG m s) : Nat) : Int) := rfl
      have e2 : (M.pairAt m s (M.lastG m s)).2 = M.finC m s := M.it_lastG HVA.out ⟨s0, s64⟩
      rw [e1] at g0
      rw [e2] at g1
      subst hga
      have hgn := M.gn_lt HVA.out s (M.lastG m s)
      have HDG := Lib.hid (M.gn_lastG HVA.out ⟨s0, s64⟩)
      have HB4 := Lib.hid (HB1.out.trans (hb4.mono (by omega)))
      have hz4 := hb4.size
      have HV := Lib.hid (show M.gainN m s = _ from M.ifAsk_yes HF.out _ _)
      clear ho hb4 c0 c1 c2 e1 e2 hgcc hkl hgl
      generalize M.gn m s (M.lastG m s) = n at *
      generalize M.lastG m s = G at *
      generalize hfc : M.finC m s = fc at *
      clear hfc
      go_wp2_with fail
      refine wp_named ?_
      intro W5 hW5
      have hb5 : Below w4.heap.size w4 W5 := by rw [hW5]; exact below_alloc _ _
      have n5 : Box2 W5 w4.heap.size 65 (.int .i64 (n : Nat)) (.int .i64 fc) := by rw [hW5]; exact Box2.new _ _ _ rfl
      clear hW5 g0 g1
      have hz5 := hb5.size
      have HB5 := Lib.hid (HB4.out.trans (hb5.mono (by omega)))
      have N5 := Lib.hid n5
      obtain ⟨u0, u1⟩ := n5.cells
      clear hb5 n5
      go_cut [4, 5, 6] (fun s4 s5 s6 wx => ∃ ra rc, s4 = .int .i64 fc ∧ s5 = .slice ra (M.digsTo n 12).length rc ∧ s6 = .bool true ∧ OwnAt W5.heap.size wx.heap.size wx 3 ra (M.encIs (M.digsTo n 12)) ∧ (M.digsTo n 12).length ≤ rc ∧ rc ≤ 9223372036854775807 ∧ Below W5.heap.size W5 wx)
      case first =>
        go_region_with (first
          | (go_at_call 67; refine (digits_any n hgn W5.drew).mono ?_; rintro e w6 ⟨ra, rc, rfl, hq, hq1, hq2, hb6⟩; have hb6' : Below W5.heap.size W5 w6 := (Below.refl W5.heap.size W5).drew.trans hb6; obtain ⟨u0, u1⟩ := (N5.out.below hb6').cells))
        all_goals
          go_wp2_with fail
          go_meet
          exact ⟨ra, rc, rfl, rfl, rfl, hq, hq1, hq2, hb6'⟩
      case rest =>
        obtain ⟨ra, rc, rfl, rfl, rfl, hq, hq1, hq2, hb6⟩ := hcut
        have HQ := Lib.hid hq
        have hz6 := hb6.size
        have HB6 := Lib.hid (HB5.out.trans (hb6.mono (by omega)))
        clear hq hb6 u0 u1
        go_wp2_with fail
        go_ret3
        rw [HF.out, HV.out, M.ifAsk_yes HF.out, ← HDG.out]
        exact ⟨_, _, rfl, HQ.out.mono (by omega) (Nat.le_refl _), hq1, hq2, HB6.out⟩
theorem canBeWon_any (w : World) (lo hi : Nat) (m : M.Mz) (a b : Option Addr) (c d : Nat) (h : MzIn lo hi w m a c b d) (hz : hi ≤ w.heap.size) (h1 : m.doors.length ≤ 1048576) (h2 : m.keys.length ≤ 1048576) (s : Int) (s1 : -9223372036854775808 ≤ s) (s2 : s ≤ 9223372036854775807) :
    Calls Try.prog 77 #[.agg #[.int .i64 m.size, .slice a m.doors.length c, .slice b m.keys.length d], .int .i64 s] w (BoolPost w (M.askB m s && M.canB m s)) := by
  have H := Lib.hid h
  have hcase : ∀ q, M.askB m s = q → (q && decide (0 < M.winR m s)) = (q && M.canB m s) := fun q hq => by
    cases q with
    | false => rfl
    | true => rw [M.win_can hq]
  have HCS := Lib.hid (hcase _ rfl)
  clear h hcase
  go_enter Try.func77, Try.ntmps77
  go_wp2_with fail
  refine named ?_
  intro W hW
  have hb : Below w.heap.size w W := by rw [hW]; exact below_alloc _ _
  clear hW
  refine (implWin_lw W lo hi m a b c d (H.out.below hb hz) (Nat.le_trans hz hb.size) h1 h2 s s1 s2).mono ?_
  rintro e w1 ⟨rfl, hb1⟩
  have HB := Lib.hid (hb.trans (hb1.mono hb.size))
  clear hb hb1
  rw [HCS.out]
  go_wp2_with fail
  go_ret
  exact ⟨by simp, HB.out⟩
theorem implCan_lw (w : World) (lo hi : Nat) (m : M.Mz) (a b : Option Addr) (c d : Nat) (h : MzIn lo hi w m a c b d) (hz : hi ≤ w.heap.size) (_h1 : m.doors.length ≤ 1048576) (_h2 : m.keys.length ≤ 1048576) (s : Int) (_s1 : -9223372036854775808 ≤ s) (_s2 : s ≤ 9223372036854775807) :
    Calls Try.prog 29 #[.agg #[.int .i64 m.size, .slice a m.doors.length c, .slice b m.keys.length d], .int .i64 s] w (BoolsPost w (M.ifAsk m s (M.canB m s) false) (M.askB m s)) := by
  obtain ⟨ii0, hi0, hz0, hzz1, hz2⟩ := info_parts infoI
  have H := Lib.hid h
  clear h
  go_enter Try.func29, Try.ntmps29
  go_wp2_with fail
  refine named ?_
  intro W hW
  have hb : Below w.heap.size w W := by rw [hW]; exact below_alloc _ _
  have x1 : Box3 W w.heap.size 29 (.int .i64 m.size) (.slice a m.doors.length c) (.slice b m.keys.length d) := by rw [hW]; exact Box3.new _ _ _ _ rfl
  clear hW
  have hzw := hb.size
  refine (isMaze_any W lo hi m a b c d (H.out.below hb hz) (by omega)).mono ?_
  rintro e w1 ⟨rfl, hb1⟩
  have X1 := Lib.hid (x1.below hb1)
  have HB1 := Lib.hid (hb.trans (hb1.mono hzw))
  have hz1 := hb1.size
  have hbl := X1.out.lt
  clear hb hb1 x1
  obtain ⟨c0, c1, c2⟩ := X1.out.cells
  cases qm : M.mazeB m with
  | false =>
    have HF : Hid (M.askB m s = false) := Lib.hid (by unfold M.askB; rw [qm]; rfl)
    clear qm
    go_wp2_with fail
    go_ret2
    rw [HF.out, M.ifAsk_no HF.out]
    exact ⟨rfl, HB1.out⟩
  | true =>
    have HM := Lib.hid qm
    clear qm
    go_wp2_with fail
    refine (isSet_any _ _).mono ?_
    rintro e w2 ⟨rfl, rfl⟩
    cases qs : M.setB s with
    | false =>
      have HF : Hid (M.askB m s = false) := Lib.hid (by unfold M.askB; rw [qs, Bool.and_false])
      clear qs
      go_wp2_with fail
      go_ret2
      rw [HF.out, M.ifAsk_no HF.out]
      exact ⟨rfl, HB1.out⟩
    | true =>
      have q0 : M.askB m s = true := by unfold M.askB; rw [qs, HM.out]; rfl
      have HF := Lib.hid q0
      have HVA := Lib.hid (M.ask_yes q0).1
      obtain ⟨_, s0, s64⟩ := M.ask_yes q0
      have v1 := HVA.out.size1
      have v12 := HVA.out.size12
      clear q0 qs
      go_wp2_with fail
      refine (canBeWon_any w1 lo hi m a b c d (H.out.below HB1.out hz) (by omega) _h1 _h2 s _s1 _s2).mono ?_
      rintro e w4 ⟨rfl, hb4⟩
      have HB4 := Lib.hid (HB1.out.trans (hb4.mono (by omega)))
      rw [HF.out, Bool.true_and]
      go_wp2_with fail
      go_ret2
      rw [HF.out, M.ifAsk_yes HF.out]
      exact ⟨rfl, HB4.out⟩
end C
end Go.Proofs.Ytoiapfdlbkncaaa
