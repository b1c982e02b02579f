/-
  CONTRACTS of IsEntrySet and LargestEntrySet, the program's side; what lay in memory stays. No condition but that memory reads so, lists of at most 1048576 numbers.
-/
import Derived.Test.YtdjmmgfjcchloaaMost
import Derived.Test.YtdjmmgfjcchloaaListI
import Derived.Test.YtdjmmgfjcchloaaBoolOk
import Derived.Test.YtdjmmgfjcchloaaNextS
namespace Go.Proofs.Ytdjmmgfjcchloaa
open Go.RowKit
namespace M
theorem listN_ok {m : Mz} (V : Valid m) (l : List Int) : InM m (listN m l) := by
  unfold listN
  split
  · rename_i h
    exact rise_mk V.size12 (riseB_iff.1 h)
  · exact ⟨by decide, zero_in⟩
theorem ent_value {m : Mz} (V : Valid m) {l : List Int} (h : RiseTo m.size l) : (memB l 0 && decide (bigN m (mk l) = mk l)) = (decide (mk l ≠ 0) && decide (mostN m (mk l) = mk l)) := by
  rw [mem_zero h]
  cases hd : digB (mk l) 0 with
  | true =>
    have h0 : mk l ≠ 0 := fun h0 => by rw [h0] at hd; unfold digB at hd; simp at hd
    rw [most_big V hd, decide_eq_true h0]
  | false =>
    rw [most_none hd (done_ex V _ picks_min), Bool.false_and]
    by_cases h0 : mk l = 0
    · simp [h0]
    · rw [decide_eq_false (show ¬ 0 = mk l from fun h => h0 h.symm), Bool.and_false]
theorem big_ok {m : Mz} (V : Valid m) (a : Nat) : bigN m a < 4096 := by
  unfold bigN
  split
  · rename_i h
    exact ((Classical.choose_spec h).1.lt V).1
  · decide
theorem most_lt {m : Mz} (V : Valid m) (a : Nat) : mostN m a < 4096 := by
  obtain ⟨k, hk⟩ := done_ex V a picks_min
  rw [most_done hk]
  exact (seqA_ok V picks_min k).1
theorem bit0 {n : Nat} (h : n < 4096) : (bits .and .i64 (n : Int) 1 == 0) = !digB n 0 := by
  have := bit_test0 (p := 0) h
  simpa using this
end M
namespace C
set_option maxHeartbeats 3200000
set_option maxRecDepth 20000
theorem implEs_lw (w : World) (lo hi : Nat) (m : M.Mz) (a b : Option Addr) (c d : Nat) (h : MzIn lo hi w m a c b d) (hz : hi ≤ w.heap.size) (_h1 : m.doors.length ≤ 1048576) (_h2 : m.keys.length ≤ 1048576) (lo' hi' : Nat) (wa : Option Addr) (wc : Nat) (walk : List Int) (hw : RowIn lo' hi' w wa (M.encIs walk)) (hz' : hi' ≤ w.heap.size) (hl : walk.length ≤ 1048576) (_u1 : walk.length ≤ wc) (_u2 : wc ≤ 9223372036854775807) (_u3 : ∀ z ∈ walk, -9223372036854775808 ≤ z ∧ z ≤ 9223372036854775807) :
    Calls Try.prog 33 #[.agg #[.int .i64 m.size, .slice a m.doors.length c, .slice b m.keys.length d], .slice wa walk.length wc] w (BoolOkPost w (M.entSetB m walk) (M.listB m walk)) := by
  obtain ⟨ii0, hi0, hz0, hzz1, hz2⟩ := info_parts infoI
  have H := Lib.hid h
  clear h
  have HW := Lib.hid hw
  clear hw
  go_enter Try.func33, Try.ntmps33
  go_wp2_with fail
  refine named ?_
  intro W hW
  have hb : Below w.heap.size w W := by rw [hW]; exact below_alloc _ _
  have x1 : Box3 W w.heap.size 29 (.int .i64 m.size) (.slice a m.doors.length c) (.slice b m.keys.length d) := by rw [hW]; exact Box3.new _ _ _ _ rfl
  clear hW
  have hzw := hb.size
  refine (isMaze_any W lo hi m a b c d (H.out.below hb hz) (by omega)).mono ?_
  rintro e w1 ⟨rfl, hb1⟩
  have X1 := Lib.hid (x1.below hb1)
  have HB1 := Lib.hid (hb.trans (hb1.mono hzw))
  have hz1 := hb1.size
  have hxl1 := X1.out.lt
  clear hb hb1 x1
  obtain ⟨c0, c1, c2⟩ := X1.out.cells
  cases q0 : M.mazeB m with
  | false =>
    have HM := Lib.hid q0
    clear q0
    go_wp2_with fail
    go_ret2
    rw [M.entSetB_no (M.listB_no HM.out walk), M.listB_no HM.out walk]
    exact ⟨rfl, HB1.out⟩
  | true =>
    have HM := Lib.hid q0
    have HV := Lib.hid (M.valid_of q0)
    clear q0
    have HL := Lib.hid (M.listB_yes HM.out walk)
    have HLO := Lib.hid (M.listN_ok HV.out walk)
    go_wp2_with fail
    refine (nodesOfList_any w1 lo hi m a b c d (H.out.below HB1.out hz) (by omega) HV.out lo' hi' wa wc walk (HW.out.below HB1.out hz') (by omega) hl).mono ?_
    rintro e w2 ⟨rfl, hb2⟩
    have HB2 := Lib.hid (HB1.out.trans (hb2.mono (by omega)))
    have X2 := Lib.hid (X1.out.below hb2)
    have hz2' := hb2.size
    clear hb2 c0 c1 c2
    obtain ⟨c0, c1, c2⟩ := X2.out.cells
    cases hr : M.riseB m.size walk with
    | false =>
      have HN := Lib.hid (M.listN_no hr)
      have HLF : Hid (M.listB m walk = false) := Lib.hid (by rw [HL.out, hr])
      rw [HN.out]
      clear hr
      go_wp2_with fail
      go_ret2
      rw [M.entSetB_no HLF.out, HLF.out]
      exact ⟨rfl, HB2.out⟩
    | true =>
      have HN := Lib.hid (M.listN_yes hr)
      have HLT : Hid (M.listB m walk = true) := Lib.hid (by rw [HL.out, hr])
      have HEV := Lib.hid ((M.entSetB_yes (by rw [HL.out, hr])).trans (M.ent_value HV.out (M.riseB_iff.1 hr)))
      have HIN := HLO.out
      rw [HN.out] at HIN ⊢
      have HIM := Lib.hid HIN
      clear hr HIN
      generalize M.mk walk = n at *
      rcases Decidable.em (n = 0) with hn | hn
      · subst hn
        have HE0 : Hid (M.entSetB m walk = false) := Lib.hid (by rw [HEV.out]; rfl)
        go_wp2_with fail
        go_ret2
        rw [HE0.out, HLT.out]
        exact ⟨rfl, HB2.out⟩
      · have hnb : ((n : Int) != 0) = true := by simpa using hn
        have hn0 : ¬ (n : Int) = 0 := by omega
        go_wp2_with fail
        refine (mostOf_any w2 lo hi m a b c d (H.out.below HB2.out hz) (by omega) HV.out n HIM.out).mono ?_
        rintro e w3 ⟨rfl, hb3⟩
        have HB3 := Lib.hid (HB2.out.trans (hb3.mono (by omega)))
        clear hb3
        rcases Decidable.em (M.mostN m n = n) with he | he
        · have HE0 : Hid (M.entSetB m walk = true) := Lib.hid (by rw [HEV.out, decide_eq_true hn, decide_eq_true he]; rfl)
          rw [he]
          clear he hn
          go_wp2_with fail
          go_ret2
          rw [HE0.out, HLT.out]
          exact ⟨rfl, HB3.out⟩
        · have HE0 : Hid (M.entSetB m walk = false) := Lib.hid (by rw [HEV.out, decide_eq_false he, Bool.and_false])
          clear hn
          generalize M.mostN m n = t at *
          have heb : ((t : Int) == (n : Int)) = false := by rw [beq_eq_false_iff_ne]; omega
          have hei : ¬ (t : Int) = (n : Int) := by omega
          clear he
          go_wp2_with fail
          go_ret2
          rw [HE0.out, HLT.out]
          exact ⟨rfl, HB3.out⟩
theorem implLe_lw (w : World) (lo hi : Nat) (m : M.Mz) (a b : Option Addr) (c d : Nat) (h : MzIn lo hi w m a c b d) (hz : hi ≤ w.heap.size) (_h1 : m.doors.length ≤ 1048576) (_h2 : m.keys.length ≤ 1048576) (lo' hi' : Nat) (wa : Option Addr) (wc : Nat) (walk : List Int) (hw : RowIn lo' hi' w wa (M.encIs walk)) (hz' : hi' ≤ w.heap.size) (hl : walk.length ≤ 1048576) (_u1 : walk.length ≤ wc) (_u2 : wc ≤ 9223372036854775807) (_u3 : ∀ z ∈ walk, -9223372036854775808 ≤ z ∧ z ≤ 9223372036854775807) :
    Calls Try.prog 42 #[.agg #[.int .i64 m.size, .slice a m.doors.length c, .slice b m.keys.length d], .slice wa walk.length wc] w (IntsOkPost w (M.bigV m walk) (M.bigB m walk)) := by
  obtain ⟨ii0, hi0, hz0, hzz1, hz2⟩ := info_parts infoI
  have H := Lib.hid h
  clear h
  have HW := Lib.hid hw
  clear hw
  go_enter Try.func42, Try.ntmps42
  go_wp2_with fail
  refine named ?_
  intro W hW
  have hb : Below w.heap.size w W := by rw [hW]; exact below_alloc _ _
  have x1 : Box3 W w.heap.size 29 (.int .i64 m.size) (.slice a m.doors.length c) (.slice b m.keys.length d) := by rw [hW]; exact Box3.new _ _ _ _ rfl
  clear hW
  have hzw := hb.size
  refine (isMaze_any W lo hi m a b c d (H.out.below hb hz) (by omega)).mono ?_
  rintro e w1 ⟨rfl, hb1⟩
  have X1 := Lib.hid (x1.below hb1)
  have HB1 := Lib.hid (hb.trans (hb1.mono hzw))
  have hz1 := hb1.size
  have hxl1 := X1.out.lt
  clear hb hb1 x1
  obtain ⟨c0, c1, c2⟩ := X1.out.cells
  cases q0 : M.mazeB m with
  | false =>
    have HM := Lib.hid q0
    clear q0
    go_wp2_with fail
    go_ret2
    rw [M.bigV_no (M.bigB_no (M.listB_no HM.out walk)), M.bigB_no (M.listB_no HM.out walk)]
    exact intsOk_end (l := []) (ownsRow_empty _ _ _ _ (by omega)) (HB1.out.alloc (by omega) _)
  | true =>
    have HM := Lib.hid q0
    have HV := Lib.hid (M.valid_of q0)
    clear q0
    have HL := Lib.hid (M.listB_yes HM.out walk)
    have HLO := Lib.hid (M.listN_ok HV.out walk)
    go_wp2_with fail
    refine (nodesOfList_any w1 lo hi m a b c d (H.out.below HB1.out hz) (by omega) HV.out lo' hi' wa wc walk (HW.out.below HB1.out hz') (by omega) hl).mono ?_
    rintro e w2 ⟨rfl, hb2⟩
    have HB2 := Lib.hid (HB1.out.trans (hb2.mono (by omega)))
    have X2 := Lib.hid (X1.out.below hb2)
    have hz2' := hb2.size
    clear hb2 c0 c1 c2
    obtain ⟨c0, c1, c2⟩ := X2.out.cells
    cases hr : M.riseB m.size walk with
    | false =>
      have HE0 : Hid (M.bigB m walk = false) := Lib.hid (M.bigB_no (by rw [HL.out, hr]))
      clear hr
      go_wp2_with fail
      go_ret2
      rw [M.bigV_no HE0.out, HE0.out]
      exact intsOk_end (l := []) (ownsRow_empty _ _ _ _ (by omega)) (HB2.out.alloc (by omega) _)
    | true =>
      have HN := Lib.hid (M.listN_yes hr)
      have HLT : Hid (M.bigB m walk = M.digB (M.mk walk) 0) := Lib.hid (by rw [M.bigB_yes (by rw [HL.out, hr]), M.mem_zero (M.riseB_iff.1 hr)])
      have HIN := HLO.out
      rw [HN.out] at HIN ⊢
      have HIM := Lib.hid HIN
      have hn4 := HIN.1
      have hbt := M.bit0 hn4
      have HMB := Lib.hid (fun h => M.most_big HV.out (a := M.mk walk) h)
      have HVY := Lib.hid (fun h => M.bigV_yes (m := m) (l := walk) h)
      clear hr HIN
      generalize M.mk walk = n at *
      cases hd : M.digB n 0 with
      | false =>
        have HE0 : Hid (M.bigB m walk = false) := Lib.hid (by rw [HLT.out, hd])
        rw [hd] at hbt
        clear hd
        go_wp2_with fail
        go_ret2
        rw [M.bigV_no HE0.out, HE0.out]
        exact intsOk_end (l := []) (ownsRow_empty _ _ _ _ (by omega)) (HB2.out.alloc (by omega) _)
      | true =>
        have HE0 : Hid (M.bigB m walk = true) := Lib.hid (by rw [HLT.out, hd])
        have HMN := Lib.hid (HMB.out hd)
        have hb4 := M.big_ok HV.out n
        rw [hd] at hbt
        clear hd
        go_wp2_with fail
        refine (mostOf_any w2 lo hi m a b c d (H.out.below HB2.out hz) (by omega) HV.out n HIM.out).mono ?_
        rintro e w3 ⟨rfl, hb3⟩
        rw [HMN.out]
        have HB3 := Lib.hid (HB2.out.trans (hb3.mono (by omega)))
        have hz3 := hb3.size
        clear hb3
        go_wp2_with fail
        refine (digits_any _ hb4 w3).mono ?_
        rintro e w4 ⟨ra, rc, rfl, ho, hq1, hq2, hb4'⟩
        have HO := Lib.hid ho
        have HB4 := Lib.hid (HB3.out.trans (hb4'.mono (by omega)))
        clear ho hb4'
        go_wp2_with fail
        go_ret2
        rw [HVY.out HE0.out, HE0.out]
        exact ⟨ra, rc, rfl, HO.out.mono (by omega) (Nat.le_refl _), hq1, hq2, HB4.out⟩
end C
end Go.Proofs.Ytdjmmgfjcchloaa
