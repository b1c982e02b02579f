/-
  CONTRACTS of spec.l1Rising, l5List, l5Code, l5Nodes: strictly ascending lists of nodes and their numbers; what lay in memory stays. Condition: lists of at most 1048576 numbers that read so.
-/
import Derived.Test.YtdjmmgfjcchloaaBigM
import Derived.Test.YtdjmmgfjcchloaaDigitsI
import Derived.Test.YtdjmmgfjcchloaaSpecMaze
namespace Go.Proofs.Ytdjmmgfjcchloaa
open Go.RowKit
namespace M
theorem rise_one {n : Int} {l : List Int} {k : Nat} (hk : k < l.length) (h : RiseTo n (l.take k)) : RiseTo n (l.take (k + 1)) ↔ inB l[k] 0 (n - 1) = true ∧ (0 < k → l.getD (k - 1) 0 < l[k]) := by
  rw [rise_at hk]
  have hin : inB l[k] 0 (n - 1) = true ↔ 0 ≤ l[k] ∧ l[k] < n := by unfold inB; rw [decide_eq_true_iff]; omega
  rw [hin]
  constructor
  · rintro ⟨_, h1, h2⟩
    refine ⟨h1, fun h0 => ?_⟩
    rw [List.getD_eq_getElem?_getD, List.getElem?_eq_getElem (by omega)]
    refine h2 _ ?_
    show l[k - 1] ∈ l.take k
    rw [List.mem_take_iff_getElem]
    exact ⟨k - 1, by omega, rfl⟩
  · rintro ⟨h1, h2⟩
    refine ⟨h, h1, fun y hy => ?_⟩
    obtain ⟨j, hj, rfl⟩ := List.mem_take_iff_getElem.1 hy
    have h0 : 0 < k := by omega
    have h3 := h2 h0
    rw [List.getD_eq_getElem?_getD, List.getElem?_eq_getElem (by omega)] at h3
    have h4 : l[k - 1] < l[k] := h3
    rcases Nat.lt_or_eq_of_le (show j ≤ k - 1 by omega) with h5 | h5
    · have := asc_lt h.1 (i := j) (j := k - 1) h5 (by rw [List.length_take]; omega)
      rw [List.getElem_take, List.getElem_take] at this
      omega
    · subst h5; exact h4
end M
namespace C
set_option maxHeartbeats 3200000
set_option maxRecDepth 20000
theorem l1Rising_any (w : World) (lo hi : Nat) (a : Option Addr) (c : Nat) (l : List Int) (n : Int) (h : RowIn lo hi w a (M.encIs l)) (hz : hi ≤ w.heap.size) (hl : l.length ≤ 1048576) :
    Calls Try.prog 99 #[.slice a l.length c, .int .i64 0, .int .i64 (n - 1)] w fun e w' => e = .returned (.bool (M.riseB n l)) ∧ Below w.heap.size w w' := by
  have HW := Lib.hid h
  clear h
  go_enter Try.func99, Try.ntmps99
  go_wp2_with fail
  go_loopw [7] (fun i wr => ∃ (k : Nat), k ≤ l.length ∧ i = .int .i64 k ∧ M.RiseTo n (l.take k) ∧ Below w.heap.size w wr) (fun i _ => l.length - (intOf i).toNat)
  case atStart => exact ⟨0, Nat.zero_le _, rfl, M.rise_nil _, Below.refl _ _⟩
  case round =>
    obtain ⟨k, hk, rfl, hrise, hni⟩ := hrel
    have HI := Lib.hid hni
    have HR := Lib.hid hrise
    have hzi := hni.size
    clear hni hrise
    by_cases hkl : k < l.length
    · have hrow := HW.out.below HI.out hz
      obtain ⟨lb, off, rfl, _, hdb, hc0⟩ := hrow.at_ (k := k) (by rw [M.encIs_len]; exact hkl)
      have a0 := hc0 _ _ (M.encIs_at hkl)
      have hdl : lb < wr.heap.size := by omega
      have A0 := cell_grown hdl a0
      have mixed : Try.prog.follows .mixedOrders = true := by kernel_rfl
      have hki : (k : Int) < (l.length : Int) := by omega
      have HON := Lib.hid (M.rise_one hkl HR.out)
      cases i0 : M.inB l[k] 0 (n - 1) with
      | false =>
        have HF : Hid (M.riseB n l = false) := Lib.hid (M.rise_bad (k := k + 1) fun h => by have := (HON.out.1 h).1; rw [i0] at this; cases this)
        clear hc0 a0 HON
        generalize l[k] = x at *
        go_wp2_with fail
        refine wp_region_quiet_grown (by assumption) (by kernel_rfl) ?_
        repeat (first | go_big_quiet_step (first | (go_at_call 89; refine Calls.grown_of (same_grown (l1In_any _ _ _ _)))) | quiet_step (first | (go_at_call 89; refine Calls.grown_of (same_grown (l1In_any _ _ _ _)))))
        refine wpQuiet_nil ?_
        intro _ hw'
        obtain ⟨⟨nq, osq⟩, hw''⟩ := hw'
        subst hw''
        go_wp2_with fail
        go_ret
        exact ⟨by rw [HF.out]; rfl, HI.out.trans ((below_grown wr _ _).mono (by omega))⟩
      | true =>
        rcases Nat.eq_zero_or_pos k with hk0 | hk0
        · have HT : Hid (M.RiseTo n (l.take (k + 1))) := Lib.hid (HON.out.2 ⟨i0, fun h => by omega⟩)
          have hg : decide ((0 : Int) < (k : Int)) = false := decide_eq_false (by omega)
          have hg2 : ¬ (0 : Int) < (k : Int) := by omega
          have hg3 : decide (0 < k) = false := decide_eq_false (by omega)
          have HK0 := Lib.hid hk0
          clear hc0 a0 hk0
          generalize l[k] = x at *
          go_wp2_with fail
          refine wp_region_quiet_grown (by assumption) (by kernel_rfl) ?_
          repeat (first | go_big_quiet_step (first | (go_at_call 89; refine Calls.grown_of (same_grown (l1In_any _ _ _ _)))) | quiet_step (first | (go_at_call 89; refine Calls.grown_of (same_grown (l1In_any _ _ _ _)))))
          refine wpQuiet_nil ?_
          intro _ hw'
          obtain ⟨⟨nq, osq⟩, hw''⟩ := hw'
          subst hw''
          go_wp2_with fail
          go_roundw
          case rel => exact ⟨k + 1, by omega, by go_num, HT.out, HI.out.trans ((below_grown wr _ _).mono (by omega))⟩
          case measure => simp [intOf]; omega
        · have hg : decide ((0 : Int) < (k : Int)) = true := decide_eq_true (by omega)
          have hg2 : (0 : Int) < (k : Int) := by omega
          have hg3 : decide (0 < k) = true := decide_eq_true (by omega)
          have hk1 : k - 1 < l.length := by omega
          have b0 := hc0 _ _ (M.encIs_at hk1)
          have hgd : l.getD (k - 1) 0 = l[k - 1] := by rw [List.getD_eq_getElem?_getD, List.getElem?_eq_getElem hk1]; rfl
          have hkc : ((k : Int) - 1) = ((k - 1 : Nat) : Int) := by omega
          have hw1 : IntKind.i64.wrap ((k : Int) - 1) = ((k - 1 : Nat) : Int) := by rw [hkc]; exact IntWalk.i64_in _ (by omega)
          have B0 := cell_grown hdl b0
          have hk1i : ((k - 1 : Nat) : Int) < (l.length : Int) := by omega
          rw [hgd] at HON
          rcases Decidable.em (l[k - 1] < l[k]) with hlt | hlt
          · have HT : Hid (M.RiseTo n (l.take (k + 1))) := Lib.hid (HON.out.2 ⟨i0, fun _ => hlt⟩)
            have hge : decide (l[k] ≤ l[k - 1]) = false := decide_eq_false (by omega)
            have hge2 : ¬ l[k] ≤ l[k - 1] := by omega
            clear hc0 a0 b0 hkc HON hgd
            generalize l[k - 1] = y at *
            generalize l[k] = x at *
            generalize hj : k - 1 = j at *
            clear hj
            go_wp2_with fail
            refine wp_region_quiet_grown (by assumption) (by kernel_rfl) ?_
            repeat (first | go_big_quiet_step (first | (go_at_call 89; refine Calls.grown_of (same_grown (l1In_any _ _ _ _)))) | quiet_step (first | (go_at_call 89; refine Calls.grown_of (same_grown (l1In_any _ _ _ _)))))
            refine wpQuiet_nil ?_
            intro _ hw'
            obtain ⟨⟨nq, osq⟩, hw''⟩ := hw'
            subst hw''
            go_wp2_with fail
            go_roundw
            case rel => exact ⟨k + 1, by omega, by go_num, HT.out, HI.out.trans ((below_grown wr _ _).mono (by omega))⟩
            case measure => simp [intOf]; omega
          · have HF : Hid (M.riseB n l = false) := Lib.hid (M.rise_bad (k := k + 1) fun h => hlt ((HON.out.1 h).2 hk0))
            have hge : decide (l[k] ≤ l[k - 1]) = true := decide_eq_true (by omega)
            have hge2 : l[k] ≤ l[k - 1] := by omega
            clear hc0 a0 b0 hkc HON hgd
            generalize l[k - 1] = y at *
            generalize l[k] = x at *
            generalize hj : k - 1 = j at *
            clear hj
            go_wp2_with fail
            refine wp_region_quiet_grown (by assumption) (by kernel_rfl) ?_
            repeat (first | go_big_quiet_step (first | (go_at_call 89; refine Calls.grown_of (same_grown (l1In_any _ _ _ _)))) | quiet_step (first | (go_at_call 89; refine Calls.grown_of (same_grown (l1In_any _ _ _ _)))))
            refine wpQuiet_nil ?_
            intro _ hw'
            obtain ⟨⟨nq, osq⟩, hw''⟩ := hw'
            subst hw''
            go_wp2_with fail
            go_ret
            exact ⟨by rw [HF.out]; rfl, HI.out.trans ((below_grown wr _ _).mono (by omega))⟩
    · obtain rfl : k = l.length := by omega
      have hr := HR.out
      rw [List.take_of_length_le (Nat.le_refl _)] at hr
      have HF := Lib.hid (M.riseB_yes hr)
      clear hr
      go_wp2_with fail
      go_ret
      exact ⟨by rw [HF.out]; rfl, HI.out⟩
theorem l5List_any (w : World) (lo hi : Nat) (m : M.Mz) (a b : Option Addr) (c d : Nat) (h : MzIn lo hi w m a c b d) (hz : hi ≤ w.heap.size) (lo' hi' : Nat) (wa : Option Addr) (wc : Nat) (l : List Int) (hw : RowIn lo' hi' w wa (M.encIs l)) (hz' : hi' ≤ w.heap.size) (hl : l.length ≤ 1048576) :
    Calls Try.prog 71 #[.agg #[.int .i64 m.size, .slice a m.doors.length c, .slice b m.keys.length d], .slice wa l.length wc] w fun e w' => e = .returned (.bool (M.listB m l)) ∧ Below w.heap.size w w' := by
  have H := Lib.hid h
  have HW := Lib.hid hw
  clear h hw
  go_enter Try.func71, Try.ntmps71
  go_wp2_with fail
  refine named ?_
  intro W hW
  have hb : Below w.heap.size w W := by rw [hW]; exact below_alloc _ _
  have x1 : Box3 W w.heap.size 29 (.int .i64 m.size) (.slice a m.doors.length c) (.slice b m.keys.length d) := by rw [hW]; exact Box3.new _ _ _ _ rfl
  clear hW
  have hzw := hb.size
  refine (specMaze_any W lo hi m a b c d (H.out.below hb hz) (by omega)).mono ?_
  rintro e w1 ⟨rfl, hb1⟩
  have X1 := Lib.hid (x1.below hb1)
  have HB1 := Lib.hid (hb.trans (hb1.mono hzw))
  have hz1 := hb1.size
  have hbl := X1.out.lt
  clear hb hb1 x1
  obtain ⟨c0, c1, c2⟩ := X1.out.cells
  cases q0 : M.mazeB m with
  | false =>
    have HF := Lib.hid (M.listB_no q0 l)
    clear q0
    go_wp2_with fail
    go_ret
    exact ⟨by rw [HF.out]; rfl, HB1.out⟩
  | true =>
    have HF := Lib.hid (M.listB_yes q0 l)
    have HV := Lib.hid (M.valid_of q0)
    have v12 := HV.out.size12
    have v1 := HV.out.size1
    clear q0
    go_wp2_with fail
    refine (l1Rising_any w1 lo' hi' wa wc l m.size (HW.out.below HB1.out hz') (by omega) hl).mono ?_
    rintro e w2 ⟨rfl, hb2⟩
    have HB2 := Lib.hid (HB1.out.trans (hb2.mono (by omega)))
    rw [← HF.out]
    clear hb2
    go_wp2_with fail
    go_ret
    exact ⟨rfl, HB2.out⟩
theorem l5Code_any (w : World) (lo' hi' : Nat) (wa : Option Addr) (wc : Nat) (l : List Int) (n : Int) (hw : RowIn lo' hi' w wa (M.encIs l)) (hn : n ≤ 12) (hr : ∀ x ∈ l, 0 ≤ x ∧ x < n) (hl : l.length ≤ 1048576) :
    Calls Try.prog 67 #[.slice wa l.length wc] w fun e w' => e = .returned (.int .i64 ((M.mk l : Nat) : Int)) ∧ w = w' := by
  have HW := Lib.hid hw
  have HR := Lib.hid hr
  have HM := Lib.hid (fun k => M.mk_lt (l := l.take k) (fun x hx => by have := hr x (List.mem_of_mem_take hx); omega))
  clear hw hr
  go_enter Try.func67, Try.ntmps67
  go_wp2_with fail
  go_loop [3, 4] (fun v i => ∃ (k : Nat), k ≤ l.length ∧ i = .int .i64 k ∧ v = .int .i64 ((M.mk (l.take k) : Nat) : Int)) (fun _ i => l.length - (intOf i).toNat)
  case atStart => exact ⟨0, Nat.zero_le _, rfl, rfl⟩
  case round =>
    obtain ⟨k, hk, rfl, rfl⟩ := hrel
    by_cases hkl : k < l.length
    · obtain ⟨lb, off, rfl, _, hdb, hc0⟩ := HW.out.at_ (k := k) (by rw [M.encIs_len]; exact hkl)
      have a0 := hc0 _ _ (M.encIs_at hkl)
      obtain ⟨x0, x1⟩ := HR.out l[k] (List.getElem_mem hkl)
      have HMT := Lib.hid (M.mk_take hkl)
      have hn4 := HM.out k
      clear hc0
      generalize l[k] = x at *
      obtain ⟨q, rfl⟩ : ∃ q : Nat, x = (q : Int) := ⟨x.toNat, by omega⟩
      obtain ⟨hpw, hpw2⟩ := M.wrapsP (p := q) (by omega)
      have hor := M.orP (n := M.mk (l.take k)) (q := q) hn4 (by omega)
      have hq0 : ¬ (q : Int) < 0 := by omega
      have HMK : Hid (M.mk (l.take (k + 1)) = M.mk (l.take k) ||| 2 ^ q) := Lib.hid (by rw [HMT.out, Int.toNat_natCast])
      generalize M.mk (l.take k) = n at *
      go_wp2_with fail
      go_round
      case rel => exact ⟨k + 1, by omega, by go_num, by rw [HMK.out]⟩
      case measure => simp [intOf]; omega
    · obtain rfl : k = l.length := by omega
      rw [List.take_of_length_le (Nat.le_refl _)]
      go_wp2_with fail
      go_ret
      exact ⟨rfl, rfl⟩
theorem l5Nodes_any (n : Nat) (hn : n < 4096) (w : World) : Calls Try.prog 76 #[.int .i64 (n : Int)] w (IntsPost w (M.digsTo n 12)) := by
  obtain ⟨i0, hi0, hz0, hz1, hz2⟩ := info_parts infoI
  go_enter Try.func76, Try.ntmps76
  go_wp2_with fail
  go_loopw [3, 4] (fun v i wr => ∃ (k : Nat), k ≤ 12 ∧ i = .int .i64 k ∧ wr.ownsRow w.heap.size 3 1 v (M.digsTo n k).length (M.encIs (M.digsTo n k)) ∧ Below w.heap.size w wr) (fun _ i _ => 12 - (intOf i).toNat)
  case atStart => exact ⟨0, Nat.zero_le _, rfl, ownsRow_empty _ _ _ _ (Nat.le_refl _), below_alloc _ _⟩
  case round =>
    obtain ⟨k, hk, rfl, hown, hnx⟩ := hrel
    have HN := Lib.hid hnx
    have HO := Lib.hid hown
    have hzr := hnx.size
    have hlen := M.digsTo_len n k
    clear hnx
    by_cases hk12 : k < 12
    · have hki : (k : Int) < 12 := by omega
      have hbt := M.bit_test (p := k) hn
      cases hd : M.digB n k with
      | true =>
        rw [hd] at hbt
        have HD := Lib.hid (M.digsTo_yes hd)
        clear hd
        go_wp2_with (at_builtin; refine wpList_append_own _ rfl _ _ 23 rfl w.heap.size 3 i0 (.int .i64 0) 1 8 Try.underlying23 hi0 hz0 hz1 hz2 rfl (by decide) _ _ _ rfl (hown.alloc _) ⟨wr.heap.size, 0, none⟩ 1 1 [.int .i64 (k : Int)] rfl rfl (cell_one_new _ _ _) (fun x hx => by simp at hx; subst hx; rfl) (by unfold maxLen; omega) (by omega) (by simp; omega) ?_; intro v' w3 hown' hgrow3 hnil3)
        go_roundw
        case rel =>
          refine ⟨k + 1, by omega, by go_num, ?_, (HN.out.alloc hzr _).grown hgrow3 (by simp; omega) (own_base hown)⟩
          rw [HD.out]
          simpa [M.encIs] using hown'
        case measure => simp [intOf]; omega
      | false =>
        rw [hd] at hbt
        have HD := Lib.hid (M.digsTo_no hd)
        clear hd
        go_wp2_with fail
        go_roundw
        case rel => exact ⟨k + 1, by omega, by go_num, by rw [HD.out]; exact HO.out, HN.out⟩
        case measure => simp [intOf]; omega
    · obtain rfl : k = 12 := by omega
      go_wp2_with fail
      go_ret
      exact ints_end HO.out HN.out
end C
end Go.Proofs.Ytdjmmgfjcchloaa
