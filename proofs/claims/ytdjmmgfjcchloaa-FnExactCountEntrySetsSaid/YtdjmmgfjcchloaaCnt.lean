/-
  CONTRACTS of CountEntrySets, both sides; what lay in memory stays. No condition but that memory reads so.
-/
import Derived.Test.YtdjmmgfjcchloaaOtI
import Derived.Test.YtdjmmgfjcchloaaOtS
import Derived.Test.YtdjmmgfjcchloaaDoorsAt
namespace Go.Proofs.Ytdjmmgfjcchloaa
open Go.RowKit
namespace M
def cntTo (T : List Int) (k : Nat) : Nat := (T.take k).countP fun x => decide (0 < x)
theorem cntTo_yes {T : List Int} {k : Nat} (hk : k < T.length) (h : 0 < T[k]) : cntTo T (k + 1) = cntTo T k + 1 := by
  unfold cntTo
  rw [List.take_succ_eq_append_getElem hk, List.countP_append, List.countP_singleton, if_pos (decide_eq_true h)]
theorem cntTo_no {T : List Int} {k : Nat} (hk : k < T.length) (h : ¬ 0 < T[k]) : cntTo T (k + 1) = cntTo T k := by
  unfold cntTo
  rw [List.take_succ_eq_append_getElem hk, List.countP_append, List.countP_singleton, if_neg (by rw [decide_eq_true_iff]; exact h), Nat.add_zero]
theorem cntTo_le (T : List Int) (k : Nat) : cntTo T k ≤ k := by
  unfold cntTo
  refine Nat.le_trans List.countP_le_length ?_
  rw [List.length_take]
  omega
theorem foldT_zero (c : Nat) : ∀ (l : List Int) (T : List Int), (l.foldl (addT c) T).getD 0 0 = T.getD 0 0
  | [], _ => rfl
  | x :: l, T => by
    rw [List.foldl_cons, foldT_zero c l]
    unfold addT
    have h := or_pos (a := c) (pow_pos x.toNat)
    rw [List.getD_eq_getElem?_getD, List.getElem?_set_ne h, List.getD_eq_getElem?_getD]
theorem tabT_zero (m : Mz) {N : Nat} (hN : 2 ≤ N) : ∀ c, (tabT m N c).getD 0 0 = 0
  | 0 => by unfold tabT startT; rw [List.getD_eq_getElem?_getD, List.getElem?_set_ne (by decide)]; cases N with | zero => omega | succ n => rfl
  | c + 1 => by
    show (((nxs m c).take _).foldl (addT c) (tabT m N c)).getD 0 0 = 0
    rw [foldT_zero, tabT_zero m hN c]
theorem cnt_one {m : Mz} (V : Valid m) : cntTo (ordT m) 1 = 0 := by
  have h2 := two_size V
  have hl := ordT_len m
  have h0 := tabT_zero m h2.1 (2 ^ m.size.toNat)
  have hk : 0 < (ordT m).length := by omega
  change (ordT m).getD 0 0 = 0 at h0
  have e : (ordT m)[0] = 0 := by
    rw [List.getD_eq_getElem?_getD] at h0
    rw [List.getElem?_eq_getElem hk] at h0
    exact h0
  rw [cntTo_no hk (by omega)]
  rfl
def cntV (m : Mz) : Int := if mazeB m then ((cntTo (ordT m) (ordT m).length : Nat) : Int) else 0
theorem cntV_no {m : Mz} (h : mazeB m = false) : cntV m = 0 := by unfold cntV; rw [h]; rfl
theorem cntV_yes {m : Mz} (h : mazeB m = true) : cntV m = ((cntTo (ordT m) (ordT m).length : Nat) : Int) := by unfold cntV; rw [if_pos h]
end M
namespace C
set_option maxHeartbeats 3200000
set_option maxRecDepth 20000
theorem implCnt_lw (w : World) (lo hi : Nat) (m : M.Mz) (a b : Option Addr) (c d : Nat) (h : MzIn lo hi w m a c b d) (hz : hi ≤ w.heap.size) (_h1 : m.doors.length ≤ 1048576) (_h2 : m.keys.length ≤ 1048576) :
    Calls Try.prog 40 #[.agg #[.int .i64 m.size, .slice a m.doors.length c, .slice b m.keys.length d]] w (fun e w' => e = .returned (.tuple #[.int .i64 (M.cntV m), .bool (M.mazeB m)]) ∧ Below w.heap.size w w') := by
  obtain ⟨ii0, hi0, hz0, hzz1, hz2⟩ := info_parts infoI
  have H := Lib.hid h
  clear h
  go_enter Try.func40, Try.ntmps40
  go_wp2_with fail
  refine named ?_
  intro W hW
  have hb : Below w.heap.size w W := by rw [hW]; exact below_alloc _ _
  have x1 : Box3 W w.heap.size 29 (.int .i64 m.size) (.slice a m.doors.length c) (.slice b m.keys.length d) := by rw [hW]; exact Box3.new _ _ _ _ rfl
  clear hW
  have hzw := hb.size
  refine (isMaze_any W lo hi m a b c d (H.out.below hb hz) (by omega)).mono ?_
  rintro e w1 ⟨rfl, hb1⟩
  have X1 := Lib.hid (x1.below hb1)
  have HB1 := Lib.hid (hb.trans (hb1.mono hzw))
  have hz1 := hb1.size
  have hxl1 := X1.out.lt
  clear hb hb1 x1
  obtain ⟨c0, c1, c2⟩ := X1.out.cells
  cases q0 : M.mazeB m with
  | false =>
    have HM := Lib.hid q0
    clear q0
    go_wp2_with fail
    go_ret2
    rw [M.cntV_no HM.out, HM.out]
    exact ⟨rfl, HB1.out⟩
  | true =>
    have HM := Lib.hid q0
    have HV := Lib.hid (M.valid_of q0)
    clear q0
    have hN2 := M.two_size HV.out
    have hlen := M.ordT_len m
    have hl4 : (M.ordT m).length ≤ 4096 := by omega
    have hl2 : 1 ≤ (M.ordT m).length := by omega
    have HC1 := Lib.hid (M.cnt_one HV.out)
    go_wp2_with fail
    refine (ordersTable_any w1 lo hi m a b c d (H.out.below HB1.out hz) (by omega) HV.out).mono ?_
    rintro e w2 ⟨ra, rc, rfl, ho, hq1, hq2, hb2⟩
    have HO := Lib.hid ho
    have HB2 := Lib.hid (HB1.out.trans (hb2.mono (by omega)))
    have HCV := Lib.hid (M.cntV_yes HM.out)
    clear ho hb2 hlen hN2 c0 c1 c2
    generalize M.ordT m = T at *
    go_wp2_with fail
    go_loop [4, 6, 13] (fun v _ i => ∃ (k : Nat), k ≤ T.length ∧ i = .int .i64 k ∧ v = .int .i64 ((M.cntTo T k : Nat) : Int)) (fun v _ i => T.length - (intOf i).toNat)
    case atStart => exact ⟨0, Nat.zero_le _, rfl, rfl⟩
    case round =>
      obtain ⟨k, hk, rfl, rfl⟩ := hrel
      by_cases hkl : k < T.length
      · have hki : (k : Int) < (T.length : Int) := by omega
        obtain ⟨lb, off, rfl, hlb1, hlb2, hc0⟩ := HO.out.row.at_ (k := k) (by rw [M.encIs_len]; exact hkl)
        have a0 := hc0 _ _ (M.encIs_at hkl)
        have hcl := M.cntTo_le T k
        clear hc0
        by_cases hv : 0 < T[k]
        · have HY := Lib.hid (M.cntTo_yes hkl hv)
          generalize T[k] = v at *
          generalize M.cntTo T k = n at *
          go_wp2_with fail
          go_round
          case rel => exact ⟨k + 1, by omega, by go_num, by rw [HY.out]; go_num⟩
          case measure => simp [intOf]; omega
        · have HY := Lib.hid (M.cntTo_no hkl hv)
          generalize T[k] = v at *
          generalize M.cntTo T k = n at *
          go_wp2_with fail
          go_round
          case rel => exact ⟨k + 1, by omega, by go_num, by rw [HY.out]⟩
          case measure => simp [intOf]; omega
      · obtain rfl : k = T.length := by omega
        have hki : ¬ (T.length : Int) < (T.length : Int) := by omega
        go_wp2_with fail
        go_ret2
        rw [HCV.out, HM.out]
        exact ⟨rfl, HB2.out⟩
theorem specCnt_lw (w : World) (lo hi : Nat) (m : M.Mz) (a b : Option Addr) (c d : Nat) (h : MzIn lo hi w m a c b d) (hz : hi ≤ w.heap.size) (_h1 : m.doors.length ≤ 1048576) (_h2 : m.keys.length ≤ 1048576) :
    Calls Try.prog 39 #[.agg #[.int .i64 m.size, .slice a m.doors.length c, .slice b m.keys.length d]] w (fun e w' => e = .returned (.tuple #[.int .i64 (M.cntV m), .bool (M.mazeB m)]) ∧ Below w.heap.size w w') := by
  obtain ⟨ii0, hi0, hz0, hzz1, hz2⟩ := info_parts infoI
  have H := Lib.hid h
  clear h
  go_enter Try.func39, Try.ntmps39
  go_wp2_with fail
  refine named ?_
  intro W hW
  have hb : Below w.heap.size w W := by rw [hW]; exact below_alloc _ _
  have x1 : Box3 W w.heap.size 29 (.int .i64 m.size) (.slice a m.doors.length c) (.slice b m.keys.length d) := by rw [hW]; exact Box3.new _ _ _ _ rfl
  clear hW
  have hzw := hb.size
  refine (specMaze_any W lo hi m a b c d (H.out.below hb hz) (by omega)).mono ?_
  rintro e w1 ⟨rfl, hb1⟩
  have X1 := Lib.hid (x1.below hb1)
  have HB1 := Lib.hid (hb.trans (hb1.mono hzw))
  have hz1 := hb1.size
  have hxl1 := X1.out.lt
  clear hb hb1 x1
  obtain ⟨c0, c1, c2⟩ := X1.out.cells
  cases q0 : M.mazeB m with
  | false =>
    have HM := Lib.hid q0
    clear q0
    go_wp2_with fail
    go_ret2
    rw [M.cntV_no HM.out, HM.out]
    exact ⟨rfl, HB1.out⟩
  | true =>
    have HM := Lib.hid q0
    have HV := Lib.hid (M.valid_of q0)
    clear q0
    have hN2 := M.two_size HV.out
    have hlen := M.ordT_len m
    have hl4 : (M.ordT m).length ≤ 4096 := by omega
    have hl2 : 1 ≤ (M.ordT m).length := by omega
    have HC1 := Lib.hid (M.cnt_one HV.out)
    go_wp2_with fail
    refine (l5Table_any w1 lo hi m a b c d (H.out.below HB1.out hz) (by omega) HV.out).mono ?_
    rintro e w2 ⟨ra, rc, rfl, ho, hq1, hq2, hb2⟩
    have HO := Lib.hid ho
    have HB2 := Lib.hid (HB1.out.trans (hb2.mono (by omega)))
    have HCV := Lib.hid (M.cntV_yes HM.out)
    clear ho hb2 hlen hN2 c0 c1 c2
    generalize M.ordT m = T at *
    go_wp2_with fail
    go_loop [5, 6] (fun v i => ∃ (k : Nat), 1 ≤ k ∧ k ≤ T.length ∧ i = .int .i64 k ∧ v = .int .i64 ((M.cntTo T k : Nat) : Int)) (fun v i => T.length - (intOf i).toNat)
    case atStart => exact ⟨1, Nat.le_refl _, hl2, rfl, by rw [HC1.out]; rfl⟩
    case round =>
      obtain ⟨k, hk1, hk, rfl, rfl⟩ := hrel
      by_cases hkl : k < T.length
      · have hki : (k : Int) < (T.length : Int) := by omega
        obtain ⟨lb, off, rfl, hlb1, hlb2, hc0⟩ := HO.out.row.at_ (k := k) (by rw [M.encIs_len]; exact hkl)
        have a0 := hc0 _ _ (M.encIs_at hkl)
        have hcl := M.cntTo_le T k
        clear hc0
        by_cases hv : 0 < T[k]
        · have HY := Lib.hid (M.cntTo_yes hkl hv)
          generalize T[k] = v at *
          generalize M.cntTo T k = n at *
          go_wp2_with fail
          go_round
          case rel => exact ⟨k + 1, by omega, by omega, by go_num, by rw [HY.out]; go_num⟩
          case measure => simp [intOf]; omega
        · have HY := Lib.hid (M.cntTo_no hkl hv)
          generalize T[k] = v at *
          generalize M.cntTo T k = n at *
          go_wp2_with fail
          go_round
          case rel => exact ⟨k + 1, by omega, by omega, by go_num, by rw [HY.out]⟩
          case measure => simp [intOf]; omega
      · obtain rfl : k = T.length := by omega
        have hki : ¬ (T.length : Int) < (T.length : Int) := by omega
        go_wp2_with fail
        go_ret2
        rw [HCV.out, HM.out]
        exact ⟨rfl, HB2.out⟩
end C
end Go.Proofs.Ytdjmmgfjcchloaa
