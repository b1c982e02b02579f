/-
  CONTRACTS of spec.l7Locks, l7Good and LocksOf: the numbers of all locks, in a new list, or false; what lay in memory stays. No condition but that the maze reads so (l7Locks: a valid maze).
-/
import Derived.Test.YthgmkkkfhbjhoaaLkM
namespace Go.Proofs.Ythgmkkkfhbjhoaa
open Go.RowKit
namespace C
set_option maxHeartbeats 1600000
set_option maxRecDepth 20000
theorem l7Locks_any (w : World) (lo hi : Nat) (m : M.Mz) (a b : Option Addr) (c d : Nat) (h : MzIn lo hi w m a c b d) (hz : hi ≤ w.heap.size) (V : M.Valid m) :
    Calls Try.prog 53 #[.agg #[.int .i64 m.size, .slice a m.doors.length c, .slice b m.keys.length d]] w (IntsPost w (M.lockL m)) := by
  obtain ⟨i0, hi0, hz0, hz1, hz2⟩ := info_parts infoI
  have H := Lib.hid h
  have v30 := V.few
  clear h V
  go_enter Try.func53, Try.ntmps53
  go_wp2_with fail
  refine wp_named ?_
  intro W hW
  have HB := Lib.hid (show Below w.heap.size w W by rw [hW]; exact (below_alloc _ _).alloc (by simp) _)
  have X1 := Lib.hid (show Box3 W w.heap.size 29 (.int .i64 m.size) (.slice a m.doors.length c) (.slice b m.keys.length d) by rw [hW]; exact (Box3.new _ _ _ _ rfl).alloc _)
  have O1 := Lib.hid (show W.ownsRow w.heap.size 3 1 (.slice (some ⟨w.heap.size + 1, 0, none⟩) 0 0) 0 [] by
    rw [hW]
    have := ownsRow_empty (w.alloc (.cells #[.int .i64 m.size, .slice a m.doors.length c, .slice b m.keys.length d] 29)) w.heap.size 3 1 (by simp)
    simpa using this)
  clear hW
  have hzw := HB.out.size
  go_loopw [3, 4] (fun v i wr => ∃ (k : Nat), k ≤ m.doors.length ∧ i = .int .i64 k ∧ wr.ownsRow w.heap.size 3 1 v (M.lockTo m k).length (M.encIs (M.lockTo m k)) ∧ Box3 wr w.heap.size 29 (.int .i64 m.size) (.slice a m.doors.length c) (.slice b m.keys.length d) ∧ Below w.heap.size w wr) (fun _ i _ => m.doors.length - (intOf i).toNat)
  case atStart => exact ⟨0, Nat.zero_le _, rfl, O1.out, X1.out, HB.out⟩
  case round =>
    obtain ⟨k, hk, rfl, hown, hbox, hnx⟩ := hrel
    have HN := Lib.hid hnx
    have HO := Lib.hid hown
    have hne := own_ne_box hown hbox (by decide)
    have HNE := Lib.hid hne
    have HBX := Lib.hid hbox
    have hzr := hnx.size
    have hlen := M.lockTo_len m k
    obtain ⟨x0, x1, x2⟩ := hbox.cells
    clear hnx hne hbox
    by_cases hlt : k < m.doors.length
    · obtain ⟨db, off, rfl, _, hdb, hc0⟩ := (H.out.doors.below HN.out hz).at_ (k := k * 3) (by rw [M.encDs_len]; omega)
      have a2 : wr.cell? ⟨db, off + k * 3 + 2, none⟩ = some (.int .i64 m.doors[k].2.2) := hc0 _ _ (M.encDs_at2 hlt)
      clear hc0
      by_cases t1 : m.doors[k].2.2 = 0
      · have HD := Lib.hid (M.lockTo_no hlt t1)
        have e1 : (m.doors[k].2.2 != 0) = false := by simpa using t1
        clear t1 hown
        go_wp2_with fail
        go_roundw
        case rel => exact ⟨k + 1, by omega, by go_num, by rw [HD.out]; exact HO.out, HBX.out, HN.out⟩
        case measure => simp [intOf]; omega
      · have HD := Lib.hid (M.lockTo_yes hlt t1)
        have e1 : (m.doors[k].2.2 != 0) = true := by simpa using t1
        clear t1
        go_wp2_with (at_builtin; refine wpList_append_own _ rfl _ _ 23 rfl w.heap.size 3 i0 (.int .i64 0) 1 8 Try.underlying23 hi0 hz0 hz1 hz2 rfl (by decide) _ _ _ rfl (hown.alloc _) ⟨wr.heap.size, 0, none⟩ 1 1 [.int .i64 (k : Int)] rfl rfl (cell_one_new _ _ _) (fun x hx => by simp at hx; subst hx; rfl) (by unfold maxLen; omega) (by omega) (by simp; omega) ?_; intro v' w3 hown' hgrow3 hnil3)
        go_roundw
        case rel =>
          refine ⟨k + 1, by omega, by go_num, ?_, (HBX.out.alloc _).grown hgrow3 HNE.out, (HN.out.alloc hzr _).grown hgrow3 (by simp; omega) (own_base hown)⟩
          rw [HD.out]
          simpa [M.encIs] using hown'
        case measure => simp [intOf]; omega
    · obtain rfl : k = m.doors.length := by omega
      clear hown
      go_wp2_with fail
      go_ret
      exact ints_end (l := M.lockL m) HO.out HN.out
theorem l7Good_any (w : World) (lo hi : Nat) (m : M.Mz) (a b : Option Addr) (c d : Nat) (h : MzIn lo hi w m a c b d) (hz : hi ≤ w.heap.size) :
    Calls Try.prog 52 #[.agg #[.int .i64 m.size, .slice a m.doors.length c, .slice b m.keys.length d]] w (BoolPost w (M.goodB m)) := by
  have H := Lib.hid h
  clear h
  go_enter Try.func52, Try.ntmps52
  go_wp2_with fail
  refine named ?_
  intro W hW
  have hb : Below w.heap.size w W := by rw [hW]; exact below_alloc _ _
  have x1 : Box3 W w.heap.size 29 (.int .i64 m.size) (.slice a m.doors.length c) (.slice b m.keys.length d) := by rw [hW]; exact Box3.new _ _ _ _ rfl
  clear hW
  have hzw := hb.size
  refine (specMaze_any W lo hi m a b c d (H.out.below hb hz) (by omega)).mono ?_
  rintro e w1 ⟨rfl, hb1⟩
  obtain ⟨c0, c1, c2⟩ := (x1.below hb1).cells
  have hb2 := hb.trans (hb1.mono hzw)
  have HB := Lib.hid hb2
  have hz2 := hb2.size
  clear hb hb1 hb2 x1
  cases hm : M.mazeB m with
  | false =>
    have HF := Lib.hid (M.good_no hm)
    clear hm
    go_wp2_with fail
    go_ret
    exact ⟨by rw [HF.out]; rfl, HB.out⟩
  | true =>
    have HM := Lib.hid hm
    have HV := Lib.hid (M.valid_of hm)
    have hgd : decide ((M.lockL m).length ≤ 10) = M.goodB m := by unfold M.goodB; rw [hm]; rfl
    have HG := Lib.hid hgd
    clear hm hgd
    go_wp2_with fail
    refine (l7Locks_any w1 lo hi m a b c d (H.out.below HB.out hz) (by omega) HV.out).mono ?_
    rintro e w2 ⟨ra, rc, rfl, hr, hr1, hr2, hb3⟩
    have HB3 := Lib.hid (HB.out.trans (hb3.mono (by omega)))
    have hlen := M.lockTo_len m m.doors.length
    have v30 := HV.out.few
    have hll : (M.lockL m).length ≤ 30 := by show (M.lockTo m m.doors.length).length ≤ 30; omega
    clear hr hb3 hlen
    generalize (M.lockL m).length = n at *
    have he : decide ((n : Int) ≤ 10) = decide (n ≤ 10) := by congr 1; apply propext; omega
    have HE := Lib.hid he
    clear he
    go_wp2_with fail
    go_ret
    exact ⟨by show Ending.returned (.bool (decide ((n : Int) ≤ 10))) = _; rw [HE.out, HG.out], HB3.out⟩
theorem specLocks_lw (w : World) (lo hi : Nat) (m : M.Mz) (a b : Option Addr) (c d : Nat) (h : MzIn lo hi w m a c b d) (hz : hi ≤ w.heap.size) (_h1 : m.doors.length ≤ 1048576) (_h2 : m.keys.length ≤ 1048576) :
    Calls Try.prog 17 #[.agg #[.int .i64 m.size, .slice a m.doors.length c, .slice b m.keys.length d]] w (IntsOkPost w (M.locksV m) (M.goodB m)) := by
  have H := Lib.hid h
  clear h
  go_enter Try.func17, Try.ntmps17
  go_wp2_with fail
  refine named ?_
  intro W hW
  have hb : Below w.heap.size w W := by rw [hW]; exact below_alloc _ _
  have x1 : Box3 W w.heap.size 29 (.int .i64 m.size) (.slice a m.doors.length c) (.slice b m.keys.length d) := by rw [hW]; exact Box3.new _ _ _ _ rfl
  clear hW
  have hzw := hb.size
  refine (l7Good_any W lo hi m a b c d (H.out.below hb hz) (by omega)).mono ?_
  rintro e w1 ⟨rfl, hb1⟩
  obtain ⟨c0, c1, c2⟩ := (x1.below hb1).cells
  have hb2 := hb.trans (hb1.mono hzw)
  have HB := Lib.hid hb2
  have hz2 := hb2.size
  clear hb hb1 hb2 x1
  cases hm : M.goodB m with
  | false =>
    have HF := Lib.hid (M.locksV_no hm)
    have HNN := Lib.hid hm
    clear hm
    go_wp2_with fail
    go_ret2
    rw [HF.out, HNN.out]
    exact intsOk_end (l := []) (ownsRow_empty _ _ _ _ (by omega)) (HB.out.alloc (by omega) _)
  | true =>
    have HF := Lib.hid (M.locksV_yes hm)
    have HV := Lib.hid (M.valid_of (M.good_maze hm))
    have HNN := Lib.hid hm
    clear hm
    go_wp2_with fail
    refine (l7Locks_any w1 lo hi m a b c d (H.out.below HB.out hz) (by omega) HV.out).mono ?_
    rintro e w2 ⟨ra, rc, rfl, hr, hr1, hr2, hb3⟩
    have HR := Lib.hid hr
    have HB3 := Lib.hid (HB.out.trans (hb3.mono (by omega)))
    clear hr hb3
    go_wp2_with fail
    go_ret2
    rw [HF.out, HNN.out]
    exact ⟨ra, rc, rfl, HR.out.mono (by omega) (Nat.le_refl _), hr1, hr2, HB3.out⟩
end C
end Go.Proofs.Ythgmkkkfhbjhoaa
