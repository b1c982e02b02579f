/-
  CONTRACTS of impl.LocksOf and isLockMaze: the numbers of all locks, in a new list, or false; what lay in memory stays. No condition but that the maze reads so.
-/
import Derived.Test.YthgmkkkfhbjhoaaLkM
namespace Go.Proofs.Ythgmkkkfhbjhoaa
open Go.RowKit
namespace C
set_option maxHeartbeats 1600000
set_option maxRecDepth 20000
theorem implLocks_lw (w : World) (lo hi : Nat) (m : M.Mz) (a b : Option Addr) (c d : Nat) (h : MzIn lo hi w m a c b d) (hz : hi ≤ w.heap.size) (_h1 : m.doors.length ≤ 1048576) (_h2 : m.keys.length ≤ 1048576) :
    Calls Try.prog 19 #[.agg #[.int .i64 m.size, .slice a m.doors.length c, .slice b m.keys.length d]] w (IntsOkPost w (M.locksV m) (M.goodB m)) := by
  obtain ⟨i0, hi0, hz0, hz1, hz2⟩ := info_parts infoI
  have H := Lib.hid h
  have hc1 := h.c1
  have hc2 := h.c2
  clear h
  go_enter Try.func19, Try.ntmps19
  go_wp2_with fail
  refine named ?_
  intro W hW
  have hb : Below w.heap.size w W := by rw [hW]; exact below_alloc _ _
  have x1 : Box3 W w.heap.size 29 (.int .i64 m.size) (.slice a m.doors.length c) (.slice b m.keys.length d) := by rw [hW]; exact Box3.new _ _ _ _ rfl
  clear hW
  have hzw := hb.size
  refine (isMaze_any W lo hi m a b c d (H.out.below hb hz) (by omega)).mono ?_
  rintro e w1 ⟨rfl, hb1⟩
  have x2 := x1.below hb1
  have hbx := x2.lt
  have HB := Lib.hid (hb.trans (hb1.mono hzw))
  have hz1w := hb1.size
  clear hb hb1 x1
  obtain ⟨y0, y1, y2⟩ := x2.cells
  cases hm : M.mazeB m with
  | false =>
    have HNN := Lib.hid (M.good_no hm)
    have HF := Lib.hid (M.locksV_no HNN.out)
    clear hm x2
    go_wp2_with fail
    go_ret2
    rw [HF.out, HNN.out]
    exact intsOk_end (l := []) (ownsRow_empty _ _ _ _ (by omega)) (HB.out.alloc (by omega) _)
  | true =>
    have V := M.valid_of hm
    have v30 := V.few
    have HM := Lib.hid hm
    clear V hm x2
    go_wp2_with fail
    go_loopw [4, 5, 6, 15] (fun v _ _ i wr => ∃ (k : Nat), k ≤ m.doors.length ∧ i = .int .i64 k ∧ wr.ownsRow w.heap.size 3 1 v (M.lockTo m k).length (M.encIs (M.lockTo m k)) ∧ Below w.heap.size w wr) (fun _ _ _ i _ => m.doors.length - (intOf i).toNat)
    case atStart => exact ⟨0, Nat.zero_le _, rfl, ownsRow_empty _ _ _ _ (by omega), HB.out.alloc (by omega) _⟩
    case round =>
      obtain ⟨k, hk, rfl, hown, hnx⟩ := hrel
      have HN := Lib.hid hnx
      have HO := Lib.hid hown
      have hzr := hnx.size
      have hlen := M.lockTo_len m k
      clear hnx
      by_cases hlt : k < m.doors.length
      · obtain ⟨db, off, rfl, _, hdb, hc0⟩ := (H.out.doors.below HN.out hz).at_ (k := k * 3) (by rw [M.encDs_len]; omega)
        have a0 := hc0 _ _ (M.encDs_at0 hlt)
        have a1 : wr.cell? ⟨db, off + k * 3 + 1, none⟩ = some (.int .i64 m.doors[k].2.1) := hc0 _ _ (M.encDs_at1 hlt)
        have a2 : wr.cell? ⟨db, off + k * 3 + 2, none⟩ = some (.int .i64 m.doors[k].2.2) := hc0 _ _ (M.encDs_at2 hlt)
        clear hc0
        have hcn := cell_one_new (wr.alloc (.cells #[.int .i64 m.doors[k].1, .int .i64 m.doors[k].2.1, .int .i64 m.doors[k].2.2] 48)) (.int .i64 (k : Int)) 3
        rw [World.size_alloc] at hcn
        have HCN := Lib.hid hcn
        clear hcn
        by_cases t1 : m.doors[k].2.2 = 0
        · have HD := Lib.hid (M.lockTo_no hlt t1)
          have e1 : (m.doors[k].2.2 != 0) = false := by simpa using t1
          clear t1 hown
          go_wp2_with fail
          go_roundw
          case rel => exact ⟨k + 1, by omega, by go_num, by rw [HD.out]; exact HO.out.alloc _, HN.out.alloc hzr _⟩
          case measure => simp [intOf]; omega
        · have HD := Lib.hid (M.lockTo_yes hlt t1)
          have e1 : (m.doors[k].2.2 != 0) = true := by simpa using t1
          clear t1
          go_wp2_with (at_builtin; refine wpList_append_own _ rfl _ _ 23 rfl w.heap.size 3 i0 (.int .i64 0) 1 8 Try.underlying23 hi0 hz0 hz1 hz2 rfl (by decide) _ _ _ rfl ((hown.alloc _).alloc _) ⟨wr.heap.size + 1, 0, none⟩ 1 1 [.int .i64 (k : Int)] rfl rfl HCN.out (fun x hx => by simp at hx; subst hx; rfl) (by unfold maxLen; omega) (by omega) (by simp; omega) ?_; intro v' w3 hown' hgrow3 hnil3)
          go_roundw
          case rel =>
            refine ⟨k + 1, by omega, by go_num, ?_, ((HN.out.alloc hzr _).alloc (by simp; omega) _).grown hgrow3 (by simp; omega) (own_base hown)⟩
            rw [HD.out]
            simpa [M.encIs] using hown'
          case measure => simp [intOf]; omega
      · obtain rfl : k = m.doors.length := by omega
        obtain ⟨ra, rc, rfl, hr1, hr2, _⟩ := own_slice hown
        clear hown
        rcases Nat.lt_or_ge 10 (M.lockTo m m.doors.length).length with hl | hl
        · have HNN := Lib.hid (M.good_no2 hl)
          have HF := Lib.hid (M.locksV_no HNN.out)
          go_wp2_with fail
          go_ret2
          rw [HF.out, HNN.out]
          exact intsOk_end (l := []) (ownsRow_empty _ _ _ _ (by omega)) (HN.out.alloc (by omega) _)
        · have HNN := Lib.hid (M.good_yes HM.out hl)
          have HF := Lib.hid (M.locksV_yes HNN.out)
          go_wp2_with fail
          go_ret2
          rw [HF.out, HNN.out]
          exact intsOk_end HO.out HN.out
theorem isLock_any (w : World) (lo hi : Nat) (m : M.Mz) (a b : Option Addr) (c d : Nat) (h : MzIn lo hi w m a c b d) (hz : hi ≤ w.heap.size) (_h1 : m.doors.length ≤ 1048576) (_h2 : m.keys.length ≤ 1048576) :
    Calls Try.prog 60 #[.agg #[.int .i64 m.size, .slice a m.doors.length c, .slice b m.keys.length d]] w (BoolPost w (M.goodB m)) := by
  have H := Lib.hid h
  clear h
  go_enter Try.func60, Try.ntmps60
  go_wp2_with fail
  refine named ?_
  intro W hW
  have hb : Below w.heap.size w W := by rw [hW]; exact below_alloc _ _
  clear hW
  refine (implLocks_lw W lo hi m a b c d (H.out.below hb hz) (by have := hb.size; omega) _h1 _h2).mono ?_
  rintro e w1 ⟨ra, rc, rfl, hr, hr1, hr2, hb1⟩
  have HB := Lib.hid (hb.trans (hb1.mono hb.size))
  clear hb hb1 hr
  go_wp2_with fail
  go_ret
  exact ⟨rfl, HB.out⟩
end C
end Go.Proofs.Ythgmkkkfhbjhoaa
