/-
  CONTRACTS of MirrorMaze on both sides: the maze in which each node is its mirror, in memory of its own, or the empty one and false; what lay in memory stays. No condition but that the maze reads so.
-/
import Derived.Test.YtmccpjdgnenmeaaMirMath
import Derived.Test.YtmccpjdgnenmeaaNumI
import Derived.Test.YtmccpjdgnenmeaaNumSL
namespace Go.Proofs.Ytmccpjdgnenmeaa
open Go.RowKit
namespace C
set_option maxHeartbeats 3200000
set_option maxRecDepth 20000
structure MSt (w : World) (m : M.Mz) (a b : Option Addr) (c d B : Nat) (wr : World) (va : Option Addr) (vc : Nat) (ts : List Int) : Prop where
  row : wr.ownsRow B 3 1 (.slice va ts.length vc) ts.length (M.encIs ts)
  box : Box3 wr w.heap.size 27 (.int .i64 m.size) (.slice a m.doors.length c) (.slice b m.keys.length d)
  res : Box3 wr (w.heap.size + 1) 27 (.int .i64 0) (.slice none 0 0) (.slice none 0 0)
  low : Below w.heap.size w wr
theorem specMir_lw (w : World) (lo hi : Nat) (m : M.Mz) (a b : Option Addr) (c d : Nat) (h : MzIn lo hi w m a c b d) (hz : hi ≤ w.heap.size) (_h1 : m.doors.length ≤ 1048576) (_h2 : m.keys.length ≤ 1048576) :
    Calls Try.prog 24 #[.agg #[.int .i64 m.size, .slice a m.doors.length c, .slice b m.keys.length d]] w (MzOkPost w (M.mirV m) (M.mazeB m)) := by
  obtain ⟨i0, hi0, hz0, hz1, hz2⟩ := info_parts infoI
  have H := Lib.hid h
  clear h
  go_enter Try.func24, Try.ntmps24
  go_wp2_with fail
  refine named ?_
  intro W hW
  have hb : Below w.heap.size w W := by rw [hW]; exact (below_alloc _ _).alloc (by simp) _
  have x1 : Box3 W w.heap.size 27 (.int .i64 m.size) (.slice a m.doors.length c) (.slice b m.keys.length d) := by rw [hW]; exact (Box3.new _ _ _ _ rfl).alloc _
  have y1 : Box3 W (w.heap.size + 1) 27 (.int .i64 0) (.slice none 0 0) (.slice none 0 0) := by rw [hW]; exact Box3.new _ _ _ _ (by simp)
  clear hW
  have hzw := hb.size
  refine (specMaze_any W lo hi m a b c d (H.out.below hb hz) (by omega)).mono ?_
  rintro e w1 ⟨rfl, hb1⟩
  have X1 := Lib.hid (x1.below hb1)
  have Y1 := Lib.hid (y1.below hb1)
  have hbl := Y1.out.lt
  have hbl0 := X1.out.lt
  have HB1 := Lib.hid (hb.trans (hb1.mono hzw))
  have hz1w := hb1.size
  clear hb hb1 x1 y1
  obtain ⟨c0, c1, c2⟩ := X1.out.cells
  obtain ⟨k0, k1, k2⟩ := Y1.out.cells
  obtain ⟨f0, f1, f2⟩ := Y1.out.free
  cases q0 : M.mazeB m with
  | false =>
    have HF := Lib.hid q0
    have HV := Lib.hid (M.mirV_no q0)
    clear q0
    go_wp2_with fail
    refine bodyPost_ret (v := .tuple #[.agg #[.int .i64 0, .slice none 0 0, .slice none 0 0], .bool false]) (by simp [results, Try.results24, go_sem, k0, k1, k2]) rfl ?_
    rw [HF.out, HV.out]
    exact mzNo_end HB1.out
  | true =>
    have HF := Lib.hid q0
    have HVA := Lib.hid (M.valid_of q0)
    have HV := Lib.hid (M.mirV_yes q0)
    have hs12 := HVA.out.size12
    have hs1 := HVA.out.size1
    have hdl := HVA.out.few
    have hkl := HVA.out.keysLen
    clear q0 k0 k1 k2 f0 f1 f2
    have st0 : MSt w m a b c d (w.heap.size + 1) (w1.alloc (.cells #[] 3)) (some ⟨w1.heap.size, 0, none⟩) 0 (M.mirTo m.size.toNat 0) :=
      ⟨ownsRow_empty _ _ _ _ (by omega), X1.out.alloc _, Y1.out.alloc _, HB1.out.alloc (by have := HB1.out.size; omega) _⟩
    have ST0 := Lib.hid st0
    clear st0
    go_wp2_with fail
    go_loopw [4, 5] (fun v4 v5 wr => ∃ (k : Nat) (va : Option Addr) (vc : Nat), (k : Int) ≤ m.size ∧ v4 = .slice va (M.mirTo m.size.toNat k).length vc ∧ v5 = .int .i64 (m.size - 1 - (k : Int)) ∧ MSt w m a b c d (w.heap.size + 1) wr va vc (M.mirTo m.size.toNat k)) (fun _ v5 _ => (intOf v5 + 1).toNat)
    case atStart => exact ⟨0, _, _, by omega, rfl, by simp, ST0.out⟩
    case round =>
      obtain ⟨k, va, vc, hk, rfl, rfl, hst⟩ := hrel
      have SR := Lib.hid hst
      have hzr := hst.low.size
      have hxl := hst.box.lt
      have hln : (M.mirTo m.size.toNat k).length ≤ 12 := by rw [M.mirTo_len]; omega
      clear c0 c1 c2 hst
      obtain ⟨c0, c1, c2⟩ := SR.out.box.cells
      by_cases hlt : (k : Int) < m.size
      · have HNX := Lib.hid (M.mirTo_next (m := m) (by omega) k)
        obtain ⟨u, hu⟩ : ∃ u, m.size - 1 - (k : Int) = u := ⟨_, rfl⟩
        have hge : (0 : Int) ≤ m.size - 1 - (k : Int) := by omega
        clear hu
        generalize hT : M.mirTo m.size.toNat k = ts at *
        clear hT
        go_wp2_with (at_builtin; refine wpList_append_own _ rfl _ _ 25 rfl (w.heap.size + 1) 3 i0 (.int .i64 0) 1 8 Try.underlying25 hi0 hz0 hz1 hz2 rfl (by decide) _ _ _ rfl (SR.out.row.alloc _) ⟨wr.heap.size, 0, none⟩ 1 1 [.int .i64 (m.size - 1 - (k : Int))] rfl rfl (cell_one_new _ _ _) (fun x hx => by simp at hx; subst hx; rfl) (by unfold maxLen; omega) (by omega) (by simp; omega) ?_; intro v' w3 hown' hgrow3 hnil3)
        obtain ⟨va2, vc2, hva2, _, _, _⟩ := own_slice hown'
        subst hva2
        have hnn : (ts ++ [m.size - 1 - (k : Int)]).length = ts.length + 1 := by rw [List.length_append]; rfl
        have hnew : MSt w m a b c d (w.heap.size + 1) w3 va2 vc2 (ts ++ [m.size - 1 - (k : Int)]) :=
          ⟨by rw [hnn]; simpa [M.encIs] using hown', (SR.out.box.alloc _).grown hgrow3 (own_ne_box SR.out.row SR.out.box (by decide)), (SR.out.res.alloc _).grown hgrow3 (own_ne_box SR.out.row SR.out.res (by decide)),
            (SR.out.low.alloc hzr _).grown hgrow3 (by simp; omega) (fun g hg => by have := own_base SR.out.row g hg; omega)⟩
        have HNEW := Lib.hid hnew
        clear hnew hown' hgrow3 hnil3
        go_roundw
        case rel => exact ⟨k + 1, va2, vc2, by omega, by rw [HNX.out, hnn], by simp; omega, by rw [HNX.out]; exact HNEW.out⟩
        case measure => simp [intOf]; omega
      · obtain rfl : k = m.size.toNat := by omega
        have hml : M.mirTo m.size.toNat m.size.toNat = M.mirL m := rfl
        have hmo : M.orderB (M.mirL m) m.size.toNat = true := M.mir_order _
        have hmb := M.mir_bd (n := m.size.toNat) (k := m.size.toNat) (by omega) (by omega)
        rw [hml] at hmb hln
        have hst2 := SR.out
        rw [hml] at hst2
        have HST2 := Lib.hid hst2
        have HMO := Lib.hid hmo
        have HMB := Lib.hid hmb
        have hng : ¬ (0 : Int) ≤ m.size - 1 - ((m.size.toNat : Nat) : Int) := by omega
        rw [hml]
        clear hml hmo hmb hst2
        go_wp2_with fail
        refine (l2Numbered_lw wr lo hi m a b c d (H.out.below HST2.out.low hz) (by omega) HVA.out (M.mirL m) va vc (w.heap.size + 1) wr.heap.size (OwnAt.of_own HST2.out.row).row (Nat.le_refl _) HMO.out).mono ?_
        rintro e w4 ⟨pa, pc, pb, pd, rfl, ho, hb4⟩
        have HB4 := Lib.hid (HST2.out.low.trans (hb4.mono (by omega)))
        have HO4 := Lib.hid ho
        have Y4 := Lib.hid (HST2.out.res.below hb4)
        have hz4 := hb4.size
        have hy4 := Y4.out.lt
        have hyr := HST2.out.res.lt
        clear hb4 ho c0 c1 c2
        obtain ⟨k0, k1, k2⟩ := Y4.out.cells
        obtain ⟨f0, f1, f2⟩ := Y4.out.free
        go_wp2_with fail
        refine bodyPost_ret (v := .tuple #[.agg #[.int .i64 (M.numOf m (M.mirL m)).size, .slice pa (M.numOf m (M.mirL m)).doors.length pc, .slice pb (M.numOf m (M.mirL m)).keys.length pd], .bool true]) (by simp [results, Try.results24, go_sem, k0, k1, k2]) rfl ?_
        rw [HF.out, HV.out]
        exact mzYes_end HB4.out HO4.out (by omega) (Nat.le_refl _) rfl rfl
theorem implMir_lw (w : World) (lo hi : Nat) (m : M.Mz) (a b : Option Addr) (c d : Nat) (h : MzIn lo hi w m a c b d) (hz : hi ≤ w.heap.size) (_h1 : m.doors.length ≤ 1048576) (_h2 : m.keys.length ≤ 1048576) :
    Calls Try.prog 26 #[.agg #[.int .i64 m.size, .slice a m.doors.length c, .slice b m.keys.length d]] w (MzOkPost w (M.mirV m) (M.mazeB m)) := by
  obtain ⟨i0, hi0, hz0, hz1, hz2⟩ := info_parts infoI
  have H := Lib.hid h
  clear h
  go_enter Try.func26, Try.ntmps26
  go_wp2_with fail
  refine named ?_
  intro W hW
  have hb : Below w.heap.size w W := by rw [hW]; exact (below_alloc _ _).alloc (by simp) _
  have x1 : Box3 W w.heap.size 27 (.int .i64 m.size) (.slice a m.doors.length c) (.slice b m.keys.length d) := by rw [hW]; exact (Box3.new _ _ _ _ rfl).alloc _
  have y1 : Box3 W (w.heap.size + 1) 27 (.int .i64 0) (.slice none 0 0) (.slice none 0 0) := by rw [hW]; exact Box3.new _ _ _ _ (by simp)
  clear hW
  have hzw := hb.size
  refine (isMaze_any W lo hi m a b c d (H.out.below hb hz) (by omega)).mono ?_
  rintro e w1 ⟨rfl, hb1⟩
  have X1 := Lib.hid (x1.below hb1)
  have Y1 := Lib.hid (y1.below hb1)
  have hbl := Y1.out.lt
  have hbl0 := X1.out.lt
  have HB1 := Lib.hid (hb.trans (hb1.mono hzw))
  have hz1w := hb1.size
  clear hb hb1 x1 y1
  obtain ⟨c0, c1, c2⟩ := X1.out.cells
  obtain ⟨k0, k1, k2⟩ := Y1.out.cells
  obtain ⟨f0, f1, f2⟩ := Y1.out.free
  cases q0 : M.mazeB m with
  | false =>
    have HF := Lib.hid q0
    have HV := Lib.hid (M.mirV_no q0)
    clear q0
    go_wp2_with fail
    refine bodyPost_ret (v := .tuple #[.agg #[.int .i64 0, .slice none 0 0, .slice none 0 0], .bool false]) (by simp [results, Try.results26, go_sem, k0, k1, k2]) rfl ?_
    rw [HF.out, HV.out]
    exact mzNo_end HB1.out
  | true =>
    have HF := Lib.hid q0
    have HVA := Lib.hid (M.valid_of q0)
    have HV := Lib.hid (M.mirV_yes q0)
    have hs12 := HVA.out.size12
    have hs1 := HVA.out.size1
    have hdl := HVA.out.few
    have hkl := HVA.out.keysLen
    clear q0 k0 k1 k2 f0 f1 f2
    have st0 : MSt w m a b c d (w.heap.size + 1) (w1.alloc (.cells #[] 3)) (some ⟨w1.heap.size, 0, none⟩) 0 (M.mirTo m.size.toNat 0) :=
      ⟨ownsRow_empty _ _ _ _ (by omega), X1.out.alloc _, Y1.out.alloc _, HB1.out.alloc (by have := HB1.out.size; omega) _⟩
    have ST0 := Lib.hid st0
    clear st0
    go_wp2_with fail
    go_loopw [4, 5, 13] (fun v4 _ i wr => ∃ (k : Nat) (va : Option Addr) (vc : Nat), (k : Int) ≤ m.size ∧ v4 = .slice va (M.mirTo m.size.toNat k).length vc ∧ i = .int .i64 k ∧ MSt w m a b c d (w.heap.size + 1) wr va vc (M.mirTo m.size.toNat k)) (fun _ _ i _ => (m.size - intOf i).toNat)
    case atStart => exact ⟨0, _, _, by omega, rfl, rfl, ST0.out⟩
    case round =>
      obtain ⟨k, va, vc, hk, rfl, rfl, hst⟩ := hrel
      have SR := Lib.hid hst
      have hzr := hst.low.size
      have hxl := hst.box.lt
      have hln : (M.mirTo m.size.toNat k).length ≤ 12 := by rw [M.mirTo_len]; omega
      clear c0 c1 c2 hst
      obtain ⟨c0, c1, c2⟩ := SR.out.box.cells
      by_cases hlt : (k : Int) < m.size
      · have HNX := Lib.hid (M.mirTo_next (m := m) (by omega) k)
        obtain ⟨u, hu⟩ : ∃ u, m.size - 1 - (k : Int) = u := ⟨_, rfl⟩
        have hs1w : (0 : Int) ≤ m.size - 1 := by omega
        clear hu
        generalize hT : M.mirTo m.size.toNat k = ts at *
        clear hT
        go_wp2_with (at_builtin; refine wpList_append_own _ rfl _ _ 25 rfl (w.heap.size + 1) 3 i0 (.int .i64 0) 1 8 Try.underlying25 hi0 hz0 hz1 hz2 rfl (by decide) _ _ _ rfl (SR.out.row.alloc _) ⟨wr.heap.size, 0, none⟩ 1 1 [.int .i64 (m.size - 1 - (k : Int))] rfl rfl (cell_one_new _ _ _) (fun x hx => by simp at hx; subst hx; rfl) (by unfold maxLen; omega) (by omega) (by simp; omega) ?_; intro v' w3 hown' hgrow3 hnil3)
        obtain ⟨va2, vc2, hva2, _, _, _⟩ := own_slice hown'
        subst hva2
        have hnn : (ts ++ [m.size - 1 - (k : Int)]).length = ts.length + 1 := by rw [List.length_append]; rfl
        have hnew : MSt w m a b c d (w.heap.size + 1) w3 va2 vc2 (ts ++ [m.size - 1 - (k : Int)]) :=
          ⟨by rw [hnn]; simpa [M.encIs] using hown', (SR.out.box.alloc _).grown hgrow3 (own_ne_box SR.out.row SR.out.box (by decide)), (SR.out.res.alloc _).grown hgrow3 (own_ne_box SR.out.row SR.out.res (by decide)),
            (SR.out.low.alloc hzr _).grown hgrow3 (by simp; omega) (fun g hg => by have := own_base SR.out.row g hg; omega)⟩
        have HNEW := Lib.hid hnew
        clear hnew hown' hgrow3 hnil3
        go_roundw
        case rel => exact ⟨k + 1, va2, vc2, by omega, by rw [HNX.out, hnn], by go_num, by rw [HNX.out]; exact HNEW.out⟩
        case measure => simp [intOf]; omega
      · obtain rfl : k = m.size.toNat := by omega
        have hml : M.mirTo m.size.toNat m.size.toNat = M.mirL m := rfl
        have hmo : M.orderB (M.mirL m) m.size.toNat = true := M.mir_order _
        have hmb := M.mir_bd (n := m.size.toNat) (k := m.size.toNat) (by omega) (by omega)
        rw [hml] at hmb hln
        have hst2 := SR.out
        rw [hml] at hst2
        have HST2 := Lib.hid hst2
        have HMO := Lib.hid hmo
        have HMB := Lib.hid hmb
        have hng : ¬ ((m.size.toNat : Nat) : Int) < m.size := by omega
        rw [hml]
        clear hml hmo hmb hst2
        have CN := implNum_lw wr lo hi m a b c d (H.out.below HST2.out.low hz) (by omega) _h1 _h2 (w.heap.size + 1) wr.heap.size va vc (M.mirL m) (OwnAt.of_own HST2.out.row).row (Nat.le_refl _) (by omega) (by obtain ⟨_, _, e, h1, h2, _⟩ := own_slice HST2.out.row; injection e with _ _ e; rw [e]; exact h1) (by obtain ⟨_, _, e, h1, h2, _⟩ := own_slice HST2.out.row; injection e with _ _ e; rw [e]; exact h2) HMB.out
        rw [M.mir_numV HF.out, M.mir_numB HF.out] at CN
        have CNH := Lib.hid CN
        clear CN
        go_wp2_with fail
        refine CNH.out.mono ?_
        rintro e w4 ⟨pa, pc, pb, pd, rfl, ho, hb4⟩
        have HB4 := Lib.hid (HST2.out.low.trans (hb4.mono (by omega)))
        have HO4 := Lib.hid ho
        have Y4 := Lib.hid (HST2.out.res.below hb4)
        have hz4 := hb4.size
        have hy4 := Y4.out.lt
        have hyr := HST2.out.res.lt
        clear hb4 ho c0 c1 c2
        obtain ⟨k0, k1, k2⟩ := Y4.out.cells
        obtain ⟨f0, f1, f2⟩ := Y4.out.free
        go_wp2_with fail
        refine bodyPost_ret (v := .tuple #[.agg #[.int .i64 (M.mirV m).size, .slice pa (M.mirV m).doors.length pc, .slice pb (M.mirV m).keys.length pd], .bool true]) (by simp [results, Try.results26, go_sem, k0, k1, k2]) rfl ?_
        rw [HF.out]
        exact mzYes_end HB4.out HO4.out (by omega) (Nat.le_refl _) rfl rfl
end C
end Go.Proofs.Ytmccpjdgnenmeaa
