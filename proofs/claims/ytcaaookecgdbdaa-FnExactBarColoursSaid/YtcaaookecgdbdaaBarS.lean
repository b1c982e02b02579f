/-
  CONTRACTS of the model's l2Barred and BarColours; what lay in memory stays. No condition but that the maze reads so.
-/
import Derived.Test.YtcaaookecgdbdaaBar
import Derived.Deep.RegionLaw
namespace Go.Proofs.Ytcaaookecgdbdaa
open Go.RowKit
namespace C
set_option maxHeartbeats 3200000
set_option maxRecDepth 20000
structure LSt (w : World) (m : M.Mz) (a b : Option Addr) (c d : Nat) (wr : World) (va ka : Option Addr) (vc kc : Nat) (ds : List M.Dr) (ks : List Int) : Prop where
  drow : wr.ownsRow (w.heap.size + 1 + 1) 61 3 (.slice va ds.length vc) ds.length (M.encDs ds)
  krow : wr.ownsRow (w.heap.size + 1 + 1) 3 1 (.slice ka ks.length kc) ks.length (M.encIs ks)
  box : Box3 wr w.heap.size 27 (.int .i64 m.size) (.slice a m.doors.length c) (.slice b m.keys.length d)
  res : Box3 wr (w.heap.size + 1) 27 (.int .i64 0) (.slice none 0 0) (.slice none 0 0)
  out : Box3 wr (w.heap.size + 1 + 1 + 1 + 1) 27 (.int .i64 m.size) (.slice va ds.length vc) (.slice ka ks.length kc)
  low : Below w.heap.size w wr
theorem kept_dr_yes {l : List M.Dr} {x : Int} {k : Nat} (hk : k < l.length) (h : M.barD x l[k] = false) : M.kept (M.barD x) (l.take (k + 1)) = M.kept (M.barD x) (l.take k) ++ [l[k]] := M.kept_yes hk h
theorem Box3.set2' {X : World} {g : Nat} {T : TypeId} {x y z : Value} (h : Box3 X g T x y z) (u : Value) : Box3 (X.setCell ⟨g, 2, none⟩ u) g T x y u := by
  unfold Box3 at h ⊢
  simp [World.setCell, Array.getElem?_modify, h]
theorem barred_any (w : World) (lo hi : Nat) (m : M.Mz) (a b : Option Addr) (c d : Nat) (h : MzIn lo hi w m a c b d) (hz : hi ≤ w.heap.size) (h1 : m.doors.length ≤ 1000) (h2 : m.keys.length ≤ 1000) (hkl : (m.keys.length : Int) = m.size) (x : Int) :
    Calls Try.prog 89 #[.agg #[.int .i64 m.size, .slice a m.doors.length c, .slice b m.keys.length d], .int .i64 x] w (MzPost w (M.barred m x)) := by
  obtain ⟨i0, hi0, hz0, hz1, hzb⟩ := info_parts infoD
  obtain ⟨j0, hj0, hy0, hy1, hyb⟩ := info_parts infoI
  have H := Lib.hid h
  clear h
  go_enter Try.func89, Try.ntmps89
  go_wp2_with fail
  refine wp_named ?_
  intro W hW
  have ST := Lib.hid (show LSt w m a b c d W (some ⟨w.heap.size + 1 + 1, 0, none⟩) (some ⟨w.heap.size + 1 + 1 + 1, 0, none⟩) 0 0 (M.kept (M.barD x) (m.doors.take 0)) ((m.keys.take 0).map fun k => M.lessS k x) from by
    rw [hW]
    refine ⟨?_, ?_, ?_, ?_, ?_, ?_⟩
    · have := ownsRow_empty ((w.alloc (.cells #[.int .i64 m.size, .slice a m.doors.length c, .slice b m.keys.length d] 27)).alloc (.cells #[.int .i64 0, .slice none 0 0, .slice none 0 0] 27)) (w.heap.size + 1 + 1) 61 3 (by simp)
      rw [World.size_alloc, World.size_alloc] at this
      exact (this.alloc _).alloc _
    · have := ownsRow_empty (((w.alloc (.cells #[.int .i64 m.size, .slice a m.doors.length c, .slice b m.keys.length d] 27)).alloc (.cells #[.int .i64 0, .slice none 0 0, .slice none 0 0] 27)).alloc (.cells #[] 61)) (w.heap.size + 1 + 1) 3 1 (by simp)
      rw [World.size_alloc, World.size_alloc, World.size_alloc] at this
      exact this.alloc _
    · exact ((((Box3.new _ _ _ _ rfl).alloc _).alloc _).alloc _).alloc _
    · exact (((Box3.new _ _ _ _ (by simp)).alloc _).alloc _).alloc _
    · exact Box3.new _ _ _ _ (by simp)
    · exact ((((below_alloc _ _).alloc (by simp) _).alloc (by simp; omega) _).alloc (by simp; omega) _).alloc (by simp; omega) _)
  clear hW
  go_loopw [6] (fun v6 wr => ∃ (k : Nat) (va ka : Option Addr) (vc kc : Nat), k ≤ m.doors.length ∧ v6 = .int .i64 k ∧ LSt w m a b c d wr va ka vc kc (M.kept (M.barD x) (m.doors.take k)) ((m.keys.take 0).map fun k => M.lessS k x)) (fun v6 _ => m.doors.length - (intOf v6).toNat)
  case atStart => exact ⟨0, _, _, _, _, Nat.zero_le _, rfl, ST.out⟩
  case round =>
    obtain ⟨k, va, ka, vc, kc, hk, rfl, hst⟩ := hrel
    have SR := Lib.hid hst
    have hzr := hst.low.size
    have hol := hst.out.lt
    obtain ⟨c0, c1, c2⟩ := hst.box.cells
    by_cases hkl' : k < m.doors.length
    · obtain ⟨db, off, hda, _, hdb, hc0⟩ := (H.out.doors.below hst.low hz).at_ (k := k * 3) (by rw [M.encDs_len]; omega)
      have d0 := hc0 _ _ (M.encDs_at0 hkl')
      have d1 : wr.cell? ⟨db, off + k * 3 + 1, none⟩ = some (.int .i64 m.doors[k].2.1) := hc0 _ _ (M.encDs_at1 hkl')
      have d2 : wr.cell? ⟨db, off + k * 3 + 2, none⟩ = some (.int .i64 m.doors[k].2.2) := hc0 _ _ (M.encDs_at2 hkl')
      subst hda
      have hkd : k < c := by have := H.out.c1; omega
      have hfl : (M.kept (M.barD x) (m.doors.take k)).length ≤ k := Nat.le_trans (List.length_filter_le _ _) (by simp; omega)
      have HY := Lib.hid (fun hq : M.barD x m.doors[k] = false => M.kept_yes hkl' hq)
      have HN := Lib.hid (fun hq : M.barD x m.doors[k] = true => M.kept_no hkl' hq)
      clear hc0 hst
      cases hq : M.barD x m.doors[k] with
      | true =>
        have HE := Lib.hid (HN.out hq)
        have e1 : (bits .and .i64 m.doors[k].2.2 x == 0) = false := by unfold M.barD at hq; simpa using hq
        clear hq
        go_wp2_with fail
        go_roundw
        case rel => exact ⟨k + 1, va, ka, vc, kc, by omega, by go_num, by rw [HE.out]; exact SR.out⟩
        case measure => simp [intOf]; omega
      | false =>
        have HE := Lib.hid (HY.out hq)
        have e1 : (bits .and .i64 m.doors[k].2.2 x == 0) = true := by unfold M.barD at hq; simpa using hq
        clear hq
        generalize M.kept (M.barD x) (m.doors.take k) = ds at *
        generalize (m.keys.take 0).map (fun k => M.lessS k x) = ks at *
        have o5 : wr.drew.ownsRow (w.heap.size + 1 + 1) 61 3 (.slice va ds.length vc) ds.length (M.encDs ds) := SR.out.drow
        have k5 : wr.drew.ownsRow (w.heap.size + 1 + 1) 3 1 (.slice ka ks.length kc) ks.length (M.encIs ks) := SR.out.krow
        have t5 : Box3 wr.drew (w.heap.size + 1 + 1 + 1 + 1) 27 (.int .i64 m.size) (.slice va ds.length vc) (.slice ka ks.length kc) := SR.out.out
        obtain ⟨s0, s1, s2⟩ := SR.out.out.cells
        have O5 := Lib.hid o5
        have K5 := Lib.hid k5
        have T5 := Lib.hid t5
        clear o5 k5 t5
        go_wp2_with fail
        go_region_law (first
          | (have o5 := O5.out; have t5 := T5.out; refine step_append_own rfl (.tmp 30) (.tmp 36) 24 rfl (w.heap.size + 1 + 1) 61 i0 (.agg #[.int .i64 0, .int .i64 0, .int .i64 0]) 3 24 Try.underlying24 hi0 hz0 hz1 hzb rfl (by decide) _ _ _ (o5.alloc _) (by first | (simp [Act.eval]; done) | simp [Act.eval, Act.put]) ⟨wr.heap.size, 0, none⟩ 1 1 (M.encD m.doors[k]) (by first | (simp [Act.eval]; done) | simp [Act.eval, Act.put]) (show (M.encD m.doors[k]).length = 1 * 3 from rfl) (news3 (Box3.new _ _ _ _ rfl)) (encD_one _) (by unfold maxLen; omega) (by omega) (by simp; omega) ?_; intro v6 w6 hown6 hgrow6 hnil6; have bx6 := (t5.alloc _).grown hgrow6 (own_ne_box o5 t5 (by decide)); obtain ⟨va2, vc2, hva2, hv1, hv2, hv3⟩ := own_slice hown6; subst hva2; obtain ⟨s0, s1, s2⟩ := bx6.cells; obtain ⟨f0, f1, f2⟩ := bx6.free; have hl6 := bx6.lt))
        all_goals
          have hnn : (ds ++ [m.doors[k]]).length = ds.length + 1 := by rw [List.length_append]; rfl
          have hrow : (w6.setCell ⟨w.heap.size + 1 + 1 + 1 + 1, 1, none⟩ (.slice va2 (ds.length + 1) vc2)).ownsRow (w.heap.size + 1 + 1) 61 3 (.slice va2 (ds ++ [m.doors[k]]).length vc2) (ds ++ [m.doors[k]]).length (M.encDs (ds ++ [m.doors[k]])) := by
            rw [hnn, M.encDs_append, encDs_single]
            exact own_setBox hown6 bx6 (by decide) 1 _
          have hkr := own_setBox ((K5.out.alloc (.cells #[.int .i64 m.doors[k].1, .int .i64 m.doors[k].2.1, .int .i64 m.doors[k].2.2] 61)).kept hgrow6 (own_ne_own2 o5 K5.out (by decide))) bx6 (by decide) 1 (.slice va2 (ds.length + 1) vc2)
          have xb : Box3 wr.drew w.heap.size 27 (.int .i64 m.size) (.slice (some ⟨db, off, none⟩) m.doors.length c) (.slice b m.keys.length d) := SR.out.box
          have yb : Box3 wr.drew (w.heap.size + 1) 27 (.int .i64 0) (.slice none 0 0) (.slice none 0 0) := SR.out.res
          have lb := SR.out.low.drew.alloc (show w.heap.size ≤ wr.drew.heap.size from hzr) (.cells #[.int .i64 m.doors[k].1, .int .i64 m.doors[k].2.1, .int .i64 m.doors[k].2.2] 61)
          have hnew : LSt w m (some ⟨db, off, none⟩) b c d (w6.setCell ⟨w.heap.size + 1 + 1 + 1 + 1, 1, none⟩ (.slice va2 (ds.length + 1) vc2)) va2 ka vc2 kc (ds ++ [m.doors[k]]) ks :=
            ⟨hrow, hkr, ((xb.alloc _).grown hgrow6 (own_ne_box o5 xb (by decide))).other (by omega) 1 _, ((yb.alloc _).grown hgrow6 (own_ne_box o5 yb (by decide))).other (by omega) 1 _, by rw [hnn]; exact bx6.set1 _,
              (lb.grown hgrow6 (by show w.heap.size ≤ (wr.drew.alloc _).heap.size; simp; omega) (fun g hg => by have := own_base o5 g hg; omega)).setCell (p := ⟨w.heap.size + 1 + 1 + 1 + 1, 1, none⟩) (by show w.heap.size ≤ w.heap.size + 1 + 1 + 1 + 1; omega) _⟩
          have HNEW := Lib.hid hnew
          clear hrow hkr xb yb lb hnew hgrow6 hown6 hnil6
          go_wp2_with fail
          go_roundw
          case rel => exact ⟨k + 1, va2, ka, vc2, kc, by omega, by go_num, by rw [HE.out]; exact HNEW.out⟩
          case measure => simp [intOf]; omega
    · obtain rfl : k = m.doors.length := by omega
      have hfin := SR.out
      rw [List.take_of_length_le (Nat.le_refl _)] at hfin
      have S2 := Lib.hid hfin
      have hdl : (M.kept (M.barD x) m.doors).length ≤ m.doors.length := List.length_filter_le _ _
      clear hst hfin
      generalize hds : M.kept (M.barD x) m.doors = ds at *
      have HDS := Lib.hid hds
      clear hds
      go_wp2_with fail
      go_loopw [7] (fun v7 wr => ∃ (k : Nat) (ka : Option Addr) (kc : Nat), k ≤ m.keys.length ∧ v7 = .int .i64 k ∧ LSt w m a b c d wr va ka vc kc ds ((m.keys.take k).map fun k => M.lessS k x)) (fun v7 _ => m.keys.length - (intOf v7).toNat)
      case atStart => exact ⟨0, _, _, Nat.zero_le _, rfl, S2.out⟩
      case round =>
        obtain ⟨k, ka2, kc2, hk2, rfl, hst⟩ := hrel
        have SK := Lib.hid hst
        have hzr2 := hst.low.size
        have hol2 := hst.out.lt
        obtain ⟨c0, c1, c2⟩ := hst.box.cells
        by_cases hkk : k < m.keys.length
        · obtain ⟨ib, ioff, hib, _, hib2, hic⟩ := (H.out.keys.below hst.low hz).at_ (k := k) (by rw [M.encIs_len]; exact hkk)
          have kx := hic _ _ (M.encIs_at hkk)
          subst hib
          have hkd : k < d := by have := H.out.d1; omega
          have hks : (k : Int) < m.size := by omega
          have HTK : Hid (((m.keys.take (k + 1)).map fun k => M.lessS k x) = ((m.keys.take k).map fun k => M.lessS k x) ++ [M.lessS m.keys[k] x]) := Lib.hid (by rw [List.take_succ_eq_append_getElem hkk, List.map_append]; rfl)
          have hless : bits .andNot .i64 m.keys[k] x = M.lessS m.keys[k] x := rfl
          have hkl2 : ((m.keys.take k).map fun k => M.lessS k x).length ≤ k := by simp; omega
          clear hic hst
          generalize (m.keys.take k).map (fun k => M.lessS k x) = ks at *
          generalize M.lessS m.keys[k] x = u at *
          have o5 : wr.drew.ownsRow (w.heap.size + 1 + 1) 61 3 (.slice va ds.length vc) ds.length (M.encDs ds) := SK.out.drow
          have k5 : wr.drew.ownsRow (w.heap.size + 1 + 1) 3 1 (.slice ka2 ks.length kc2) ks.length (M.encIs ks) := SK.out.krow
          have t5 : Box3 wr.drew (w.heap.size + 1 + 1 + 1 + 1) 27 (.int .i64 m.size) (.slice va ds.length vc) (.slice ka2 ks.length kc2) := SK.out.out
          obtain ⟨s0, s1, s2⟩ := SK.out.out.cells
          have O5 := Lib.hid o5
          have K5 := Lib.hid k5
          have T5 := Lib.hid t5
          clear o5 k5 t5
          go_wp2_with fail
          go_region_law (first
            | (have k5 := K5.out; have t5 := T5.out; refine step_append_own rfl (.tmp 46) (.tmp 54) 25 rfl (w.heap.size + 1 + 1) 3 j0 (.int .i64 0) 1 8 Try.underlying25 hj0 hy0 hy1 hyb rfl (by decide) _ _ _ (k5.alloc _) (by first | (simp [Act.eval]; done) | simp [Act.eval, Act.put]) ⟨wr.heap.size, 0, none⟩ 1 1 [.int .i64 u] (by first | (simp [Act.eval]; done) | simp [Act.eval, Act.put]) rfl (cell_one_new wr.drew (.int .i64 u) 3) (fun z hz => by simp at hz; subst hz; rfl) (by unfold maxLen; omega) (by omega) (by simp; omega) ?_; intro v6 w6 hown6 hgrow6 hnil6; have bx6 := (t5.alloc _).grown hgrow6 (own_ne_box k5 t5 (by decide)); obtain ⟨va2, vc2, hva2, hv1, hv2, hv3⟩ := own_slice hown6; subst hva2; obtain ⟨s0, s1, s2⟩ := bx6.cells; obtain ⟨f0, f1, f2⟩ := bx6.free; have hl6 := bx6.lt))
          all_goals
            have hnn : (ks ++ [u]).length = ks.length + 1 := by rw [List.length_append]; rfl
            have hrow : (w6.setCell ⟨w.heap.size + 1 + 1 + 1 + 1, 2, none⟩ (.slice va2 (ks.length + 1) vc2)).ownsRow (w.heap.size + 1 + 1) 3 1 (.slice va2 (ks ++ [u]).length vc2) (ks ++ [u]).length (M.encIs (ks ++ [u])) := by
              rw [hnn, M.encIs_append]
              exact own_setBox hown6 bx6 (by decide) 2 _
            have hdr := own_setBox ((O5.out.alloc (.cells #[.int .i64 u] 3)).kept hgrow6 (own_ne_own2 k5 O5.out (by decide))) bx6 (by decide) 2 (.slice va2 (ks.length + 1) vc2)
            have xb : Box3 wr.drew w.heap.size 27 (.int .i64 m.size) (.slice a m.doors.length c) (.slice (some ⟨ib, ioff, none⟩) m.keys.length d) := SK.out.box
            have yb : Box3 wr.drew (w.heap.size + 1) 27 (.int .i64 0) (.slice none 0 0) (.slice none 0 0) := SK.out.res
            have lb := SK.out.low.drew.alloc (show w.heap.size ≤ wr.drew.heap.size from hzr2) (.cells #[.int .i64 u] 3)
            have hnew : LSt w m a (some ⟨ib, ioff, none⟩) c d (w6.setCell ⟨w.heap.size + 1 + 1 + 1 + 1, 2, none⟩ (.slice va2 (ks.length + 1) vc2)) va va2 vc vc2 ds (ks ++ [u]) :=
              ⟨hdr, hrow, ((xb.alloc _).grown hgrow6 (own_ne_box k5 xb (by decide))).other (by omega) 2 _, ((yb.alloc _).grown hgrow6 (own_ne_box k5 yb (by decide))).other (by omega) 2 _, by rw [hnn]; exact bx6.set2' _,
                (lb.grown hgrow6 (by show w.heap.size ≤ (wr.drew.alloc _).heap.size; simp; omega) (fun g hg => by have := own_base k5 g hg; omega)).setCell (p := ⟨w.heap.size + 1 + 1 + 1 + 1, 2, none⟩) (by show w.heap.size ≤ w.heap.size + 1 + 1 + 1 + 1; omega) _⟩
            have HNEW := Lib.hid hnew
            clear hrow hdr xb yb lb hnew hgrow6 hown6 hnil6
            go_wp2_with fail
            go_roundw
            case rel => exact ⟨k + 1, va2, vc2, by omega, by go_num, by rw [HTK.out]; exact HNEW.out⟩
            case measure => simp [intOf]; omega
        · obtain rfl : k = m.keys.length := by omega
          have hks : ¬ (m.keys.length : Int) < m.size := by omega
          have hfin := SK.out
          rw [List.take_of_length_le (Nat.le_refl _)] at hfin
          obtain ⟨s0, s1, s2⟩ := hfin.out.cells
          obtain ⟨k0, k1, k2⟩ := hfin.res.cells
          obtain ⟨f0, f1, f2⟩ := hfin.res.free
          have HMD : Hid (ds = (M.barred m x).doors) := Lib.hid HDS.out.symm
          have HMK : Hid ((m.keys.map fun k => M.lessS k x) = (M.barred m x).keys) := Lib.hid rfl
          generalize (m.keys.map fun k => M.lessS k x) = ks at *
          obtain ⟨r0, r1, r2⟩ := (hfin.res.setAll (.int .i64 m.size) (.slice va ds.length vc) (.slice ka2 ks.length kc2)).cells
          obtain ⟨va', vc', hve, hv1, hv2, _⟩ := own_slice hfin.drow
          injection hve with hva _ hvc
          rw [← hvc] at hv1 hv2
          obtain ⟨ka', kc', hke, hk1', hk2', _⟩ := own_slice hfin.krow
          injection hke with hka _ hkc
          rw [← hkc] at hk1' hk2'
          have HFI := Lib.hid hfin
          clear hst hfin hva hvc hka hkc
          go_wp2_with fail
          refine bodyPost_ret (v := .agg #[.int .i64 m.size, .slice va ds.length vc, .slice ka2 ks.length kc2]) (by simp [results, Try.results89, go_sem, r0, r1, r2]) rfl ?_
          have hD := (OwnAt.of_own HFI.out.drow).mono (Nat.le_refl _) (Nat.le_refl _)
          have hK := (OwnAt.of_own HFI.out.krow).mono (Nat.le_refl _) (Nat.le_refl _)
          exact mz_endAt (m := M.barred m x) (lo := w.heap.size + 1 + 1) (hi := wr.heap.size) (r := w.heap.size + 1) HFI.out.low ⟨by rw [← HMD.out]; exact hD, by rw [← HMK.out]; exact hK, by rw [← HMD.out]; exact hv1, hv2, by rw [← HMK.out]; exact hk1', hk2'⟩ (.inl (by omega)) (by omega) (by omega) (Nat.le_refl _) (by rw [← HMD.out]) (by rw [← HMK.out])
theorem specBar_lw (w : World) (lo hi : Nat) (m : M.Mz) (a b : Option Addr) (c d : Nat) (h : MzIn lo hi w m a c b d) (hz : hi ≤ w.heap.size) (h1 : m.doors.length ≤ 1048576) (h2 : m.keys.length ≤ 1048576) (x : Int) (_x1 : -9223372036854775808 ≤ x) (_x2 : x ≤ 9223372036854775807) :
    Calls Try.prog 41 #[.agg #[.int .i64 m.size, .slice a m.doors.length c, .slice b m.keys.length d], .int .i64 x] w (MzOkPost w (M.barV m x) (M.barB m x)) := by
  have H := Lib.hid h
  clear h
  go_enter Try.func41, Try.ntmps41
  go_wp2_with fail
  refine named ?_
  intro W hW
  have hb : Below w.heap.size w W := by rw [hW]; exact (below_alloc _ _).alloc (by simp) _
  have x1 : Box3 W w.heap.size 27 (.int .i64 m.size) (.slice a m.doors.length c) (.slice b m.keys.length d) := by rw [hW]; exact (Box3.new _ _ _ _ rfl).alloc _
  have y1 : Box3 W (w.heap.size + 1) 27 (.int .i64 0) (.slice none 0 0) (.slice none 0 0) := by rw [hW]; exact Box3.new _ _ _ _ (by simp)
  clear hW
  have hzw := hb.size
  refine (specMaze_any W lo hi m a b c d (H.out.below hb hz) (by omega)).mono ?_
  rintro e W2 ⟨rfl, hb1⟩
  have X2 := Lib.hid (x1.below hb1)
  have Y2 := Lib.hid (y1.below hb1)
  have hbl := Y2.out.lt
  have hwl := y1.lt
  have HB2 := Lib.hid (hb.trans (hb1.mono hzw))
  have hz1w := hb1.size
  clear hb hb1 x1 y1
  obtain ⟨c0, c1, c2⟩ := X2.out.cells
  obtain ⟨k0, k1, k2⟩ := Y2.out.cells
  obtain ⟨f0, f1, f2⟩ := Y2.out.free
  cases q0 : M.mazeB m with
  | false =>
    have HF : Hid (M.barB m x = false) := Lib.hid (by unfold M.barB; rw [q0]; rfl)
    have HV := Lib.hid (M.barV_no HF.out)
    clear q0
    go_wp2_with fail
    refine bodyPost_ret (v := .tuple #[.agg #[.int .i64 0, .slice none 0 0, .slice none 0 0], .bool false]) (by simp [results, Try.results41, go_sem, k0, k1, k2]) rfl ?_
    rw [HF.out, HV.out]
    exact mzNo_endAt HB2.out (by omega)
  | true =>
    have HM := Lib.hid q0
    have HVA := Lib.hid (M.valid_of q0)
    clear q0
    go_wp2_with fail
    refine (l2Set_any _ _).mono ?_
    rintro e w9 ⟨rfl, rfl⟩
    cases q1 : M.setB x with
    | false =>
      have HF : Hid (M.barB m x = false) := Lib.hid (by unfold M.barB; rw [q1, Bool.and_false])
      have HV := Lib.hid (M.barV_no HF.out)
      clear q1
      go_wp2_with fail
      refine bodyPost_ret (v := .tuple #[.agg #[.int .i64 0, .slice none 0 0, .slice none 0 0], .bool false]) (by simp [results, Try.results41, go_sem, k0, k1, k2]) rfl ?_
      rw [HF.out, HV.out]
      exact mzNo_endAt HB2.out (by omega)
    | true =>
      have HF : Hid (M.barB m x = true) := Lib.hid (by unfold M.barB; rw [q1, HM.out]; rfl)
      have HV := Lib.hid (M.barV_yes HF.out)
      have v30 := HVA.out.few
      have vk := HVA.out.keysLen
      have v12 := HVA.out.size12
      clear q1
      go_wp2_with fail
      refine (barred_any W2 lo hi m a b c d (H.out.below HB2.out hz) (by omega) (by omega) (by omega) vk x).mono ?_
      rintro e w3 ⟨ca, cc, cb, cd, rfl, ho, hb3⟩
      have hz3w := hb3.size
      have Y3 := Lib.hid (Y2.out.below hb3)
      have HB3 := Lib.hid (HB2.out.trans (hb3.mono (by omega)))
      have HO := Lib.hid ho
      clear hb3 ho k0 k1 k2 f0 f1 f2
      generalize M.barred m x = mv at *
      obtain ⟨k0, k1, k2⟩ := Y3.out.cells
      obtain ⟨f0, f1, f2⟩ := Y3.out.free
      obtain ⟨r0, r1, r2⟩ := (Y3.out.setAll (.int .i64 mv.size) (.slice ca mv.doors.length cc) (.slice cb mv.keys.length cd)).cells
      go_wp2_with fail
      refine bodyPost_ret (v := .tuple #[.agg #[.int .i64 mv.size, .slice ca mv.doors.length cc, .slice cb mv.keys.length cd], .bool true]) (by simp [results, Try.results41, go_sem, r0, r1, r2]) rfl ?_
      rw [HF.out, HV.out]
      exact mzYes_endAt (lo := W2.heap.size) (hi := w3.heap.size) HB3.out HO.out (.inl hbl) (by omega) (by omega) (Nat.le_refl _) rfl rfl
end C
end Go.Proofs.Ytcaaookecgdbdaa
