/-
  CONTRACTS of spec.l5Full, FirstEntryOrder, LastEntryOrder: the complete entry orders, in memory of the call's own; what lay in memory stays. Condition: for l5Full a valid maze.
-/
import Derived.Test.YtdjmmgfjcchloaaNextS
import Derived.Test.YtdjmmgfjcchloaaFullM
import Derived.Test.YtdjmmgfjcchloaaBoolOk
namespace Go.Proofs.Ytdjmmgfjcchloaa
open Go.RowKit
namespace C
set_option maxHeartbeats 3200000
set_option maxRecDepth 20000
theorem l5Full_min (w : World) (lo hi : Nat) (m : M.Mz) (a b : Option Addr) (c d : Nat) (h : MzIn lo hi w m a c b d) (hz : hi ≤ w.heap.size) (V : M.Valid m) :
    Calls Try.prog 61 #[.agg #[.int .i64 m.size, .slice a m.doors.length c, .slice b m.keys.length d], .bool false] w (IntsPost w (M.fullA m (M.allN m) M.pickMin).1) := by
  obtain ⟨ii0, hi0, hz0, hzz1, hz2⟩ := info_parts infoI
  have H := Lib.hid h
  have HV := Lib.hid V
  have v12 := V.size12
  have HS := Lib.hid (fun k => M.seqA_ok V (a := M.allN m) M.pmin k)
  have HSI := Lib.hid (fun k => M.ordF_in (M.seqA_ok V (a := M.allN m) M.pmin k).2.2.1 M.zero_in)
  have HG := Lib.hid (fun k (h : ¬ M.DoneA m (M.allN m) M.pickMin k) => M.seqA_grow V M.pmin h)
  have HFU := Lib.hid (fun k (h : M.DoneA m (M.allN m) M.pickMin k) => M.fullA_eq h)
  have H1 : Hid (M.seqA m (M.allN m) M.pickMin 1 = ([0], 1)) := Lib.hid (M.seqA_one V (fun _ => rfl))
  clear h V
  go_enter Try.func61, Try.ntmps61
  go_wp2_with fail
  refine wp_named ?_
  intro W1 hW1
  have HB1 := Lib.hid (show Below w.heap.size w W1 by rw [hW1]; exact (below_alloc _ _).alloc (by simp) _)
  have X1 := Lib.hid (show Box3 W1 w.heap.size 29 (.int .i64 m.size) (.slice a m.doors.length c) (.slice b m.keys.length d) by rw [hW1]; exact (Box3.new _ _ _ _ rfl).alloc _)
  have O1 := Lib.hid (show W1.ownsRow w.heap.size 3 1 (.slice (some ⟨w.heap.size + 1, 0, none⟩) 1 1) 1 (M.encIs [0]) by
    rw [hW1]
    refine ⟨rfl, .inr ⟨w.heap.size + 1, 1, #[.int .i64 0], rfl, by omega, ?_, Nat.le_refl _, by unfold maxLen; omega, by simp, rfl⟩⟩
    have := heap_alloc_new (w.alloc (.cells #[.int .i64 m.size, .slice a m.doors.length c, .slice b m.keys.length d] 29)) (.cells #[.int .i64 0] 3)
    simp only [World.size_alloc] at this
    exact this)
  clear hW1
  have hz1 := HB1.out.size
  go_loopw [5, 6, 7, 8] (fun v5 v6 _ _ wr => ∃ (k : Nat), (M.seqA m (M.allN m) M.pickMin k).2 ≠ 0 ∧ v6 = .int .i64 (((M.seqA m (M.allN m) M.pickMin k).2 : Nat) : Int) ∧ wr.ownsRow w.heap.size 3 1 v5 (M.seqA m (M.allN m) M.pickMin k).1.length (M.encIs (M.seqA m (M.allN m) M.pickMin k).1) ∧ Box3 wr w.heap.size 29 (.int .i64 m.size) (.slice a m.doors.length c) (.slice b m.keys.length d) ∧ Below w.heap.size w wr) (fun _ v6 _ _ _ => 4096 - (intOf v6).toNat)
  case atStart => exact ⟨1, by rw [H1.out]; decide, by rw [H1.out]; rfl, by rw [H1.out]; exact O1.out, X1.out, HB1.out⟩
  case round =>
    obtain ⟨k, hn0, rfl, hown, hbox, hlow⟩ := hrel
    have HO := Lib.hid hown
    have HX := Lib.hid hbox
    have HL := Lib.hid hlow
    have hzr := hlow.size
    have hxl := hbox.lt
    obtain ⟨hn4, hll, _, _⟩ := HS.out k
    have HNK := Lib.hid (HSI.out k)
    have HPK := Lib.hid (M.all_pick HV.out hn0 M.pickMin)
    have HDN := Lib.hid (M.all_done HV.out hn0)
    have HFK := Lib.hid (HFU.out k)
    have HGK := Lib.hid (HG.out k)
    have HSK := Lib.hid (fun h => M.seqA_succ (m := m) (a := M.allN m) (pick := M.pickMin) (k := k) h)
    have HGG := Lib.hid (fun (x : Int) (hx : x ∈ M.nextL m (M.seqA m (M.allN m) M.pickMin k).2) => M.mem_nextL.1 hx)
    obtain ⟨c0, c1, c2⟩ := hbox.cells
    clear hown hbox hlow
    go_wp2_with fail
    refine (l5Next_any wr lo hi m a b c d (H.out.below HL.out hz) (by omega) HV.out (M.seqA m (M.allN m) M.pickMin k).2 hn4 HNK.out).mono ?_
    rintro e w4 ⟨ra, rc, rfl, ho, hq1, hq2, hb4⟩
    have HR := Lib.hid ho
    have HO4 := Lib.hid (own_below HO.out hb4)
    have HX4 := Lib.hid (HX.out.below hb4)
    have HL4 := Lib.hid (HL.out.trans (hb4.mono hzr))
    have hz4 := hb4.size
    have hnl := M.nextL_len m (M.seqA m (M.allN m) M.pickMin k).2
    clear ho hb4 c0 c1 c2
    rcases Nat.eq_zero_or_pos (M.nextL m (M.seqA m (M.allN m) M.pickMin k).2).length with hL0 | hL0
    · have hnil : M.nextL m (M.seqA m (M.allN m) M.pickMin k).2 = [] := List.eq_nil_of_length_eq_zero hL0
      have HF := Lib.hid (HFK.out (HDN.out.2 hnil))
      rw [hL0]
      clear hL0 hnil
      go_wp2_with fail
      go_ret
      rw [HF.out]
      exact ints_end HO4.out HL4.out
    · have hne : M.nextL m (M.seqA m (M.allN m) M.pickMin k).2 ≠ [] := List.length_pos_iff.1 hL0
      have hnd : ¬ M.DoneA m (M.allN m) M.pickMin k := fun h => hne (HDN.out.1 h)
      have HSU := Lib.hid (HSK.out hnd)
      have hgr := HGK.out hnd
      have HAT := Lib.hid (M.pickMin_at hL0)
      obtain ⟨q, hq, hq12, _⟩ := HGG.out _ (M.pmin _ hne)
      rw [HPK.out, hq] at HSU
      rw [Int.toNat_natCast] at HSU
      rw [hq] at HAT
      obtain ⟨lb, off, rfl, _, hdb, hc0⟩ := HR.out.row.at_ (k := 0) (by rw [M.encIs_len]; omega)
      have a0 := hc0 _ _ (M.encIs_at (show 0 < (M.nextL m (M.seqA m (M.allN m) M.pickMin k).2).length by omega))
      rw [← HAT.out] at a0
      have b0 : w4.cell? ⟨lb, off, none⟩ = some (.int .i64 (M.nextL m (M.seqA m (M.allN m) M.pickMin k).2)[0]) := by simpa using hc0 _ _ (M.encIs_at hL0)
      have hs2 : (M.seqA m (M.allN m) M.pickMin (k + 1)).2 = (M.seqA m (M.allN m) M.pickMin k).2 ||| 2 ^ q := by rw [HSU.out]
      have hs1 : (M.seqA m (M.allN m) M.pickMin (k + 1)).1 = (M.seqA m (M.allN m) M.pickMin k).1 ++ [(q : Int)] := by rw [HSU.out]
      have hn1 : (M.seqA m (M.allN m) M.pickMin (k + 1)).2 ≠ 0 := by omega
      have HN1 := Lib.hid hn1
      have hor : bits .or .i64 (((M.seqA m (M.allN m) M.pickMin k).2 : Nat) : Int) (2 ^ q) = (((M.seqA m (M.allN m) M.pickMin (k + 1)).2 : Nat) : Int) := by rw [hs2]; exact M.orP hn4 hq12
      obtain ⟨hpw, hpw2⟩ := M.wrapsP (p := q) hq12
      have hq0 : ¬ (q : Int) < 0 := by omega
      have HS1 : Hid (M.encIs (M.seqA m (M.allN m) M.pickMin (k + 1)).1 = M.encIs (M.seqA m (M.allN m) M.pickMin k).1 ++ [.int .i64 (q : Int)] ∧ (M.seqA m (M.allN m) M.pickMin (k + 1)).1.length = (M.seqA m (M.allN m) M.pickMin k).1.length + 1) := Lib.hid (by rw [hs1, M.encIs_append]; exact ⟨rfl, by simp⟩)
      clear hc0 hq hne hnd hs1 hs2 hn1 HSU HAT
      rw [Nat.add_zero] at a0
      clear b0
      generalize (M.nextL m (M.seqA m (M.allN m) M.pickMin k).2)[0] = u0 at *
      generalize hxa : (M.seqA m (M.allN m) M.pickMin (k + 1)).2 = n1 at *
      have HXA := Lib.hid hxa
      generalize (M.nextL m (M.seqA m (M.allN m) M.pickMin k).2).length = z at *
      generalize hxb : (M.seqA m (M.allN m) M.pickMin k).2 = n0 at *
      generalize hxc : (M.seqA m (M.allN m) M.pickMin k).1 = l0 at *
      have HXB := Lib.hid hxb
      clear hxa hxb hxc
      have ho4 := HO4.out
      have hne5 := own_ne_box HO4.out HX4.out (by decide)
      go_wp2_with (at_builtin; refine wpList_append_own _ rfl _ _ 23 rfl w.heap.size 3 ii0 (.int .i64 0) 1 8 Try.underlying23 hi0 hz0 hzz1 hz2 rfl (by decide) _ _ _ rfl (ho4.alloc _) ⟨w4.heap.size, 0, none⟩ 1 1 [.int .i64 (q : Int)] rfl rfl (cell_one_new _ _ _) (fun x hx => by simp at hx; subst hx; rfl) (by unfold maxLen; omega) (by omega) (by simp; omega) ?_; intro v' w3 hown' hgrow3 hnil3)
      go_roundw
      case rel =>
        refine ⟨k + 1, by rw [HXA.out]; exact HN1.out, by rw [HXA.out], ?_, ?_, (HL4.out.alloc (by omega) _).grown hgrow3 (by simp; omega) (own_base HO4.out)⟩
        · rw [HS1.out.1, HS1.out.2]
          exact hown'
        · exact (HX4.out.alloc _).grown hgrow3 hne5
      case measure => simp [intOf]; rw [HXB.out]; omega
theorem l5Full_max (w : World) (lo hi : Nat) (m : M.Mz) (a b : Option Addr) (c d : Nat) (h : MzIn lo hi w m a c b d) (hz : hi ≤ w.heap.size) (V : M.Valid m) :
    Calls Try.prog 61 #[.agg #[.int .i64 m.size, .slice a m.doors.length c, .slice b m.keys.length d], .bool true] w (IntsPost w (M.fullA m (M.allN m) M.pickMax).1) := by
  obtain ⟨ii0, hi0, hz0, hzz1, hz2⟩ := info_parts infoI
  have H := Lib.hid h
  have HV := Lib.hid V
  have v12 := V.size12
  have HS := Lib.hid (fun k => M.seqA_ok V (a := M.allN m) M.pmax k)
  have HSI := Lib.hid (fun k => M.ordF_in (M.seqA_ok V (a := M.allN m) M.pmax k).2.2.1 M.zero_in)
  have HG := Lib.hid (fun k (h : ¬ M.DoneA m (M.allN m) M.pickMax k) => M.seqA_grow V M.pmax h)
  have HFU := Lib.hid (fun k (h : M.DoneA m (M.allN m) M.pickMax k) => M.fullA_eq h)
  have H1 : Hid (M.seqA m (M.allN m) M.pickMax 1 = ([0], 1)) := Lib.hid (M.seqA_one V (fun _ => rfl))
  clear h V
  go_enter Try.func61, Try.ntmps61
  go_wp2_with fail
  refine wp_named ?_
  intro W1 hW1
  have HB1 := Lib.hid (show Below w.heap.size w W1 by rw [hW1]; exact (below_alloc _ _).alloc (by simp) _)
  have X1 := Lib.hid (show Box3 W1 w.heap.size 29 (.int .i64 m.size) (.slice a m.doors.length c) (.slice b m.keys.length d) by rw [hW1]; exact (Box3.new _ _ _ _ rfl).alloc _)
  have O1 := Lib.hid (show W1.ownsRow w.heap.size 3 1 (.slice (some ⟨w.heap.size + 1, 0, none⟩) 1 1) 1 (M.encIs [0]) by
    rw [hW1]
    refine ⟨rfl, .inr ⟨w.heap.size + 1, 1, #[.int .i64 0], rfl, by omega, ?_, Nat.le_refl _, by unfold maxLen; omega, by simp, rfl⟩⟩
    have := heap_alloc_new (w.alloc (.cells #[.int .i64 m.size, .slice a m.doors.length c, .slice b m.keys.length d] 29)) (.cells #[.int .i64 0] 3)
    simp only [World.size_alloc] at this
    exact this)
  clear hW1
  have hz1 := HB1.out.size
  go_loopw [5, 6, 7, 8] (fun v5 v6 _ _ wr => ∃ (k : Nat), (M.seqA m (M.allN m) M.pickMax k).2 ≠ 0 ∧ v6 = .int .i64 (((M.seqA m (M.allN m) M.pickMax k).2 : Nat) : Int) ∧ wr.ownsRow w.heap.size 3 1 v5 (M.seqA m (M.allN m) M.pickMax k).1.length (M.encIs (M.seqA m (M.allN m) M.pickMax k).1) ∧ Box3 wr w.heap.size 29 (.int .i64 m.size) (.slice a m.doors.length c) (.slice b m.keys.length d) ∧ Below w.heap.size w wr) (fun _ v6 _ _ _ => 4096 - (intOf v6).toNat)
  case atStart => exact ⟨1, by rw [H1.out]; decide, by rw [H1.out]; rfl, by rw [H1.out]; exact O1.out, X1.out, HB1.out⟩
  case round =>
    obtain ⟨k, hn0, rfl, hown, hbox, hlow⟩ := hrel
    have HO := Lib.hid hown
    have HX := Lib.hid hbox
    have HL := Lib.hid hlow
    have hzr := hlow.size
    have hxl := hbox.lt
    obtain ⟨hn4, hll, _, _⟩ := HS.out k
    have HNK := Lib.hid (HSI.out k)
    have HPK := Lib.hid (M.all_pick HV.out hn0 M.pickMax)
    have HDN := Lib.hid (M.all_done HV.out hn0)
    have HFK := Lib.hid (HFU.out k)
    have HGK := Lib.hid (HG.out k)
    have HSK := Lib.hid (fun h => M.seqA_succ (m := m) (a := M.allN m) (pick := M.pickMax) (k := k) h)
    have HGG := Lib.hid (fun (x : Int) (hx : x ∈ M.nextL m (M.seqA m (M.allN m) M.pickMax k).2) => M.mem_nextL.1 hx)
    obtain ⟨c0, c1, c2⟩ := hbox.cells
    clear hown hbox hlow
    go_wp2_with fail
    refine (l5Next_any wr lo hi m a b c d (H.out.below HL.out hz) (by omega) HV.out (M.seqA m (M.allN m) M.pickMax k).2 hn4 HNK.out).mono ?_
    rintro e w4 ⟨ra, rc, rfl, ho, hq1, hq2, hb4⟩
    have HR := Lib.hid ho
    have HO4 := Lib.hid (own_below HO.out hb4)
    have HX4 := Lib.hid (HX.out.below hb4)
    have HL4 := Lib.hid (HL.out.trans (hb4.mono hzr))
    have hz4 := hb4.size
    have hnl := M.nextL_len m (M.seqA m (M.allN m) M.pickMax k).2
    clear ho hb4 c0 c1 c2
    rcases Nat.eq_zero_or_pos (M.nextL m (M.seqA m (M.allN m) M.pickMax k).2).length with hL0 | hL0
    · have hnil : M.nextL m (M.seqA m (M.allN m) M.pickMax k).2 = [] := List.eq_nil_of_length_eq_zero hL0
      have HF := Lib.hid (HFK.out (HDN.out.2 hnil))
      rw [hL0]
      clear hL0 hnil
      go_wp2_with fail
      go_ret
      rw [HF.out]
      exact ints_end HO4.out HL4.out
    · have hne : M.nextL m (M.seqA m (M.allN m) M.pickMax k).2 ≠ [] := List.length_pos_iff.1 hL0
      have hnd : ¬ M.DoneA m (M.allN m) M.pickMax k := fun h => hne (HDN.out.1 h)
      have HSU := Lib.hid (HSK.out hnd)
      have hgr := HGK.out hnd
      have HAT := Lib.hid (M.pickMax_at hL0)
      obtain ⟨q, hq, hq12, _⟩ := HGG.out _ (M.pmax _ hne)
      rw [HPK.out, hq] at HSU
      rw [Int.toNat_natCast] at HSU
      rw [hq] at HAT
      obtain ⟨lb, off, rfl, _, hdb, hc0⟩ := HR.out.row.at_ (k := (M.nextL m (M.seqA m (M.allN m) M.pickMax k).2).length - 1) (by rw [M.encIs_len]; omega)
      have a0 := hc0 _ _ (M.encIs_at (show (M.nextL m (M.seqA m (M.allN m) M.pickMax k).2).length - 1 < (M.nextL m (M.seqA m (M.allN m) M.pickMax k).2).length by omega))
      rw [← HAT.out] at a0
      have b0 : w4.cell? ⟨lb, off, none⟩ = some (.int .i64 (M.nextL m (M.seqA m (M.allN m) M.pickMax k).2)[0]) := by simpa using hc0 _ _ (M.encIs_at hL0)
      have hs2 : (M.seqA m (M.allN m) M.pickMax (k + 1)).2 = (M.seqA m (M.allN m) M.pickMax k).2 ||| 2 ^ q := by rw [HSU.out]
      have hs1 : (M.seqA m (M.allN m) M.pickMax (k + 1)).1 = (M.seqA m (M.allN m) M.pickMax k).1 ++ [(q : Int)] := by rw [HSU.out]
      have hn1 : (M.seqA m (M.allN m) M.pickMax (k + 1)).2 ≠ 0 := by omega
      have HN1 := Lib.hid hn1
      have hor : bits .or .i64 (((M.seqA m (M.allN m) M.pickMax k).2 : Nat) : Int) (2 ^ q) = (((M.seqA m (M.allN m) M.pickMax (k + 1)).2 : Nat) : Int) := by rw [hs2]; exact M.orP hn4 hq12
      obtain ⟨hpw, hpw2⟩ := M.wrapsP (p := q) hq12
      have hq0 : ¬ (q : Int) < 0 := by omega
      have HS1 : Hid (M.encIs (M.seqA m (M.allN m) M.pickMax (k + 1)).1 = M.encIs (M.seqA m (M.allN m) M.pickMax k).1 ++ [.int .i64 (q : Int)] ∧ (M.seqA m (M.allN m) M.pickMax (k + 1)).1.length = (M.seqA m (M.allN m) M.pickMax k).1.length + 1) := Lib.hid (by rw [hs1, M.encIs_append]; exact ⟨rfl, by simp⟩)
      clear hc0 hq hne hnd hs1 hs2 hn1 HSU HAT
      generalize (M.nextL m (M.seqA m (M.allN m) M.pickMax k).2)[0] = u0 at *
      generalize hxa : (M.seqA m (M.allN m) M.pickMax (k + 1)).2 = n1 at *
      have HXA := Lib.hid hxa
      generalize (M.nextL m (M.seqA m (M.allN m) M.pickMax k).2).length = z at *
      generalize hxb : (M.seqA m (M.allN m) M.pickMax k).2 = n0 at *
      generalize hxc : (M.seqA m (M.allN m) M.pickMax k).1 = l0 at *
      have HXB := Lib.hid hxb
      clear hxa hxb hxc
      have ho4 := HO4.out
      have hne5 := own_ne_box HO4.out HX4.out (by decide)
      have hzi : ((z : Int) - 1) = ((z - 1 : Nat) : Int) := by omega
      have hz1i : ((z - 1 : Nat) : Int) < (z : Int) := by omega
      have hw1 : wrap64 ((z : Int) - 1) = ((z - 1 : Nat) : Int) := by rw [hzi]; exact M.wrap64_id (by omega)
      have hzle : z - 1 < z := by omega
      clear hzi
      generalize hjj : z - 1 = j at *
      go_wp2_with (at_builtin; refine wpList_append_own _ rfl _ _ 23 rfl w.heap.size 3 ii0 (.int .i64 0) 1 8 Try.underlying23 hi0 hz0 hzz1 hz2 rfl (by decide) _ _ _ rfl (ho4.alloc _) ⟨w4.heap.size, 0, none⟩ 1 1 [.int .i64 (q : Int)] rfl rfl (cell_one_new _ _ _) (fun x hx => by simp at hx; subst hx; rfl) (by unfold maxLen; omega) (by omega) (by simp; omega) ?_; intro v' w3 hown' hgrow3 hnil3)
      go_roundw
      case rel =>
        refine ⟨k + 1, by rw [HXA.out]; exact HN1.out, by rw [HXA.out], ?_, ?_, (HL4.out.alloc (by omega) _).grown hgrow3 (by simp; omega) (own_base HO4.out)⟩
        · rw [HS1.out.1, HS1.out.2]
          exact hown'
        · exact (HX4.out.alloc _).grown hgrow3 hne5
      case measure => simp [intOf]; rw [HXB.out]; omega
theorem specFirst_lw (w : World) (lo hi : Nat) (m : M.Mz) (a b : Option Addr) (c d : Nat) (h : MzIn lo hi w m a c b d) (hz : hi ≤ w.heap.size) (_h1 : m.doors.length ≤ 1048576) (_h2 : m.keys.length ≤ 1048576) :
    Calls Try.prog 23 #[.agg #[.int .i64 m.size, .slice a m.doors.length c, .slice b m.keys.length d]] w (IntsOkPost w (M.fullV m M.pickMin) (M.mazeB m)) := by
  obtain ⟨ii0, hi0, hz0, hzz1, hz2⟩ := info_parts infoI
  have H := Lib.hid h
  clear h
  go_enter Try.func23, Try.ntmps23
  go_wp2_with fail
  refine named ?_
  intro W hW
  have hb : Below w.heap.size w W := by rw [hW]; exact below_alloc _ _
  have x1 : Box3 W w.heap.size 29 (.int .i64 m.size) (.slice a m.doors.length c) (.slice b m.keys.length d) := by rw [hW]; exact Box3.new _ _ _ _ rfl
  clear hW
  have hzw := hb.size
  refine (specMaze_any W lo hi m a b c d (H.out.below hb hz) (by omega)).mono ?_
  rintro e w1 ⟨rfl, hb1⟩
  have X1 := Lib.hid (x1.below hb1)
  have HB1 := Lib.hid (hb.trans (hb1.mono hzw))
  have hz1 := hb1.size
  have hxl1 := X1.out.lt
  clear hb hb1 x1
  obtain ⟨c0, c1, c2⟩ := X1.out.cells
  cases q0 : M.mazeB m with
  | false =>
    have HM := Lib.hid q0
    clear q0
    go_wp2_with fail
    go_ret2
    rw [M.fullV_no HM.out, HM.out]
    exact intsOk_end (l := []) (ownsRow_empty _ _ _ _ (by omega)) (HB1.out.alloc (by omega) _)
  | true =>
    have HM := Lib.hid q0
    have HV := Lib.hid (M.valid_of q0)
    clear q0
    go_wp2_with fail
    refine (l5Full_min w1 lo hi m a b c d (H.out.below HB1.out hz) (by omega) HV.out).mono ?_
    rintro e w2 ⟨ra, rc, rfl, ho, hq1, hq2, hb2⟩
    have HO := Lib.hid ho
    have HB2 := Lib.hid (HB1.out.trans (hb2.mono (by omega)))
    have HFY := Lib.hid (M.fullV_yes HM.out M.pickMin)
    clear ho hb2 c0 c1 c2
    go_wp2_with fail
    go_ret2
    rw [HFY.out, HM.out]
    exact ⟨ra, rc, rfl, HO.out.mono (by omega) (Nat.le_refl _), hq1, hq2, HB2.out⟩
theorem specLast_lw (w : World) (lo hi : Nat) (m : M.Mz) (a b : Option Addr) (c d : Nat) (h : MzIn lo hi w m a c b d) (hz : hi ≤ w.heap.size) (_h1 : m.doors.length ≤ 1048576) (_h2 : m.keys.length ≤ 1048576) :
    Calls Try.prog 28 #[.agg #[.int .i64 m.size, .slice a m.doors.length c, .slice b m.keys.length d]] w (IntsOkPost w (M.fullV m M.pickMax) (M.mazeB m)) := by
  obtain ⟨ii0, hi0, hz0, hzz1, hz2⟩ := info_parts infoI
  have H := Lib.hid h
  clear h
  go_enter Try.func28, Try.ntmps28
  go_wp2_with fail
  refine named ?_
  intro W hW
  have hb : Below w.heap.size w W := by rw [hW]; exact below_alloc _ _
  have x1 : Box3 W w.heap.size 29 (.int .i64 m.size) (.slice a m.doors.length c) (.slice b m.keys.length d) := by rw [hW]; exact Box3.new _ _ _ _ rfl
  clear hW
  have hzw := hb.size
  refine (specMaze_any W lo hi m a b c d (H.out.below hb hz) (by omega)).mono ?_
  rintro e w1 ⟨rfl, hb1⟩
  have X1 := Lib.hid (x1.below hb1)
  have HB1 := Lib.hid (hb.trans (hb1.mono hzw))
  have hz1 := hb1.size
  have hxl1 := X1.out.lt
  clear hb hb1 x1
  obtain ⟨c0, c1, c2⟩ := X1.out.cells
  cases q0 : M.mazeB m with
  | false =>
    have HM := Lib.hid q0
    clear q0
    go_wp2_with fail
    go_ret2
    rw [M.fullV_no HM.out, HM.out]
    exact intsOk_end (l := []) (ownsRow_empty _ _ _ _ (by omega)) (HB1.out.alloc (by omega) _)
  | true =>
    have HM := Lib.hid q0
    have HV := Lib.hid (M.valid_of q0)
    clear q0
    go_wp2_with fail
    refine (l5Full_max w1 lo hi m a b c d (H.out.below HB1.out hz) (by omega) HV.out).mono ?_
    rintro e w2 ⟨ra, rc, rfl, ho, hq1, hq2, hb2⟩
    have HO := Lib.hid ho
    have HB2 := Lib.hid (HB1.out.trans (hb2.mono (by omega)))
    have HFY := Lib.hid (M.fullV_yes HM.out M.pickMax)
    clear ho hb2 c0 c1 c2
    go_wp2_with fail
    go_ret2
    rw [HFY.out, HM.out]
    exact ⟨ra, rc, rfl, HO.out.mono (by omega) (Nat.le_refl _), hq1, hq2, HB2.out⟩
end C
end Go.Proofs.Ytdjmmgfjcchloaa
