/-
  CONTRACT of the program's LockNeeds; what lay in memory stays. No condition but that the maze reads so.
-/
import Derived.Test.YthgmkkkfhbjhoaaVGoal
import Derived.Test.YthgmkkkfhbjhoaaVNear
import Derived.Test.YthgmkkkfhbjhoaaNeedM7
namespace Go.Proofs.Ythgmkkkfhbjhoaa
open Go.RowKit
namespace C
set_option maxHeartbeats 3200000
set_option maxRecDepth 20000
theorem implNeeds_lw (w : World) (lo hi : Nat) (m : M.Mz) (a b : Option Addr) (c d : Nat) (h : MzIn lo hi w m a c b d) (hz : hi ≤ w.heap.size) (_h1 : m.doors.length ≤ 1048576) (_h2 : m.keys.length ≤ 1048576) :
    Calls Try.prog 47 #[.agg #[.int .i64 m.size, .slice a m.doors.length c, .slice b m.keys.length d]] w (IntsOkPost w (M.needsV m) (M.goodB m)) := by
  obtain ⟨ii0, hi0, hz0, hzz1, hz2⟩ := info_parts infoI
  have H := Lib.hid h
  clear h
  go_enter Try.func47, Try.ntmps47
  go_upto_region 1 with fail
  refine wp_named ?_
  intro W hW
  have X1 := Lib.hid (show Box3 W w.heap.size 29 (.int .i64 m.size) (.slice a m.doors.length c) (.slice b m.keys.length d) by rw [hW]; exact Box3.new _ _ _ _ rfl)
  have HB := Lib.hid (show Below w.heap.size w W by rw [hW]; exact below_alloc _ _)
  clear hW
  have hzw := HB.out.size
  obtain ⟨c0, c1, c2⟩ := X1.out.cells
  go_wp2_with fail
  refine (implLocks_lw W lo hi m a b c d (H.out.below HB.out hz) (by omega) _h1 _h2).mono ?_
  rintro e w1 ⟨la, lc, rfl, hl, hl1, hl2, hb1⟩
  have X2 := Lib.hid (X1.out.below hb1)
  have B2 := Lib.hid (HB.out.trans (hb1.mono hzw))
  have hz1 := hb1.size
  have HLR := Lib.hid hl.row
  clear hb1 c0 c1 c2 hl
  cases q0 : M.goodB m with
  | false =>
    have HG := Lib.hid q0
    clear q0
    go_wp2_with fail
    go_ret2
    rw [HG.out, M.needsV_no HG.out]
    exact intsOk_end (l := []) (ownsRow_empty _ _ _ _ (by omega)) (B2.out.alloc (by omega) _)
  | true =>
    have HG := Lib.hid q0
    have HV := Lib.hid (M.valid_of (M.good_maze q0))
    have hf := M.good_few q0
    have v30 := HV.out.few
    have HLK := Lib.hid (show M.locksV m = M.lockL m by unfold M.locksV; rw [if_pos q0])
    have hlr := HLR.out
    rw [HLK.out] at hlr hl1
    rw [HLK.out]
    have LR := Lib.hid hlr
    have HRG := Lib.hid (fun (z : Int) (hz : z ∈ M.lockL m) => M.mem_fl.1 hz)
    obtain ⟨wo, hwo⟩ : ∃ x, x = w1 := ⟨_, rfl⟩
    subst hwo
    have hz1' : w.heap.size ≤ wo.heap.size := by omega
    have HS0 := Lib.hid (M.lkV_zero m)
    have HSS := Lib.hid (fun j (h : j < (M.lockL m).length) n hn => M.lkV_step (m := m) h (n := n) hn)
    have HSE := Lib.hid (M.lkV_end m)
    have HSB := Lib.hid (fun j c => M.lkV_bnd m j c hf)
    clear q0 hlr HLR
    generalize M.lkV m = F at *
    generalize M.lockL m = L at *
    go_upto_region 5 with (at_make; refine wpList_make_full _ rfl _ _ 23 rfl wo.heap.size 3 ii0 (.int .i64 0) 1 Try.underlying23 hi0 hz0 hzz1 .i64 .i64 _ _ 6 rfl rfl rfl rfl (by rw [hz2]; decide) (by unfold maxLen; omega) (Nat.le_refl _) ?_; intro w2 hown1 hgrow1)
    have hb2 : Below wo.heap.size wo w2 := (Below.refl _ _).grown hgrow1 (Nat.le_refl _) (fun k e => by cases e)
    have O1 : Hid (w2.ownsRow wo.heap.size 3 1 (.slice (some ⟨wo.heap.size, 0, none⟩) 6 6) 6 (M.encIs (M.vecL fun _ => 0))) := Lib.hid (by rw [made_six] at hown1; exact hown1)
    have hgl := (hown1.lt _ rfl).2
    have X3 := Lib.hid (X2.out.below hb2)
    have B3 := Lib.hid (B2.out.trans (hb2.mono hz1'))
    have R3 := Lib.hid (LR.out.below hb2 (Nat.le_refl _))
    have hz3 := hb2.size
    have hxl := X2.out.lt
    obtain ⟨g, hg⟩ : ∃ g, g = wo.heap.size := ⟨_, rfl⟩
    rw [← hg] at O1 hgl hxl R3 ⊢
    have hgw : w.heap.size ≤ g := by omega
    have HGE := Lib.hid hg
    clear hown1 hgrow1 hb2 hg hz1' LR
    go_wp2_with fail
    go_loopw [8, 10, 22, 34] (fun _ _ i _ wr => ∃ (k : Nat), k ≤ L.length ∧ i = .int .i64 (k : Int) ∧ wr.ownsRow g 3 1 (.slice (some ⟨g, 0, none⟩) 6 6) 6 (M.encIs (M.vecL (F k))) ∧ Turned g (g + 1) w2 wr) (fun _ _ i _ _ => L.length - (intOf i).toNat)
    case atStart => exact ⟨0, Nat.zero_le _, rfl, by rw [HS0.out]; exact O1.out, Turned.refl _ _ _⟩
    case round =>
      obtain ⟨k, hk, rfl, ho, ht⟩ := hrel
      have HO := Lib.hid ho
      have HT := Lib.hid ht
      have hzr := ht.size
      clear ho ht
      by_cases hlt : k < L.length
      · obtain ⟨nb, noff, rfl, _, hnb2, hnc⟩ := (R3.out.turned HT.out (by omega) (.inl (Nat.le_refl _))).at_ (k := k) (by rw [M.encIs_len]; exact hlt)
        have p0 := hnc _ _ (M.encIs_at hlt)
        obtain ⟨x, hx, hxk, _⟩ := HRG.out _ (List.getElem_mem hlt)
        have HST0 := Lib.hid (HSS.out k hlt)
        rw [hx] at p0 HST0
        obtain ⟨db, doff, rfl, _, hdb2, hdc⟩ := ((H.out.doors.below B3.out hz).turned HT.out (by have := B3.out.size; omega) (.inl (by omega))).at_ (k := x * 3) (by rw [M.encDs_len]; omega)
        have p1 : wr.cell? ⟨db, doff + x * 3 + 2, none⟩ = some (.int .i64 m.doors[x].2.2) := hdc _ _ (M.encDs_at2 hxk)
        obtain ⟨_, _, _, _, _, d6, d7⟩ := HV.out.door x hxk
        obtain ⟨n, hn⟩ : ∃ n : Nat, m.doors[x].2.2 = (n : Int) := ⟨m.doors[x].2.2.toNat, by omega⟩
        have HSTEP := Lib.hid (HST0.out n (by rw [Int.toNat_natCast, M.need_at hxk, hn]))
        rw [hn] at p1 d6 d7
        have hn64 : n < 64 := by omega
        obtain ⟨c0, c1, c2⟩ := (X3.out.turned HT.out (.inl (by omega))).cells
        clear hnc hdc hx hn HST0
        go_wp2_with fail
        refine (digits_any n (by omega) wr).mono ?_
        rintro e w5 ⟨ka, kc', rfl, hr, hr1, hr2, hb5⟩
        have HRW := Lib.hid hr.row
        have HT5 := Lib.hid (HT.out.trans (Turned.of_below hb5 g (g + 1)))
        have HO5 := Lib.hid (own_below HO.out hb5)
        have hz5 := hb5.size
        have hl12 := M.digsTo_len n 12
        have hol5 := (HO.out.lt _ rfl).2
        clear hr hb5 c0 c1 c2 p0 p1
        go_wp2_with fail
        go_loopw [10, 34] (fun _ i wq => ∃ (j : Nat), j ≤ (M.digsTo n 12).length ∧ i = .int .i64 (j : Int) ∧ wq.ownsRow g 3 1 (.slice (some ⟨g, 0, none⟩) 6 6) 6 (M.encIs (M.vecL (M.vecP (F k) 1 ((M.digsTo n 12).take j)))) ∧ Turned g (g + 1) w5 wq) (fun _ i _ => (M.digsTo n 12).length - (intOf i).toNat)
        case atStart => exact ⟨0, Nat.zero_le _, rfl, by rw [M.vecP_zero]; exact HO5.out, Turned.refl _ _ _⟩
        case round =>
          obtain ⟨j, hj, rfl, hown, ht⟩ := hrel
          have HO6 := Lib.hid hown
          have HT6 := Lib.hid ht
          have hz6 := ht.size
          clear hown ht
          by_cases hjl : j < (M.digsTo n 12).length
          · obtain ⟨rb, roff, rfl, _, hrb2, hrc⟩ := (HRW.out.turned HT6.out (Nat.le_refl _) (.inr (by omega))).at_ (k := j) (by rw [M.encIs_len]; exact hjl)
            have q0 := hrc _ _ (M.encIs_at hjl)
            obtain ⟨p, hp, hp6⟩ := M.digs_six hn64 hjl
            rw [hp] at q0
            have HST := Lib.hid (M.vecP_step (F k) 1 (M.digs_nodup n 12) hjl hp)
            have hbd := (M.vecP_bnd (HSB.out k) ((M.digsTo n 12).take j) p).1
            have q1 := HO6.out.cellAt p (by omega)
            rw [M.vecL_at _ hp6] at q1
            have q2 := HO6.out.frozenAt p
            have HSO := Lib.hid (HO6.out.stored p (.int .i64 (M.vecP (F k) 1 ((M.digsTo n 12).take j) p + 1)))
            clear hrc hp
            generalize M.vecP (F k) 1 ((M.digsTo n 12).take j) p = u at *
            go_wp2_with fail
            go_roundw
            case rel =>
              refine ⟨j + 1, by omega, by go_num, ?_, HT6.out.trans (Turned.setCell _ _ _ _ (Nat.le_refl _) (Nat.lt_succ_self _))⟩
              have := HSO.out.1
              rw [M.vecL_set _ hp6, HST.out] at this
              exact this
            case measure => simp [intOf]; omega
          · obtain rfl : j = (M.digsTo n 12).length := by omega
            have hO := HO6.out
            rw [List.take_of_length_le (Nat.le_refl _), M.vecP_end, HSTEP.out] at hO
            have HO7 := Lib.hid hO
            clear hO
            go_wp2_with fail
            go_roundw
            case rel => exact ⟨k + 1, by omega, by go_num, HO7.out, HT5.out.trans HT6.out⟩
            case measure => simp [intOf]; omega
      · obtain rfl : k = L.length := by omega
        have hO := HO.out
        rw [HSE.out] at hO
        have HO9 := Lib.hid hO
        have BE := Lib.hid (Below.thenTurned B3.out HT.out (by omega) (by have := B3.out.size; omega))
        clear hO
        go_wp2_with fail
        go_ret2
        rw [HG.out, M.needsV_yes HG.out]
        exact intsOk_end (l := M.vecL (M.needC m m.doors.length)) (own_weak7 HO9.out (by omega)) BE.out
end C
end Go.Proofs.Ythgmkkkfhbjhoaa
