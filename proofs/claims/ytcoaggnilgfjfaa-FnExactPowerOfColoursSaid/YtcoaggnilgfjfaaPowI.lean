/-
  CONTRACTS of slices.Contains at ints and of the program's PowerOfColours; what lay in memory stays. No condition but that the maze reads so.
-/
import Derived.Test.YtcoaggnilgfjfaaSWin
import Derived.Test.YtcoaggnilgfjfaaPowM
import Derived.Test.YtcoaggnilgfjfaaSPut
namespace Go.Proofs.Ytcoaggnilgfjfaa
open Go.RowKit
namespace M
theorem powI_fin : ∀ s : St6, ∀ c : Fin 6, s.val.testBit c.val = true → bits .andNot .i64 (s.val : Int) (wrap64 (2 ^ c.val)) = ((bit6 c.val s).val : Int) := by decide +kernel
theorem powI_shift : ∀ c : Fin 6, IntKind.i64.wrap (2 ^ c.val) = wrap64 (2 ^ c.val) ∧ 0 ≤ wrap64 (2 ^ c.val) ∧ wrap64 (2 ^ c.val) ≤ 32 := by decide +kernel
theorem mem_sel (P : St6 → Bool) (s : St6) : memB (intsF (selF P)) (s.val : Int) = P s := by
  unfold memB
  rw [Bool.eq_iff_iff, List.contains_iff_mem, ← mem_selF]
  unfold intsF
  rw [List.mem_map]
  constructor
  · rintro ⟨a, ha, he⟩
    have : a = s := Fin.ext (by omega)
    rw [← this]; exact ha
  · exact fun h => ⟨s, h, rfl⟩
theorem dig_at {s : St6} {j : Nat} (h : j < (digsTo s.val 12).length) : ∃ c : Nat, (digsTo s.val 12)[j] = (c : Int) ∧ c < 6 ∧ s.val.testBit c = true := by
  obtain ⟨p, hp, h12, hd⟩ := mem_digsTo.1 (List.getElem_mem h)
  refine ⟨p, hp, ?_, by rw [← digB_testBit]; exact hd⟩
  rcases Nat.lt_or_ge p 6 with h6 | h6
  · exact h6
  · have hs := s.isLt
    rw [digB_lt (k := 6) (Nat.div_eq_of_lt hs) h6] at hd
    cases hd
theorem rowL_zero (P : St6 → Bool) : (rowI fun _ => 0) = rowI (cntL P []) := rfl
theorem rowL_all (P : St6 → Bool) : rowI (cntL P (selF P)) = rowI (cntU P 64) := rowI_congr fun _ hc => cnt_same P hc
end M
namespace C
set_option maxHeartbeats 3200000
set_option maxRecDepth 20000
theorem containsI_any (w : World) (lo hi : Nat) (a : Option Addr) (c : Nat) (l : List Int) (x : Int) (h : RowIn lo hi w a (M.encIs l)) (hl : l.length ≤ 1048576) :
    Calls Try.prog 69 #[.slice a l.length c, .int .i64 x] w fun e w' => e = .returned (.bool (M.memB l x)) ∧ w = w' := by
  have H := Lib.hid h
  clear h
  have HI := Lib.hid (show Calls Try.prog 97 #[.slice a l.length c, .int .i64 x] w fun e w' => (∃ i : Int, e = .returned (.int .i64 i) ∧ decide (0 ≤ i) = M.memB l x) ∧ w = w' from by
    go_enter Try.func97, Try.ntmps97
    go_wp2_with fail
    go_loop [5, 8] (fun _ v8 => ∃ (k : Nat), k ≤ l.length ∧ v8 = .int .i64 k ∧ (∀ j (hj : j < l.length), j < k → l[j] ≠ x)) (fun _ v8 => l.length - (intOf v8).toNat)
    case atStart => exact ⟨0, Nat.zero_le _, rfl, fun j _ h => by omega⟩
    case round =>
      obtain ⟨k, hk, rfl, hall⟩ := hrel
      have HA := Lib.hid hall
      clear hall
      by_cases hkl : k < l.length
      · obtain ⟨b, off, rfl, _, _, hc0⟩ := H.out.at_ (k := k) (by rw [M.encIs_len]; exact hkl)
        have c0 := hc0 _ _ (M.encIs_at hkl)
        have HNX := Lib.hid (fun (hq : l[k] ≠ x) => show ∀ j (hj : j < l.length), j < k + 1 → l[j] ≠ x from fun j hj hjk => by
          rcases Nat.lt_or_ge j k with h1 | h1
          · exact HA.out j hj h1
          · obtain rfl : j = k := by omega
            exact hq)
        have HY : Hid (l[k] = x → M.memB l x = true) := Lib.hid (fun h => by unfold M.memB; rw [List.contains_iff_mem, ← h]; exact List.getElem_mem hkl)
        clear hc0 HA
        generalize l[k] = y at *
        by_cases hq : y = x
        · have HT := Lib.hid (HY.out hq)
          have hxb : (x == y) = true := by rw [beq_iff_eq]; exact hq.symm
          clear hq
          go_wp2_with fail
          go_ret
          exact ⟨⟨k, rfl, by rw [HT.out]; exact decide_eq_true (by omega)⟩, rfl⟩
        · have HN := Lib.hid (HNX.out hq)
          have hxb : (x == y) = false := by rw [beq_eq_false_iff_ne]; exact fun e => hq e.symm
          have hxn : ¬ x = y := fun e => hq e.symm
          go_wp2_with fail
          go_round
          case rel => exact ⟨k + 1, by omega, by go_num, HN.out⟩
          case measure => simp [intOf]; omega
      · obtain rfl : k = l.length := by omega
        have HF : Hid (M.memB l x = false) := Lib.hid (by
          unfold M.memB
          rw [Bool.eq_false_iff]
          intro h
          rw [List.contains_iff_mem] at h
          obtain ⟨j, hj, he⟩ := List.mem_iff_getElem.1 h
          exact HA.out j hj hj he)
        clear HA
        go_wp2_with fail
        go_ret
        exact ⟨⟨-1, rfl, by rw [HF.out]; rfl⟩, rfl⟩)
  go_enter Try.func69, Try.ntmps69
  go_wp2_with fail
  refine HI.out.mono ?_
  rintro e w1 ⟨⟨i, rfl, hi0⟩, rfl⟩
  have HQ := Lib.hid hi0
  clear hi0
  go_wp2_with fail
  go_ret
  exact ⟨by rw [← HQ.out]; rfl, rfl⟩
theorem implPow_lw (w : World) (lo hi : Nat) (m : M.Mz) (a b : Option Addr) (c d : Nat) (h : MzIn lo hi w m a c b d) (hz : hi ≤ w.heap.size) (_h1 : m.doors.length ≤ 1048576) (_h2 : m.keys.length ≤ 1048576) :
    Calls Try.prog 35 #[.agg #[.int .i64 m.size, .slice a m.doors.length c, .slice b m.keys.length d]] w (IntsOkPost w (M.powV m) (M.mazeB m)) := by
  obtain ⟨ii0, hi0, hz0, hzz1, hz2⟩ := info_parts infoI
  have H := Lib.hid h
  clear h
  go_enter Try.func35, Try.ntmps35
  go_wp2_with fail
  refine named ?_
  intro W hW
  have hb : Below w.heap.size w W := by rw [hW]; exact below_alloc _ _
  have x1 : Box3 W w.heap.size 29 (.int .i64 m.size) (.slice a m.doors.length c) (.slice b m.keys.length d) := by rw [hW]; exact Box3.new _ _ _ _ rfl
  clear hW
  have hzw := hb.size
  refine (isMaze_any W lo hi m a b c d (H.out.below hb hz) (by omega)).mono ?_
  rintro e w1 ⟨rfl, hb1⟩
  have X1 := Lib.hid (x1.below hb1)
  have HB1 := Lib.hid (hb.trans (hb1.mono hzw))
  have hz1 := hb1.size
  have hxl1 := X1.out.lt
  clear hb hb1 x1
  obtain ⟨c0, c1, c2⟩ := X1.out.cells
  cases q0 : M.mazeB m with
  | false =>
    have HM := Lib.hid q0
    clear q0
    go_wp2_with fail
    go_ret2
    rw [HM.out, M.powV_no HM.out]
    exact intsOk_end (l := []) (ownsRow_empty _ _ _ _ (by omega)) (HB1.out.alloc (by omega) _)
  | true =>
    have HM := Lib.hid q0
    have HV := Lib.hid (M.valid_of q0)
    clear q0
    have HPV := Lib.hid (M.powV_yes HM.out)
    have hl64 := M.selTo_len (M.wF m) 64
    have HSE := Lib.hid (setsWith_any 61 #[.agg #[.int .i64 m.size, .slice a m.doors.length c, .slice b m.keys.length d]] #[] (M.wF m) (enters_of Try.func61 (by kernel_rfl) rfl) w1 (fun W' s hq => wins6_any W' lo hi m a b c d (H.out.below (HB1.out.trans (hq.mono (by omega))) hz) (by have := hq.size; omega) HV.out s))
    have HLA := Lib.hid (M.rowL_all (M.wF m))
    have HMS := Lib.hid (fun s => M.mem_sel (M.wF m) s)
    obtain ⟨zs, hzs1, hzs2, hmr⟩ := make_run6 hi0 hz0 hzz1 hz2
    have HZS := Lib.hid hzs2
    clear hzs2
    have hll : (M.selF (M.wF m)).length ≤ 64 := hl64
    generalize hP : M.wF m = P at *
    clear hP hl64
    generalize hL : M.selF P = L at *
    clear hL
    go_wp2_with fail
    refine HSE.out.mono ?_
    rintro e w2 ⟨ra, rc, rfl, ho, ho1, ho2, hb2⟩
    rw [M.intsF_len] at ho1 ⊢
    have HO := Lib.hid ho
    have HB2 := Lib.hid (HB1.out.trans (hb2.mono (by omega)))
    have hz2' := hb2.size
    clear ho hb2
    go_wp2_with fail
    refine wp_named ?_
    intro W3 hW3
    have hb3 : Below w2.heap.size w2 W3 := by rw [hW3]; exact below_alloc _ _
    have o3 : OwnAt w2.heap.size (w2.heap.size + 1) W3 3 (some ⟨w2.heap.size, 0, none⟩) (M.encIs (M.rowI (M.cntL P (L.take 0)))) := by
      rw [hW3]
      refine .inr ⟨w2.heap.size, 0, zs, rfl, Nat.le_refl _, Nat.lt_succ_self _, heap_alloc_new w2 _, fun i u hu => ?_⟩
      rw [show M.rowI (M.cntL P (L.take 0)) = M.rowI fun _ => 0 from rfl, ← HZS.out] at hu
      rw [Nat.zero_add]; simpa using hu
    have hg3 : w2.heap.size + 1 ≤ W3.heap.size := by rw [hW3]; simp
    have ST := Lib.hid (show OwnAt w2.heap.size (w2.heap.size + 1) W3 3 (some ⟨w2.heap.size, 0, none⟩) (M.encIs (M.rowI (M.cntL P (L.take 0)))) ∧ OwnAt w1.heap.size w2.heap.size W3 3 ra (M.encIs (M.intsF L)) ∧ Below w.heap.size w W3 from ⟨o3, HO.out.below hb3 (Nat.le_refl _), HB2.out.trans (hb3.mono (by omega))⟩)
    clear hW3 hb3 o3 hmr
    go_loopw [7, 9, 20] (fun _ _ v20 wr => ∃ (i : Nat), i ≤ L.length ∧ v20 = .int .i64 i ∧ OwnAt w2.heap.size (w2.heap.size + 1) wr 3 (some ⟨w2.heap.size, 0, none⟩) (M.encIs (M.rowI (M.cntL P (L.take i)))) ∧ OwnAt w1.heap.size w2.heap.size wr 3 ra (M.encIs (M.intsF L)) ∧ Below w.heap.size w wr ∧ w2.heap.size + 1 ≤ wr.heap.size) (fun _ _ v20 _ => L.length - (intOf v20).toNat)
    case atStart => exact ⟨0, Nat.zero_le _, rfl, ST.out.1, ST.out.2.1, ST.out.2.2, hg3⟩
    case round =>
      obtain ⟨i, hi1, rfl, hoi, hri, hli, hsi⟩ := hrel
      obtain ⟨wo, hwo⟩ : ∃ x, x = wr := ⟨_, rfl⟩
      subst hwo
      have OI := Lib.hid hoi
      have RI := Lib.hid hri
      have LI := Lib.hid hli
      clear hoi hri hli
      by_cases hil : i < L.length
      · obtain ⟨rb, off, hra, hr3, hr4, hc0⟩ := RI.out.row.at_ (k := i) (by rw [M.encIs_len, M.intsF_len]; exact hil)
        have c0 : wo.cell? ⟨rb, off + i, none⟩ = some (.int .i64 ((L[i]).val : Int)) := hc0 _ _ (by rw [M.encIs_at (by rw [M.intsF_len]; exact hil), M.intsF_at hil])
        have HM0 := Lib.hid (M.midI_zero P (L.take i) L[i])
        have HMA := Lib.hid (M.midI_all P hil)
        clear hc0
        subst hra
        generalize L[i] = s at *
        have hs64 := s.isLt
        have HDG := Lib.hid (digits_any s.val (by omega) wo)
        have HDA := Lib.hid (fun (j : Nat) (h : j < (M.digsTo s.val 12).length) => M.dig_at (s := s) h)
        have HDS := Lib.hid (M.digsTo_asc s.val 12)
        have hdl := M.digsTo_len s.val 12
        have HNO := Lib.hid (fun (j c0 : Nat) h hc hp => M.midI_no P (L.take i) s (D := M.digsTo s.val 12) (j := j) (c0 := c0) h hc hp)
        have HYE := Lib.hid (fun (j c0 : Nat) h hc hp => M.midI_yes P (L.take i) s (D := M.digsTo s.val 12) HDS.out (j := j) (c0 := c0) h hc hp)
        generalize M.digsTo s.val 12 = D at *
        go_wp2_with fail
        refine HDG.out.mono ?_
        rintro e w3 ⟨da, dc, rfl, hd, hd1, hd2, hb3⟩
        have hz3 := hb3.size
        have HD := Lib.hid hd
        have OI3 := Lib.hid (OI.out.below hb3 hsi)
        have RI3 := Lib.hid (RI.out.below hb3 (by omega))
        have LI3 := Lib.hid (LI.out.trans (hb3.mono (by omega)))
        clear hd hb3
        go_wp2_with fail
        go_loopw [9, 27] (fun _ v27 wr => ∃ (j : Nat), j ≤ D.length ∧ v27 = .int .i64 j ∧ OwnAt w2.heap.size (w2.heap.size + 1) wr 3 (some ⟨w2.heap.size, 0, none⟩) (M.encIs (M.rowI (M.midI P (L.take i) s (D.take j)))) ∧ OwnAt w1.heap.size w2.heap.size wr 3 (some ⟨rb, off, none⟩) (M.encIs (M.intsF L)) ∧ OwnAt wo.heap.size w3.heap.size wr 3 da (M.encIs D) ∧ Below w.heap.size w wr ∧ w3.heap.size ≤ wr.heap.size) (fun _ v27 _ => D.length - (intOf v27).toNat)
        case atStart => exact ⟨0, Nat.zero_le _, rfl, by rw [List.take_zero, HM0.out]; exact OI3.out, RI3.out, HD.out, LI3.out, Nat.le_refl _⟩
        case round =>
          obtain ⟨j, hj, rfl, hoj, hrj, hdj, hlj, hsj⟩ := hrel
          have OJ := Lib.hid hoj
          have RJ := Lib.hid hrj
          have DJ := Lib.hid hdj
          have LJ := Lib.hid hlj
          clear hoj hrj hdj hlj
          by_cases hjl : j < D.length
          · obtain ⟨db, doff, hda, hd3, hd4, hdc⟩ := DJ.out.row.at_ (k := j) (by rw [M.encIs_len]; exact hjl)
            have x0 := hdc _ _ (M.encIs_at hjl)
            obtain ⟨n, hn, hn6, hbit⟩ := HDA.out j hjl
            have HN := Lib.hid (HNO.out j n hjl hn)
            have HY := Lib.hid (HYE.out j n hjl hn)
            rw [hn] at x0
            have hband := M.powI_fin s ⟨n, hn6⟩ hbit
            obtain ⟨e3, e4, e5⟩ := M.powI_shift ⟨n, hn6⟩
            simp only at hband e3 e4 e5
            have HCO := Lib.hid (fun W (hr : RowIn w1.heap.size w2.heap.size W (some ⟨rb, off, none⟩) (M.encIs (M.intsF L))) => containsI_any W _ _ _ rc (M.intsF L) ((M.bit6 n s).val : Int) hr (by rw [M.intsF_len]; omega))
            rw [HMS.out, M.intsF_len] at HCO
            have hml := M.midI_le P (L.take i) s (D.take j) n
            rw [List.length_take] at hml
            have hn0 : ¬ (n : Int) < 0 := by omega
            clear hdc hn hbit
            subst hda
            generalize wrap64 (2 ^ n) = pw at *
            cases qp : P (M.bit6 n s) with
            | true =>
              have HQ := Lib.hid (HN.out qp)
              rw [qp] at HCO
              clear qp HN HY
              generalize (M.bit6 n s).val = v at *
              go_wp2_with fail
              refine (HCO.out _ RJ.out.row).mono ?_
              rintro e w5 ⟨rfl, rfl⟩
              go_wp2_with fail
              go_roundw
              case rel => exact ⟨j + 1, by omega, by go_num, by rw [HQ.out]; exact OJ.out, RJ.out, DJ.out, LJ.out, hsj⟩
              case measure => simp [intOf]; omega
            | false =>
              have HQ := Lib.hid (HY.out qp)
              rw [qp] at HCO
              obtain ⟨u, hu, p0, pf⟩ := OJ.out.cell0 (k := n) (by rw [M.encIs_len, M.rowI_len]; exact hn6)
              rw [M.rowI_at _ hn6] at hu
              injection hu with hu
              subst hu
              have HSE2 := Lib.hid (show OwnAt w2.heap.size (w2.heap.size + 1) (wr.setCell ⟨w2.heap.size, n, none⟩ (.int .i64 ((M.midI P (L.take i) s (D.take j) n : Nat) + 1 : Int))) 3 (some ⟨w2.heap.size, 0, none⟩) (M.encIs (M.rowI (M.midI P (L.take i) s (D.take (j + 1))))) from by
                have := OJ.out.set_ rfl n (.int .i64 (((M.midI P (L.take i) s (D.take j) n + 1 : Nat)) : Int))
                rw [Nat.zero_add, M.rowI_set, HQ.out] at this
                simpa using this)
              have tt := Turned.setCell (lo := w2.heap.size) (hi := w2.heap.size + 1) wr w2.heap.size n (.int .i64 ((M.midI P (L.take i) s (D.take j) n : Nat) + 1 : Int)) (Nat.le_refl _) (Nat.lt_succ_self _)
              have HRS := Lib.hid (RJ.out.turned tt (by omega) (.inl (Nat.le_refl _)))
              have HDS2 := Lib.hid (DJ.out.turned tt (by omega) (.inr (by omega)))
              have HLS := Lib.hid (LJ.out.setCell (p := ⟨w2.heap.size, n, none⟩) (by show w.heap.size ≤ w2.heap.size; omega) (.int .i64 ((M.midI P (L.take i) s (D.take j) n : Nat) + 1 : Int)))
              have hss : ∀ v, (wr.setCell ⟨w2.heap.size, n, none⟩ v).heap.size = wr.heap.size := fun v => by simp [World.setCell]
              clear qp HN HY HQ tt
              generalize (M.bit6 n s).val = v at *
              generalize M.midI P (L.take i) s (D.take j) n = q at *
              go_wp2_with fail
              refine (HCO.out _ RJ.out.row).mono ?_
              rintro e w5 ⟨rfl, rfl⟩
              go_wp2_with fail
              go_roundw
              case rel => exact ⟨j + 1, by omega, by go_num, HSE2.out, HRS.out, HDS2.out, HLS.out, by rw [hss]; exact hsj⟩
              case measure => simp [intOf]; omega
          · obtain rfl : j = D.length := by omega
            have hfin := OJ.out
            rw [List.take_of_length_le (Nat.le_refl _), HMA.out] at hfin
            have HF := Lib.hid hfin
            clear hfin
            go_wp2_with fail
            go_roundw
            case rel => exact ⟨i + 1, by omega, by go_num, HF.out, RJ.out, LJ.out, by omega⟩
            case measure => simp [intOf]; omega
      · obtain rfl : i = L.length := by omega
        have hfin := OI.out
        rw [List.take_of_length_le (Nat.le_refl _)] at hfin
        rw [HLA.out] at hfin
        have HF := Lib.hid hfin
        clear hfin
        go_wp2_with fail
        go_ret2
        rw [HM.out, HPV.out]
        exact ⟨_, _, by rw [M.rowI_len]; rfl, HF.out.mono (by omega) (by omega), by rw [M.rowI_len]; exact Nat.le_refl _, by omega, LI.out⟩
end C
end Go.Proofs.Ytcoaggnilgfjfaa
