/-
  CONTRACT of the model's PowerOfColours; what lay in memory stays. No condition but that the maze reads so.
-/
import Derived.Test.YtcoaggnilgfjfaaSWin
import Derived.Test.YtcoaggnilgfjfaaPowM
import Derived.Deep.RegionHeld3
import Derived.Deep.RegionWith
import Derived.Deep.DeepCutAuto
namespace Go.Proofs.Ytcoaggnilgfjfaa
open Go.RowKit
namespace M
theorem powS_fin : ∀ s : St6, ∀ c : Fin 6, (bits .and .i64 ((s.val : Int) / 2 ^ c.val) 1 == 0) = (!s.val.testBit c.val) ∧ (s.val.testBit c.val = false → (s.val : Int) + wrap64 (2 ^ c.val) = ((bit6 c.val s).val : Int)) ∧ IntKind.i64.wrap (2 ^ c.val) = wrap64 (2 ^ c.val) ∧ 0 ≤ wrap64 (2 ^ c.val) ∧ wrap64 (2 ^ c.val) ≤ 32 := by decide +kernel
theorem row_zero (P : St6 → Bool) : (rowI fun _ => 0) = rowI (cntU P 0) := rowI_congr fun c _ => by have := cntU_le P 0 c; omega
end M
namespace C
set_option maxHeartbeats 3200000
set_option maxRecDepth 20000
theorem specPow_lw (w : World) (lo hi : Nat) (m : M.Mz) (a b : Option Addr) (c d : Nat) (h : MzIn lo hi w m a c b d) (hz : hi ≤ w.heap.size) (_h1 : m.doors.length ≤ 1048576) (_h2 : m.keys.length ≤ 1048576) :
    Calls Try.prog 34 #[.agg #[.int .i64 m.size, .slice a m.doors.length c, .slice b m.keys.length d]] w (IntsOkPost w (M.powV m) (M.mazeB m)) := by
  obtain ⟨ii0, hi0, hz0, hzz1, hz2⟩ := info_parts infoI
  have H := Lib.hid h
  clear h
  go_enter Try.func34, Try.ntmps34
  go_wp2_with fail
  refine named ?_
  intro W hW
  have hb : Below w.heap.size w W := by rw [hW]; exact below_alloc _ _
  have x1 : Box3 W w.heap.size 29 (.int .i64 m.size) (.slice a m.doors.length c) (.slice b m.keys.length d) := by rw [hW]; exact Box3.new _ _ _ _ rfl
  clear hW
  have hzw := hb.size
  refine (specMaze_any W lo hi m a b c d (H.out.below hb hz) (by omega)).mono ?_
  rintro e w1 ⟨rfl, hb1⟩
  have X1 := Lib.hid (x1.below hb1)
  have HB1 := Lib.hid (hb.trans (hb1.mono hzw))
  have hz1 := hb1.size
  have hxl1 := X1.out.lt
  clear hb hb1 x1
  obtain ⟨c0, c1, c2⟩ := X1.out.cells
  cases q0 : M.mazeB m with
  | false =>
    have HM := Lib.hid q0
    clear q0
    go_wp2_with fail
    go_ret2
    rw [HM.out, M.powV_no HM.out]
    exact intsOk_end (l := []) (ownsRow_empty _ _ _ _ (by omega)) (HB1.out.alloc (by omega) _)
  | true =>
    have HM := Lib.hid q0
    have HV := Lib.hid (M.valid_of q0)
    clear q0
    have HPV := Lib.hid (M.powV_yes HM.out)
    have HBA := Lib.hid (fun s : M.St6 => M.boolsF_at (M.wF m) s)
    have HBL : Hid ((M.encBs (M.boolsF (M.wF m))).length = 64) := Lib.hid (by rw [M.encBs_len, M.boolsF_len])
    have hl64 := M.boolsF_len (M.wF m)
    have HWI := Lib.hid (fun W' (hq : Below w1.heap.size w1 W') => l6Wins_any W' lo hi m a b c d (H.out.below (HB1.out.trans (hq.mono (by omega))) hz) (by have := hq.size; omega) HV.out)
    have HR0 := Lib.hid (M.row_zero (M.wF m))
    obtain ⟨zs, hzs1, hzs2, hmr⟩ := make_run6 hi0 hz0 hzz1 hz2
    generalize hP : M.wF m = P at *
    clear hP
    have HZS := Lib.hid hzs2
    clear hzs2
    go_upto_region 3 with fail
    go_cut [4, 5] (fun s4 s5 wx => ∃ g lo2 hi2 ra rc, s4 = .slice (some ⟨g, 0, none⟩) 6 6 ∧ s5 = .slice ra 64 rc ∧ OwnAt g (g + 1) wx 3 (some ⟨g, 0, none⟩) (M.encIs (M.rowI fun _ => 0)) ∧ OwnAt lo2 hi2 wx 4 ra (M.encBs (M.boolsF P)) ∧ (g < lo2 ∨ hi2 ≤ g) ∧ hi2 ≤ wx.heap.size ∧ g < wx.heap.size ∧ w1.heap.size ≤ g ∧ Below w1.heap.size w1 wx)
    case first =>
      go_region_held3 (fun wq => wq.cell? ⟨w.heap.size, 0, none⟩ = some (.int .i64 m.size) ∧ wq.cell? ⟨w.heap.size, 1, none⟩ = some (.slice a m.doors.length c) ∧ wq.cell? ⟨w.heap.size, 2, none⟩ = some (.slice b m.keys.length d)) (first | exact ⟨c0, c1, c2⟩ | go_keep) (first
        | (go_at_call 57; refine (HWI.out w1.drew (Below.refl w1.heap.size w1).drew).mono ?_; rintro e w5 ⟨ra, rc, rfl, ho, ho1, ho2, hb5⟩; have hb5' : Below w1.heap.size w1 w5 := (Below.refl w1.heap.size w1).drew.trans hb5; obtain ⟨c0, c1, c2⟩ := (X1.out.below hb5').cells; have hz5 := hb5'.size)
        | (go_at_call 57; refine (HWI.out (w1.drew.alloc (.cells zs 3)) ((Below.refl w1.heap.size w1).drew.alloc (Nat.le_refl _) _)).mono ?_; rintro e w5 ⟨ra, rc, rfl, ho, ho1, ho2, hb5⟩; have hb5' : Below w1.heap.size w1 w5 := ((Below.refl w1.heap.size w1).drew.alloc (Nat.le_refl _) _).trans (hb5.mono (by simp)); obtain ⟨c0, c1, c2⟩ := (X1.out.below hb5').cells; have hz5 := hb5'.size))
      all_goals
        go_wp2_with fail
        go_meet
        rw [← HZS.out]
        first
          | exact ⟨w1.heap.size, w1.heap.size + 1, w5.heap.size, ra, rc, rfl, (by first | rfl | rw [hl64]), ((OwnAt.of_own0 (own_made (w := w1.drew) (B := 0) hzs1 (by omega) (Nat.zero_le _))).mono (Nat.le_refl _) (by simp)).below hb5 (by simp), ho.mono (by simp) (Nat.le_refl _), .inl (Nat.lt_succ_self _), Nat.le_refl _, by have := hb5.size; simp at this; omega, Nat.le_refl _, hb5'⟩
          | exact ⟨w5.heap.size, w1.heap.size, w5.heap.size, ra, rc, rfl, (by first | rfl | rw [hl64]), (OwnAt.of_own0 (own_made (w := w5) (B := 0) hzs1 (by omega) (Nat.zero_le _))).mono (Nat.le_refl _) (Nat.le_refl _), ((ho.mono (by simp) (Nat.le_refl _)).below (below_alloc _ _) (Nat.le_refl _)), .inr (Nat.le_refl _), by simp, by simp, hz5, hb5'.alloc hz5 _⟩
    case rest =>
      obtain ⟨g, lo2, hi2, ra, rc, rfl, rfl, hout, hbls, hdis, hhi, hgl, hgW, hbc⟩ := hcut
      have HBC := Lib.hid (HB1.out.trans (hbc.mono (by omega)))
      have OUT := Lib.hid hout
      have BLS := Lib.hid hbls
      have hgw : w.heap.size ≤ g := by omega
      clear hbc hout hbls c0 c1 c2 hmr
      have ST := Lib.hid (show OwnAt g (g + 1) wc 3 (some ⟨g, 0, none⟩) (M.encIs (M.rowI (M.cntU P 0))) ∧ OwnAt lo2 hi2 wc 4 ra (M.encBs (M.boolsF P)) ∧ Below w.heap.size w wc from ⟨by rw [← HR0.out]; exact OUT.out, BLS.out, HBC.out⟩)
      go_wp2_with fail
      go_loopw [6, 7] (fun v6 _ wr => ∃ (k : Nat), k ≤ 64 ∧ v6 = .int .i64 k ∧ OwnAt g (g + 1) wr 3 (some ⟨g, 0, none⟩) (M.encIs (M.rowI (M.cntU P k))) ∧ OwnAt lo2 hi2 wr 4 ra (M.encBs (M.boolsF P)) ∧ Below w.heap.size w wr ∧ wc.heap.size ≤ wr.heap.size) (fun v6 _ _ => 64 - (intOf v6).toNat)
      case atStart => exact ⟨0, Nat.zero_le _, rfl, ST.out.1, ST.out.2.1, ST.out.2.2, Nat.le_refl _⟩
      case round =>
        obtain ⟨k, hk, rfl, ho1, hb1, hl1, hs1⟩ := hrel
        have O1 := Lib.hid ho1
        have R1 := Lib.hid hb1
        have L1 := Lib.hid hl1
        clear ho1 hb1 hl1
        by_cases hkl : k < 64
        · have HU0 := Lib.hid (M.midU_zero P k ⟨k, hkl⟩)
          have HU6 := Lib.hid (M.midU_all P hkl)
          go_wp2_with fail
          go_loopw [7] (fun v7 wr => ∃ (n : Nat), n ≤ 6 ∧ v7 = .int .i64 n ∧ OwnAt g (g + 1) wr 3 (some ⟨g, 0, none⟩) (M.encIs (M.rowI (M.midU P k ⟨k, hkl⟩ n))) ∧ OwnAt lo2 hi2 wr 4 ra (M.encBs (M.boolsF P)) ∧ Below w.heap.size w wr ∧ wc.heap.size ≤ wr.heap.size) (fun v7 _ => 6 - (intOf v7).toNat)
          case atStart => exact ⟨0, Nat.zero_le _, rfl, by rw [HU0.out]; exact O1.out, R1.out, L1.out, hs1⟩
          case round =>
            obtain ⟨n, hn, rfl, hon, hbn, hln, hsn⟩ := hrel
            have ON := Lib.hid hon
            have RN := Lib.hid hbn
            have LN := Lib.hid hln
            clear hon hbn hln
            by_cases hn6 : n < 6
            · obtain ⟨e1, e2, e3, e4, e5⟩ := M.powS_fin ⟨k, hkl⟩ ⟨n, hn6⟩
              obtain ⟨bb, boff, hra, _, _, hbc⟩ := RN.out.row.at_ (k := 0) (by rw [HBL.out]; decide)
              have HCE := Lib.hid (fun s : M.St6 => hbc _ _ (HBA.out s))
              have d0 := HCE.out ⟨k, hkl⟩
              have HN := Lib.hid (fun h => M.midU_no P k ⟨k, hkl⟩ (n := n) h)
              have HY := Lib.hid (fun h => M.midU_yes P k ⟨k, hkl⟩ (n := n) h)
              have hn0 : ¬ (n : Int) < 0 := by omega
              clear hbc
              subst hra
              simp only at e1 e2 e3 e4 e5
              generalize wrap64 (2 ^ n) = pw at *
              cases qb : (⟨k, hkl⟩ : M.St6).val.testBit n with
              | true =>
                have HQ := Lib.hid (HN.out (by rw [qb]; rfl))
                simp only at qb
                rw [qb] at e1
                clear qb e2 HN HY
                go_wp2_with fail
                go_roundw
                case rel => exact ⟨n + 1, by omega, by go_num, by rw [HQ.out]; exact ON.out, RN.out, LN.out, hsn⟩
                case measure => simp [intOf]; omega
              | false =>
                have hadd := e2 qb
                cases qp : P ⟨k, hkl⟩ with
                | true =>
                  have HQ := Lib.hid (HN.out (by rw [qb, qp]; rfl))
                  rw [qp] at d0
                  simp only at qb
                  rw [qb] at e1
                  clear qb qp e2 hadd HN HY
                  go_wp2_with fail
                  go_roundw
                  case rel => exact ⟨n + 1, by omega, by go_num, by rw [HQ.out]; exact ON.out, RN.out, LN.out, hsn⟩
                  case measure => simp [intOf]; omega
                | false =>
                  have d1 := HCE.out (M.bit6 n ⟨k, hkl⟩)
                  have hj64 := (M.bit6 n ⟨k, hkl⟩).isLt
                  cases qn : P (M.bit6 n ⟨k, hkl⟩) with
                  | false =>
                    have HQ := Lib.hid (HN.out (by rw [qb, qp, qn]; rfl))
                    rw [qp] at d0
                    rw [qn] at d1
                    simp only at qb
                    rw [qb] at e1
                    clear qb qp qn e2 HN HY
                    generalize (M.bit6 n ⟨k, hkl⟩).val = j at *
                    go_wp2_with fail
                    go_roundw
                    case rel => exact ⟨n + 1, by omega, by go_num, by rw [HQ.out]; exact ON.out, RN.out, LN.out, hsn⟩
                    case measure => simp [intOf]; omega
                  | true =>
                    have HQ := Lib.hid (HY.out (by rw [qb, qp, qn]; rfl))
                    rw [qp] at d0
                    rw [qn] at d1
                    simp only at qb
                    rw [qb] at e1
                    have hml := M.midU_le P k ⟨k, hkl⟩ n n
                    obtain ⟨u, hu, p0, pf⟩ := ON.out.cell0 (k := n) (by rw [M.encIs_len, M.rowI_len]; exact hn6)
                    rw [M.rowI_at _ hn6] at hu
                    injection hu with hu
                    subst hu
                    have HSE := Lib.hid (show OwnAt g (g + 1) (wr.setCell ⟨g, n, none⟩ (.int .i64 ((M.midU P k ⟨k, hkl⟩ n n : Nat) + 1 : Int))) 3 (some ⟨g, 0, none⟩) (M.encIs (M.rowI (M.midU P k ⟨k, hkl⟩ (n + 1)))) from by
                      have := ON.out.set_ rfl n (.int .i64 (((M.midU P k ⟨k, hkl⟩ n n + 1 : Nat)) : Int))
                      rw [Nat.zero_add, M.rowI_set, HQ.out] at this
                      simpa using this)
                    have HRS := Lib.hid (RN.out.turned (Turned.setCell (lo := g) (hi := g + 1) wr g n (.int .i64 ((M.midU P k ⟨k, hkl⟩ n n : Nat) + 1 : Int)) (Nat.le_refl _) (Nat.lt_succ_self _)) (by omega) (by omega))
                    have HLS := Lib.hid (LN.out.setCell (p := ⟨g, n, none⟩) hgw (.int .i64 ((M.midU P k ⟨k, hkl⟩ n n : Nat) + 1 : Int)))
                    have hss : ∀ v, (wr.setCell ⟨g, n, none⟩ v).heap.size = wr.heap.size := fun v => by simp [World.setCell]
                    clear qb qp qn e2 HN HY HQ
                    generalize (M.bit6 n ⟨k, hkl⟩).val = j at *
                    generalize M.midU P k ⟨k, hkl⟩ n n = q at *
                    go_wp2_with fail
                    go_roundw
                    case rel => exact ⟨n + 1, by omega, by go_num, HSE.out, HRS.out, HLS.out, by rw [hss]; exact hsn⟩
                    case measure => simp [intOf]; omega
            · obtain rfl : n = 6 := by omega
              go_wp2_with fail
              go_roundw
              case rel => exact ⟨k + 1, by omega, by go_num, by rw [← HU6.out]; exact ON.out, RN.out, LN.out, hsn⟩
              case measure => simp [intOf]; omega
        · obtain rfl : k = 64 := by omega
          go_wp2_with fail
          go_ret2
          rw [HM.out, HPV.out]
          exact ⟨_, _, by rw [M.rowI_len]; rfl, O1.out.mono (by omega) (by omega), by rw [M.rowI_len]; exact Nat.le_refl _, by omega, L1.out⟩
end C
end Go.Proofs.Ytcoaggnilgfjfaa
