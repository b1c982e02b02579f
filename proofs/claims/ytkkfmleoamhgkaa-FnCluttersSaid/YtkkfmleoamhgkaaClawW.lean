/-
  THE WALK of the law FnClutters, at a code of at most 65536 bytes.
-/
import Derived.Test.YtkkfmleoamhgkaaDrawD6
import Derived.Test.YtkkfmleoamhgkaaClawM
import Derived.Test.YtkkfmleoamhgkaaCuI
import Derived.Test.YtkkfmleoamhgkaaCuS
namespace Go.Proofs.Ytkkfmleoamhgkaa
open Go.RowKit
namespace C
set_option maxHeartbeats 6400000
set_option maxRecDepth 20000
theorem codeAt_below {B : Nat} {w w' : World} {a : Option Addr} {len : Nat} (h : CodeAt B w a len) (hb : Below B w w') : CodeAt B w' a len := by
  rcases h with h | ⟨b, off, ha, hb', hc⟩
  · exact .inl h
  · refine .inr ⟨b, off, ha, hb', fun i hi => ?_⟩
    obtain ⟨z, hz, h0, h1⟩ := hc i hi
    exact ⟨z, (World.cell?_of_block (w := w) (hb.block b hb')).trans hz, h0, h1⟩
theorem codeAt_up {B B' : Nat} {w : World} {a : Option Addr} {len : Nat} (h : CodeAt B w a len) (hB : B ≤ B') : CodeAt B' w a len := by
  rcases h with h | ⟨b, off, ha, hb', hc⟩
  · exact .inl h
  · exact .inr ⟨b, off, ha, by omega, hc⟩
theorem dualV_i64 (l : List Int) : ∀ z ∈ M.dualV l, I64 z := fun z hz => by
  cases h : M.isCluB l with
  | false => rw [M.dualV_no h] at hz; cases hz
  | true => rw [M.dualV_yes h] at hz; exact st6_i64 _ z hz
theorem clutters_walk (w : World) (a0 : Option Addr) (len0 cap0 : Nat) (hl0 : len0 ≤ 65536) (w0 : CodeAt w.heap.size w a0 len0) :
    Calls Try.prog 3 #[.slice a0 len0 cap0] w fun e w' => e = .returned (.bool true) ∧ Below w.heap.size w w' := by
  have CODE := Lib.hid w0
  have BW := Lib.hid (Below.refl w.heap.size w)
  have RB := Lib.hid (rBig_any w a0 len0 cap0 hl0)
  clear w0
  go_enter Try.func3, Try.ntmps3
  go_wp2_with fail
  refine (RB.out).mono ?_
  rintro e wr0 ⟨rfl, rfl⟩
  clear RB
  go_wp2_with fail
  refine (drawDual_any w a0 len0 cap0 hl0 (codeAt_up CODE.out (by omega))).mono ?_
  rintro e w1 ⟨l, la, lc, rfl, ho, hl1, hl2, hl3, hl4, hb⟩
  have Ll := Lib.hid hl4
  clear hl4
  have hzw1 := hb.size
  have F1 := Lib.hid (codeAt_below CODE.out (hb.mono (by omega)))
  clear CODE
  have F2 := Lib.hid (BW.out.trans (hb.mono (by omega)))
  clear BW
  have F3 := Lib.hid ho.row
  clear ho hb
  go_wp2_with fail
  refine (implDu_lw w1 w.heap.size w1.heap.size la lc l F3.out (by omega) (by omega) hl1 hl2 Ll.out).mono ?_
  rintro e w2 ⟨da, dc, rfl, ho, hd1, hd2, hb⟩
  have hzw2 := hb.size
  have F4 := Lib.hid (codeAt_below F1.out (hb.mono (by omega)))
  clear F1
  have F5 := Lib.hid (F2.out.trans (hb.mono (by omega)))
  clear F2
  have F6 := Lib.hid (F3.out.below hb (by omega))
  clear F3
  have F7 := Lib.hid ho.row
  clear ho hb
  go_wp2_with fail
  refine (specDu_lw w2 w.heap.size w1.heap.size la lc l F6.out (by omega) (by omega) hl1 hl2 Ll.out).mono ?_
  rintro e w3 ⟨d2a, d2c, rfl, ho, hd21, hd22, hb⟩
  have hzw3 := hb.size
  have F8 := Lib.hid (codeAt_below F4.out (hb.mono (by omega)))
  clear F4
  have F9 := Lib.hid (F5.out.trans (hb.mono (by omega)))
  clear F5
  have F10 := Lib.hid (F6.out.below hb (by omega))
  clear F6
  have F11 := Lib.hid (F7.out.below hb (by omega))
  clear F7
  have F12 := Lib.hid ho.row
  clear ho hb
  have LD := Lib.hid (dualV_i64 l)
  have hdl := M.dualV_len l
  have ISD := Lib.hid (fun (h : M.isCluB l = true) => show M.isCluB (M.dualV l) = true ∧ M.dualV (M.dualV l) = l ∧ ∀ x ∈ M.dualV l, M.meetV l x = true ∧ M.askM l x = true from ⟨M.dual_clu h, M.dual_dual h, fun x hx => M.dual_meets h hx⟩)
  have IC := Lib.hid (implIcu_lw w3 w.heap.size w1.heap.size la lc l F10.out (by omega) (by omega) hl1 hl2 Ll.out)
  generalize M.isCluB l = kb at *
  go_wp2_with fail
  refine (IC.out).mono ?_
  rintro e w4 ⟨rfl, hb⟩
  clear IC
  have hzw4 := hb.size
  have F13 := Lib.hid (codeAt_below F8.out (hb.mono (by omega)))
  clear F8
  have F14 := Lib.hid (F9.out.trans (hb.mono (by omega)))
  clear F9
  have F15 := Lib.hid (F10.out.below hb (by omega))
  clear F10
  have F16 := Lib.hid (F11.out.below hb (by omega))
  clear F11
  have F17 := Lib.hid (F12.out.below hb (by omega))
  clear F12
  clear hb
  go_wp2_with fail
  refine (rInts_same w4 w1.heap.size w2.heap.size w2.heap.size w3.heap.size da d2a dc d2c (M.dualV l) (by omega) F16.out F17.out).mono ?_
  rintro e w5 ⟨rfl, mw5, hww5⟩
  have hb : Below w4.heap.size w4 w5 := by rw [hww5]; exact below_drawn _ _
  clear hww5
  have hzw5 := hb.size
  have F18 := Lib.hid (codeAt_below F13.out (hb.mono (by omega)))
  clear F13
  have F19 := Lib.hid (F14.out.trans (hb.mono (by omega)))
  clear F14
  have F20 := Lib.hid (F15.out.below hb (by omega))
  clear F15
  have F21 := Lib.hid (F16.out.below hb (by omega))
  clear F16
  have F22 := Lib.hid (F17.out.below hb (by omega))
  clear F17
  clear hb
  go_wp2_with fail
  refine (drawClu_any w5 a0 len0 cap0 hl0 (codeAt_up F18.out (by omega))).mono ?_
  rintro e w6 ⟨q, qa, qc, rfl, ho, hq1, hq2, hq3, hq4, hb⟩
  have Lq := Lib.hid hq4
  clear hq4
  have hzw6 := hb.size
  have F23 := Lib.hid (codeAt_below F18.out (hb.mono (by omega)))
  clear F18
  have F24 := Lib.hid (F19.out.trans (hb.mono (by omega)))
  clear F19
  have F25 := Lib.hid (F20.out.below hb (by omega))
  clear F20
  have F26 := Lib.hid (F21.out.below hb (by omega))
  clear F21
  have F27 := Lib.hid ho.row
  clear ho hb
  go_wp2_with fail
  refine (implCo_lw w6 w5.heap.size w6.heap.size qa qc q F27.out (by omega) (by omega) hq1 hq2 Lq.out).mono ?_
  rintro e w7 ⟨ca, cc, rfl, ho, hc1, hc2, hb⟩
  have hzw7 := hb.size
  have F28 := Lib.hid (codeAt_below F23.out (hb.mono (by omega)))
  clear F23
  have F29 := Lib.hid (F24.out.trans (hb.mono (by omega)))
  clear F24
  have F30 := Lib.hid (F25.out.below hb (by omega))
  clear F25
  have F31 := Lib.hid (F26.out.below hb (by omega))
  clear F26
  have F32 := Lib.hid (F27.out.below hb (by omega))
  clear F27
  have F33 := Lib.hid ho.row
  clear ho hb
  go_wp2_with fail
  refine (specCo_lw w7 w5.heap.size w6.heap.size qa qc q F32.out (by omega) (by omega) hq1 hq2 Lq.out).mono ?_
  rintro e w8 ⟨c2a, c2c, rfl, ho, hc21, hc22, hb⟩
  have hzw8 := hb.size
  have F34 := Lib.hid (codeAt_below F28.out (hb.mono (by omega)))
  clear F28
  have F35 := Lib.hid (F29.out.trans (hb.mono (by omega)))
  clear F29
  have F36 := Lib.hid (F30.out.below hb (by omega))
  clear F30
  have F37 := Lib.hid (F31.out.below hb (by omega))
  clear F31
  have F38 := Lib.hid (F32.out.below hb (by omega))
  clear F32
  have F39 := Lib.hid (F33.out.below hb (by omega))
  clear F33
  have F40 := Lib.hid ho.row
  clear ho hb
  have LC := Lib.hid (cluV_i64 q)
  have hcl := M.cluV_len q
  have ISC := Lib.hid (fun (h : M.keysB q = true) => show M.isCluB (M.cluV q) = true ∧ ∀ x ∈ q, ∃ k, ∃ hk : k < (M.cluV q).length, bits .and .i64 x (M.cluV q)[k] = (M.cluV q)[k] from ⟨M.clu_clu h, fun x hx => M.clu_some h hx⟩)
  generalize M.keysB q = kk at *
  go_wp2_with fail
  refine (rInts_same w8 w6.heap.size w7.heap.size w7.heap.size w8.heap.size ca c2a cc c2c (M.cluV q) (by omega) F39.out F40.out).mono ?_
  rintro e w9 ⟨rfl, mw9, hww9⟩
  have hb : Below w8.heap.size w8 w9 := by rw [hww9]; exact below_drawn _ _
  clear hww9
  have hzw9 := hb.size
  have F41 := Lib.hid (codeAt_below F34.out (hb.mono (by omega)))
  clear F34
  have F42 := Lib.hid (F35.out.trans (hb.mono (by omega)))
  clear F35
  have F43 := Lib.hid (F36.out.below hb (by omega))
  clear F36
  have F44 := Lib.hid (F37.out.below hb (by omega))
  clear F37
  have F45 := Lib.hid (F38.out.below hb (by omega))
  clear F38
  have F46 := Lib.hid (F39.out.below hb (by omega))
  clear F39
  have F47 := Lib.hid (F40.out.below hb (by omega))
  clear F40
  clear hb
  go_wp2_with fail
  refine (drawMeets_any w9 a0 len0 cap0 hl0 (codeAt_up F41.out (by omega))).mono ?_
  rintro e w10 ⟨r, ra, rc, x, rfl, ho, hr1, hr2, hr3, hr4, hrx, hb⟩
  have Lr := Lib.hid hr4
  clear hr4
  have hzw10 := hb.size
  have F48 := Lib.hid (codeAt_below F41.out (hb.mono (by omega)))
  clear F41
  have F49 := Lib.hid (F42.out.trans (hb.mono (by omega)))
  clear F42
  have F50 := Lib.hid (F43.out.below hb (by omega))
  clear F43
  have F51 := Lib.hid (F44.out.below hb (by omega))
  clear F44
  have F52 := Lib.hid (F45.out.below hb (by omega))
  clear F45
  have F53 := Lib.hid (F46.out.below hb (by omega))
  clear F46
  have F54 := Lib.hid ho.row
  clear ho hb
  go_wp2_with fail
  refine (implMa_lw w10 w9.heap.size w10.heap.size ra rc r F54.out (by omega) (by omega) hr1 hr2 Lr.out x hrx.1 hrx.2).mono ?_
  rintro e w11 ⟨rfl, hb⟩
  have hzw11 := hb.size
  have F55 := Lib.hid (codeAt_below F48.out (hb.mono (by omega)))
  clear F48
  have F56 := Lib.hid (F49.out.trans (hb.mono (by omega)))
  clear F49
  have F57 := Lib.hid (F50.out.below hb (by omega))
  clear F50
  have F58 := Lib.hid (F51.out.below hb (by omega))
  clear F51
  have F59 := Lib.hid (F52.out.below hb (by omega))
  clear F52
  have F60 := Lib.hid (F53.out.below hb (by omega))
  clear F53
  have F61 := Lib.hid (F54.out.below hb (by omega))
  clear F54
  clear hb
  go_wp2_with fail
  refine (specMa_lw w11 w9.heap.size w10.heap.size ra rc r F61.out (by omega) (by omega) hr1 hr2 Lr.out x hrx.1 hrx.2).mono ?_
  rintro e w12 ⟨rfl, hb⟩
  have hzw12 := hb.size
  have F62 := Lib.hid (codeAt_below F55.out (hb.mono (by omega)))
  clear F55
  have F63 := Lib.hid (F56.out.trans (hb.mono (by omega)))
  clear F56
  have F64 := Lib.hid (F57.out.below hb (by omega))
  clear F57
  have F65 := Lib.hid (F58.out.below hb (by omega))
  clear F58
  have F66 := Lib.hid (F59.out.below hb (by omega))
  clear F59
  have F67 := Lib.hid (F60.out.below hb (by omega))
  clear F60
  have F68 := Lib.hid (F61.out.below hb (by omega))
  clear F61
  clear hb
  generalize M.meetV r x = mv at *
  generalize M.askM r x = mk at *
  cases kk with
  | false =>
    cases kb with
    | false =>
      go_wp2_with fail
      go_ret
      exact ⟨rfl, F63.out⟩
    | true =>
      obtain ⟨d1, d2, d3⟩ := ISD.out rfl
      have D3 := Lib.hid d3
      clear d3
      go_wp2_with fail
      refine (implDu_lw w12 w1.heap.size w2.heap.size da dc (M.dualV l) F65.out (by omega) (by omega) hd1 hd2 LD.out).mono ?_
      rintro e w20 ⟨ba, bc, rfl, ho, hb1, hb2, hb⟩
      rw [d2] at ho hb1 ⊢
      rw [d1]
      have hzw20 := hb.size
      have F69 := Lib.hid (F63.out.trans (hb.mono (by omega)))
      clear F63
      have F70 := Lib.hid (F64.out.below hb (by omega))
      clear F64
      have F71 := Lib.hid (F65.out.below hb (by omega))
      clear F65
      have F72 := Lib.hid (F66.out.below hb (by omega))
      clear F66
      have F73 := Lib.hid (F67.out.below hb (by omega))
      clear F67
      have F74 := Lib.hid ho.row
      clear ho hb d1 d2
      go_wp2_with fail
      refine (rInts_same w20 w12.heap.size w20.heap.size w.heap.size w1.heap.size ba la bc lc l (by omega) F74.out F70.out).mono ?_
      rintro e w20x ⟨rfl, mw20x, hww20x⟩
      have hb : Below w20.heap.size w20 w20x := by rw [hww20x]; exact below_drawn _ _
      clear hww20x
      have hzw20x := hb.size
      have F75 := Lib.hid (F69.out.trans (hb.mono (by omega)))
      clear F69
      have F76 := Lib.hid (F70.out.below hb (by omega))
      clear F70
      have F77 := Lib.hid (F71.out.below hb (by omega))
      clear F71
      have F78 := Lib.hid (F72.out.below hb (by omega))
      clear F72
      have F79 := Lib.hid (F73.out.below hb (by omega))
      clear F73
      have F80 := Lib.hid (F74.out.below hb (by omega))
      clear F74
      clear hb
      go_wp2_with fail
      generalize hD : M.dualV l = dl at *
      clear hD ISD
      go_loopw [24, 25, 26] (fun v24 v25 v26 wr => ∃ (i : Nat), i ≤ dl.length ∧ v24 = .int .i64 (i : Int) ∧ Below w20x.heap.size w20x wr) (fun v24 _ _ _ => dl.length - (intOf v24).toNat)
      case atStart => exact ⟨0, Nat.zero_le _, rfl, Below.refl _ _⟩
      case round =>
        obtain ⟨i, hi, rfl, hbr⟩ := hrel
        have BR := Lib.hid hbr
        have hzr := hbr.size
        have RD := Lib.hid (F77.out.below hbr (by omega))
        have RL := Lib.hid (F76.out.below hbr (by omega))
        clear hbr
        by_cases hlt : i < dl.length
        · obtain ⟨pb, po, hpa, _, _, hpc⟩ := RD.out.at_ (k := i) (by rw [M.encIs_len]; exact hlt)
          have p0 := hpc _ _ (M.encIs_at hlt)
          obtain ⟨t1, t2⟩ := D3.out dl[i] (List.getElem_mem hlt)
          have hI := LD.out dl[i] (List.getElem_mem hlt)
          have MA := Lib.hid (implMa_lw wr w.heap.size w1.heap.size la lc l RL.out (by omega) (by omega) hl1 hl2 Ll.out dl[i] hI.1 hI.2)
          rw [t1, t2] at MA
          have hlti : (i : Int) < (dl.length : Int) := by omega
          clear hpc t1 t2 hI
          subst hpa
          generalize dl[i] = y at *
          go_wp2_with fail
          refine (MA.out).mono ?_
          rintro e wm ⟨rfl, hbm⟩
          have BM := Lib.hid (BR.out.trans (hbm.mono (by omega)))
          clear hbm MA
          go_wp2_with fail
          go_roundw
          case rel => exact ⟨i + 1, by omega, by go_num, BM.out⟩
          case measure => simp [intOf]; omega
        · obtain rfl : i = dl.length := by omega
          go_wp2_with fail
          go_ret
          exact ⟨rfl, F75.out.trans (BR.out.mono (by omega))⟩
  | true =>
    obtain ⟨c1, c2⟩ := ISC.out rfl
    have C2 := Lib.hid c2
    clear c2
    go_wp2_with fail
    refine (implIcu_lw w12 w6.heap.size w7.heap.size ca cc (M.cluV q) F67.out (by omega) (by omega) hc1 hc2 LC.out).mono ?_
    rintro e w13 ⟨rfl, hb⟩
    rw [c1]
    clear c1
    have hzw13 := hb.size
    have F81 := Lib.hid (F63.out.trans (hb.mono (by omega)))
    clear F63
    have F82 := Lib.hid (F64.out.below hb (by omega))
    clear F64
    have F83 := Lib.hid (F65.out.below hb (by omega))
    clear F65
    have F84 := Lib.hid (F66.out.below hb (by omega))
    clear F66
    have F85 := Lib.hid (F67.out.below hb (by omega))
    clear F67
    clear hb
    go_wp2_with fail
    generalize hC : M.cluV q = cl at *
    clear hC ISC
    go_loopw [19, 20, 21] (fun v19 v20 v21 wr => ∃ (i m : Nat), i ≤ q.length ∧ v19 = .int .i64 (i : Int) ∧ wr = w13.drewN m) (fun v19 _ _ _ => q.length - (intOf v19).toNat)
    case atStart => exact ⟨0, 0, Nat.zero_le _, rfl, rfl⟩
    case round =>
      obtain ⟨i, m, hi, rfl, rfl⟩ := hrel
      by_cases hlt : i < q.length
      · obtain ⟨pb, po, hpa, _, _, hpc⟩ := F84.out.at_ (k := i) (by rw [M.encIs_len]; exact hlt)
        have p0 := hpc _ _ (M.encIs_at hlt)
        have HY := Lib.hid (C2.out q[i] (List.getElem_mem hlt))
        have hlti : (i : Int) < (q.length : Int) := by omega
        clear hpc
        have HPA := Lib.hid hpa
        subst hpa
        generalize q[i] = y at *
        go_wp2_with fail
        go_loopw [20, 21] (fun v20 v21 wr => ∃ (k m : Nat), k ≤ cl.length ∧ v21 = .int .i64 (k : Int) ∧ v20 = .bool ((cl.take k).any fun z => bits .and .i64 y z == z) ∧ wr = w13.drewN m) (fun _ v21 _ => cl.length - (intOf v21).toNat)
        case atStart => exact ⟨0, m, Nat.zero_le _, rfl, rfl, rfl⟩
        case round =>
          obtain ⟨k, m2, hk, rfl, rfl, rfl⟩ := hrel
          by_cases hkl : k < cl.length
          · obtain ⟨sb, so, hsa, _, _, hsc⟩ := F85.out.at_ (k := k) (by rw [M.encIs_len]; exact hkl)
            have s0 := hsc _ _ (M.encIs_at hkl)
            have hkli : (k : Int) < (cl.length : Int) := by omega
            have HT : Hid ((cl.take (k + 1)).any (fun z => bits .and .i64 y z == z) = ((cl.take k).any (fun z => bits .and .i64 y z == z) || (bits .and .i64 y cl[k] == cl[k]))) := Lib.hid (by rw [List.take_succ_eq_append_getElem hkl, List.any_append]; simp)
            clear hsc
            subst hsa
            generalize cl[k] = z at *
            generalize hbo : (cl.take k).any (fun z => bits .and .i64 y z == z) = bo at *
            clear hbo
            cases bo with
            | true =>
              go_wp2_with fail
              go_quiet (fail)
              go_wp2_with fail
              go_roundw
              case rel => exact ⟨k + 1, _, by omega, by go_num, by rw [HT.out]; rfl, rfl⟩
              case measure => simp [intOf]; omega
            | false =>
              go_wp2_with fail
              go_quiet (fail)
              go_wp2_with fail
              go_roundw
              case rel => exact ⟨k + 1, _, by omega, by go_num, by rw [HT.out]; rfl, rfl⟩
              case measure => simp [intOf]; omega
          · obtain rfl : k = cl.length := by omega
            rw [List.take_length]
            have hany : (cl.any fun z => bits .and .i64 y z == z) = true := by
              obtain ⟨j, hj, he⟩ := HY.out
              exact List.any_eq_true.2 ⟨cl[j], List.getElem_mem hj, by rw [beq_iff_eq]; exact he⟩
            rw [hany]
            go_wp2_with fail
            go_roundw
            case rel => exact ⟨i + 1, _, by omega, by go_num, rfl⟩
            case measure => simp [intOf]; omega
      · obtain rfl : i = q.length := by omega
        generalize hwm : w13.drewN m = w14
        have hb : Below w13.heap.size w13 w14 := by rw [← hwm]; exact below_drawn _ _
        clear hwm
        have hzw14 := hb.size
        have F86 := Lib.hid (F81.out.trans (hb.mono (by omega)))
        clear F81
        have F87 := Lib.hid (F82.out.below hb (by omega))
        clear F82
        have F88 := Lib.hid (F83.out.below hb (by omega))
        clear F83
        have F89 := Lib.hid (F85.out.below hb (by omega))
        clear F85
        clear hb
        cases kb with
        | false =>
          go_wp2_with fail
          go_ret
          exact ⟨rfl, F86.out⟩
        | true =>
          obtain ⟨d1, d2, d3⟩ := ISD.out rfl
          have D3 := Lib.hid d3
          clear d3
          go_wp2_with fail
          refine (implDu_lw w14 w1.heap.size w2.heap.size da dc (M.dualV l) F88.out (by omega) (by omega) hd1 hd2 LD.out).mono ?_
          rintro e w20 ⟨ba, bc, rfl, ho, hb1, hb2, hb⟩
          rw [d2] at ho hb1 ⊢
          rw [d1]
          have hzw20 := hb.size
          have F90 := Lib.hid (F86.out.trans (hb.mono (by omega)))
          clear F86
          have F91 := Lib.hid (F87.out.below hb (by omega))
          clear F87
          have F92 := Lib.hid (F88.out.below hb (by omega))
          clear F88
          have F93 := Lib.hid (F89.out.below hb (by omega))
          clear F89
          have F94 := Lib.hid ho.row
          clear ho hb d1 d2
          go_wp2_with fail
          refine (rInts_same w20 w14.heap.size w20.heap.size w.heap.size w1.heap.size ba la bc lc l (by omega) F94.out F91.out).mono ?_
          rintro e w20x ⟨rfl, mw20x, hww20x⟩
          have hb : Below w20.heap.size w20 w20x := by rw [hww20x]; exact below_drawn _ _
          clear hww20x
          have hzw20x := hb.size
          have F95 := Lib.hid (F90.out.trans (hb.mono (by omega)))
          clear F90
          have F96 := Lib.hid (F91.out.below hb (by omega))
          clear F91
          have F97 := Lib.hid (F92.out.below hb (by omega))
          clear F92
          have F98 := Lib.hid (F93.out.below hb (by omega))
          clear F93
          have F99 := Lib.hid (F94.out.below hb (by omega))
          clear F94
          clear hb
          go_wp2_with fail
          generalize hD : M.dualV l = dl at *
          clear hD ISD
          go_loopw [24, 25, 26] (fun v24 v25 v26 wr => ∃ (i : Nat), i ≤ dl.length ∧ v24 = .int .i64 (i : Int) ∧ Below w20x.heap.size w20x wr) (fun v24 _ _ _ => dl.length - (intOf v24).toNat)
          case atStart => exact ⟨0, Nat.zero_le _, rfl, Below.refl _ _⟩
          case round =>
            obtain ⟨i, hi, rfl, hbr⟩ := hrel
            have BR := Lib.hid hbr
            have hzr := hbr.size
            have RD := Lib.hid (F97.out.below hbr (by omega))
            have RL := Lib.hid (F96.out.below hbr (by omega))
            clear hbr
            by_cases hlt : i < dl.length
            · obtain ⟨pb, po, hpa, _, _, hpc⟩ := RD.out.at_ (k := i) (by rw [M.encIs_len]; exact hlt)
              have p0 := hpc _ _ (M.encIs_at hlt)
              obtain ⟨t1, t2⟩ := D3.out dl[i] (List.getElem_mem hlt)
              have hI := LD.out dl[i] (List.getElem_mem hlt)
              have MA := Lib.hid (implMa_lw wr w.heap.size w1.heap.size la lc l RL.out (by omega) (by omega) hl1 hl2 Ll.out dl[i] hI.1 hI.2)
              rw [t1, t2] at MA
              have hlti : (i : Int) < (dl.length : Int) := by omega
              clear hpc t1 t2 hI
              subst hpa
              generalize dl[i] = y at *
              go_wp2_with fail
              refine (MA.out).mono ?_
              rintro e wm ⟨rfl, hbm⟩
              have BM := Lib.hid (BR.out.trans (hbm.mono (by omega)))
              clear hbm MA
              go_wp2_with fail
              go_roundw
              case rel => exact ⟨i + 1, by omega, by go_num, BM.out⟩
              case measure => simp [intOf]; omega
            · obtain rfl : i = dl.length := by omega
              go_wp2_with fail
              go_ret
              exact ⟨rfl, F95.out.trans (BR.out.mono (by omega))⟩
end C
end Go.Proofs.Ytkkfmleoamhgkaa
