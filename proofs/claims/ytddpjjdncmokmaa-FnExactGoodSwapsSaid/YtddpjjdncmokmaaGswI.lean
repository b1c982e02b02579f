/-
  CONTRACT of the program's GoodSwaps. No condition but that the maze and the filling read so.
-/
import Derived.Test.YtddpjjdncmokmaaGswS
import Derived.Test.YtddpjjdncmokmaaWinJ
import Derived.Test.YtddpjjdncmokmaaSwapJ
namespace Go.Proofs.Ytddpjjdncmokmaa
open Go.RowKit
namespace C
set_option linter.unusedVariables false
set_option maxHeartbeats 3200000
set_option maxRecDepth 20000
theorem elemI9 : Try.prog.elem 23 = 3 := by kernel_rfl
theorem sizeI9 (w : World) : (sizeOf 3).run Try.prog w = .ok 1 w := by kernel_rfl
theorem sl_from (a : Option Addr) (n c i : Nat) (hin : i < n) (w : World) : (Instr.sliceAt 23 (.slice a n c) (some (.int .i64 ((i : Int) + 1))) none none).run Try.prog w = .ok (.slice (if c = i + 1 then a else a.map (·.add ((i + 1) * 1))) (n - (i + 1)) (c - (i + 1))) w := by
  rw [run_sliceAt_slice _ _ _ _ _ _ (by rw [elemI9]; exact Try.underlying23), run_slice_l _ _ _ _ _ (by rw [elemI9]; exact Try.underlying23) _ _ (by omega) (by omega), elemI9, sizeI9, show ((i : Int) + 1).toNat = i + 1 by omega]
  rfl
theorem implGsw_lw (w : World) (lo hi : Nat) (m : M.Mz) (a b : Option Addr) (c d : Nat) (h : MzIn lo hi w m a c b d) (hz : hi ≤ w.heap.size) (_h1 : m.doors.length ≤ 1048576) (_h2 : m.keys.length ≤ 1048576) (s : Int) (_s1 : -9223372036854775808 ≤ s) (_s2 : s ≤ 9223372036854775807) (lo' hi' : Nat) (fa : Option Addr) (fc : Nat) (fs : List Int) (hf : RowIn lo' hi' w fa (M.encIs fs)) (hz' : hi' ≤ w.heap.size) (hl : fs.length ≤ 1048576) (_u1 : fs.length ≤ fc) (_u2 : fc ≤ 9223372036854775807) (_u3 : ∀ z ∈ fs, -9223372036854775808 ≤ z ∧ z ≤ 9223372036854775807) :
    Calls Try.prog 47 #[.agg #[.int .i64 m.size, .slice a m.doors.length c, .slice b m.keys.length d], .int .i64 s, .slice fa fs.length fc] w (PairsOkPost w (M.goodW m s fs) (M.fwinB m s fs)) := by
  obtain ⟨i0, hi0, hiz0, hiz1, hizb⟩ := info_parts infoP2
  have H := Lib.hid h
  have HF := Lib.hid hf
  clear h hf
  go_enter Try.func47, Try.ntmps47
  go_wp2_with fail
  refine named ?_
  intro W hW
  have hb : Below w.heap.size w W := by rw [hW]; exact below_alloc _ _
  have x1 : Box3 W w.heap.size 27 (.int .i64 m.size) (.slice a m.doors.length c) (.slice b m.keys.length d) := by rw [hW]; exact Box3.new _ _ _ _ rfl
  clear hW
  have hzw := hb.size
  refine (implWins_lw W lo hi m a b c d (H.out.below hb hz) (by omega) _h1 _h2 s _s1 _s2 lo' hi' fa fc fs (HF.out.below hb hz') (by omega) hl _u1 _u2 _u3).mono ?_
  rintro e w1 ⟨rfl, hb1⟩
  have HB1 := Lib.hid (hb.trans (hb1.mono hzw))
  have X1 := Lib.hid (x1.below hb1)
  have hz1 := hb1.size
  clear hb hb1 x1
  cases qw : M.fwinB m s fs with
  | false =>
    have HG : Hid (M.goodW m s fs = []) := Lib.hid (by unfold M.goodW; rw [qw]; rfl)
    have HWF := Lib.hid qw
    clear qw
    go_wp2_with fail
    go_ret2
    rw [HG.out, HWF.out]
    exact ⟨_, 0, rfl, OwnAt.nil _ _ _ _ _, Nat.le_refl _, by omega, HB1.out.alloc (by omega) _⟩
  | true =>
    have HWF := Lib.hid qw
    have HGW : Hid (M.goodW m s fs = M.gTo m s fs (M.colours s).length) := Lib.hid (by unfold M.goodW; rw [qw]; rfl)
    have hqf : M.filB m s fs = true := by
      cases hq : M.filB m s fs with
      | true => rfl
      | false => rw [(M.fwin_no hq).1] at qw; cases qw
    have HQ := Lib.hid hqf
    obtain ⟨hask, hfn, hfl⟩ := M.fil_yes hqf
    have hset := M.setB_iff.2 (M.ask_yes hask).2
    have hs64 := (M.ask_yes hask).2
    have hm6 := M.many_le s
    have v12 := (M.ask_yes hask).1.size12
    have HND := Lib.hid (M.colours_nodup s)
    have hcl : (M.colours s).length ≤ 6 := hm6
    have HSZ := Lib.hid v12
    have HDG := Lib.hid (fun W => show Calls Try.prog 58 #[.int .i64 s] W (IntsPost W (M.colours s)) from by
      have h := digits_any s.toNat (by omega) W
      rw [show ((s.toNat : Nat) : Int) = s by omega, M.digs6_12 ⟨s.toNat, by omega⟩, ← M.colours_eq hset] at h
      exact h)
    clear qw hqf hask hfn hfl v12
    go_wp2_with fail
    refine named ?_
    intro W2 hW2
    have HB2 : Hid (Below w.heap.size w W2) := Lib.hid (by rw [hW2]; exact HB1.out.alloc (by omega) _)
    have X2 : Hid (Box3 W2 w.heap.size 27 (.int .i64 m.size) (.slice a m.doors.length c) (.slice b m.keys.length d)) := Lib.hid (by rw [hW2]; exact X1.out.alloc _)
    have O2 : Hid (W2.ownsRow (w.heap.size + 1) 94 2 (.slice (some ⟨w1.heap.size, 0, none⟩) 0 0) (M.gTo m s fs 0).length (M.encPs (M.gTo m s fs 0))) := Lib.hid (by rw [hW2]; exact ownsRow_empty w1 (w.heap.size + 1) 94 2 (by have := X1.out.lt; omega))
    have hz2 : W2.heap.size = w1.heap.size + 1 := by rw [hW2]; simp
    clear hW2
    refine (HDG.out W2).mono ?_
    rintro e w3 ⟨ca, cc, rfl, hoc, hc1, hc2, hb3⟩
    have HB3 := Lib.hid (HB2.out.trans (hb3.mono (by omega)))
    have X3 := Lib.hid (X2.out.below hb3)
    have O3 := Lib.hid (own_below O2.out hb3)
    have HOC := Lib.hid hoc
    have hz3 := hb3.size
    clear hoc hb3 X1 X2 O2 HB1 HB2
    go_wp2_with fail
    go_loopw [10, 12, 13, 15, 16, 17, 18, 19, 35] (fun v8 _ _ _ _ _ _ _ v35 wr => ∃ (i l0 h0 : Nat), i ≤ (M.colours s).length ∧ v35 = .int .i64 (i : Int) ∧ wr.ownsRow (w.heap.size + 1) 94 2 v8 (M.gTo m s fs i).length (M.encPs (M.gTo m s fs i)) ∧ OwnAt l0 h0 wr 3 (ca) (M.encIs (M.colours s)) ∧ h0 ≤ wr.heap.size ∧ Box3 wr w.heap.size 27 (.int .i64 m.size) (.slice a m.doors.length c) (.slice b m.keys.length d) ∧ Below w.heap.size w wr) (fun _ _ _ _ _ _ _ _ v35 _ => (M.colours s).length - (intOf v35).toNat)
    case atStart => exact ⟨0, W2.heap.size, w3.heap.size, Nat.zero_le _, rfl, O3.out, HOC.out, Nat.le_refl _, X3.out, HB3.out⟩
    case round =>
      clear O3 HOC X3 HB3
      obtain ⟨i, l0, h0, hii, rfl, hown, hoc, hh0, hx, hlow⟩ := hrel
      have OI := Lib.hid hown
      have CI := Lib.hid hoc
      have XI := Lib.hid hx
      have LI := Lib.hid hlow
      have hzi := hlow.size
      obtain ⟨va, vc, hva, _, _, _⟩ := own_slice hown
      subst hva
      clear hown hx hlow
      by_cases hil : i < (M.colours s).length
      · have OJ : Hid (wr.ownsRow (w.heap.size + 1) 94 2 (.slice va (M.gTo m s fs i).length vc) (M.gTo m s fs i ++ M.gRow m s fs i (i + 1 + 0)).length (M.encPs (M.gTo m s fs i ++ M.gRow m s fs i (i + 1 + 0)))) := Lib.hid (by rw [Nat.add_zero, M.gRow_zero, List.append_nil]; exact OI.out)
        have hgl := M.gTo_len m s fs i
        obtain ⟨cg, co, rfl, hcg1, hcg2, hcc⟩ := hoc.row.at_ (k := i) (by rw [M.encIs_len]; exact hil)
        have hci := hcc i _ (M.encIs_at hil)
        have hgi : (M.colours s).getD i 0 = (M.colours s)[i] := by rw [List.getD_eq_getElem?_getD, List.getElem?_eq_getElem hil, Option.getD_some]
        have HGI := Lib.hid hgi
        have hmx : (M.colours s)[i] ∈ M.colours s := List.getElem_mem _
        have HNX := Lib.hid (fun j (hj : j < (M.colours s).length) (hlt : i < j) => (List.pairwise_iff_getElem.1 (List.nodup_iff_pairwise_ne.1 HND.out)) i j hil hj hlt)
        have hx6 := M.mem_colours hmx
        have HMX := Lib.hid hmx
        clear hoc hcc hgi hmx
        generalize (M.colours s)[i] = x at *
        have hsl := fun W => sl_from (some ⟨cg, co, none⟩) (M.colours s).length cc i hil W
        have hsa : i + 1 < (M.colours s).length → (if cc = i + 1 then (some ⟨cg, co, none⟩ : Option Addr) else (some (⟨cg, co, none⟩ : Addr)).map (·.add ((i + 1) * 1))) = some ⟨cg, co + (i + 1), none⟩ := fun h => by
          rw [if_neg (by omega), Nat.mul_one]
          simp [add_off]
        generalize (if cc = i + 1 then (some ⟨cg, co, none⟩ : Option Addr) else (some (⟨cg, co, none⟩ : Addr)).map (·.add ((i + 1) * 1))) = sa at *
        have HSA := Lib.hid hsa
        clear hsa
        go_wp2_with fail
        go_loopw [10, 15, 16, 17, 18, 19, 45] (fun v8 _ _ _ _ _ v45 wr => ∃ (q : Nat), i + 1 + q ≤ (M.colours s).length ∧ v45 = .int .i64 (q : Int) ∧ wr.ownsRow (w.heap.size + 1) 94 2 v8 (M.gTo m s fs i ++ M.gRow m s fs i (i + 1 + q)).length (M.encPs (M.gTo m s fs i ++ M.gRow m s fs i (i + 1 + q))) ∧ OwnAt l0 h0 wr 3 (some ⟨cg, co, none⟩) (M.encIs (M.colours s)) ∧ h0 ≤ wr.heap.size ∧ Box3 wr w.heap.size 27 (.int .i64 m.size) (.slice a m.doors.length c) (.slice b m.keys.length d) ∧ Below w.heap.size w wr) (fun _ _ _ _ _ _ v45 _ => (M.colours s).length - (i + 1) - (intOf v45).toNat)
        case atStart => exact ⟨0, by omega, by go_num, OJ.out, CI.out, hh0, XI.out, LI.out⟩
        case round =>
          clear OJ CI XI LI OI hsl
          obtain ⟨q, hq, rfl, hown, hoc, hh0', hx, hlow⟩ := hrel
          have OJ := Lib.hid hown
          have CI := Lib.hid hoc
          have XR := Lib.hid hx
          have LO := Lib.hid hlow
          have hzr := hlow.size
          have hxlr := hx.lt
          obtain ⟨va, vc, hva, _, _, _⟩ := own_slice hown
          subst hva
          have hrl := M.gRow_len m s fs i (i + 1 + q)
          by_cases hjl : i + 1 + q < (M.colours s).length
          · obtain ⟨cg', co', he, _, _, hcc⟩ := hoc.row.at_ (k := i + 1 + q) (by rw [M.encIs_len]; exact hjl)
            injection he with he
            injection he with he1 he2
            subst he1 he2
            have hcj : wr.cell? ⟨cg, co + (i + 1) + q, none⟩ = some (.int .i64 (M.colours s)[i + 1 + q]) := by rw [Nat.add_assoc]; exact hcc (i + 1 + q) _ (M.encIs_at hjl)
            have hgj : (M.colours s).getD (i + 1 + q) 0 = (M.colours s)[i + 1 + q] := by rw [List.getD_eq_getElem?_getD, List.getElem?_eq_getElem hjl, Option.getD_some]
            have HYES := Lib.hid (fun h => M.gRow_yes (m := m) (s := s) (fs := fs) (i := i) (j := i + 1 + q) (by omega) h)
            have HNO := Lib.hid (fun h => M.gRow_no (m := m) (s := s) (fs := fs) (i := i) (j := i + 1 + q) h)
            rw [HGI.out, hgj] at HYES HNO
            have hmy : (M.colours s)[i + 1 + q] ∈ M.colours s := List.getElem_mem _
            have hxy := HNX.out (i + 1 + q) hjl (by omega)
            have hs := HSA.out (by omega)
            subst hs
            clear hown hoc hlow hcc hgj
            generalize (M.colours s)[i + 1 + q] = y at *
            have hy6 := M.mem_colours hmy
            have HYL : Hid (M.goodP m s fs x y = true → M.gTo m s fs i ++ M.gRow m s fs i (i + 1 + (q + 1)) = (M.gTo m s fs i ++ M.gRow m s fs i (i + 1 + q)) ++ [(x, y)]) := Lib.hid (fun h => by rw [show i + 1 + (q + 1) = i + 1 + q + 1 from rfl, HYES.out h, List.append_assoc])
            have HNL : Hid (M.goodP m s fs x y = false → M.gTo m s fs i ++ M.gRow m s fs i (i + 1 + (q + 1)) = M.gTo m s fs i ++ M.gRow m s fs i (i + 1 + q)) := Lib.hid (fun h => by rw [show i + 1 + (q + 1) = i + 1 + q + 1 from rfl, HNO.out h])
            have hLl : (M.gTo m s fs i ++ M.gRow m s fs i (i + 1 + q)).length ≤ 48 := by rw [List.length_append]; omega
            clear HYES HNO hrl
            generalize M.gTo m s fs i ++ M.gRow m s fs i (i + 1 + q) = L at *
            have hsw := M.sw_yes (m := m) (s := s) (fs := fs) (a := x) (b := y) HQ.out (by unfold M.memB; exact List.contains_iff_mem.2 HMX.out) (by unfold M.memB; exact List.contains_iff_mem.2 hmy) hxy
            have hsp := implSwap_lw wr lo hi m a b c d (H.out.below LO.out hz) (by omega) _h1 _h2 s _s1 _s2 lo' hi' fa fc fs (HF.out.below LO.out hz') (by omega) hl _u1 _u2 _u3 x (by omega) (by omega) y (by omega) (by omega)
            rw [hsw.1, hsw.2] at hsp
            have HSP := Lib.hid hsp
            have HSL : Hid ((M.swapV s fs x y).length ≤ 1048576) := Lib.hid (by rw [M.swapV_len]; exact hl)
            have HSF := Lib.hid (M.swap_fil HQ.out x y)
            have HBD : Hid (∀ z ∈ M.swapV s fs x y, -9223372036854775808 ≤ z ∧ z ≤ 9223372036854775807) := Lib.hid (fun z hz => by have h1 := (M.fil_yes HSF.out).2.1 z hz; have h2 := HSZ.out; omega)
            obtain ⟨c0, c1, c2⟩ := hx.cells
            clear hsw hsp hx hxy hmy
            go_wp2_with fail
            refine HSP.out.mono ?_
            rintro e w4 ⟨ta, tc, rfl, ho4, h41, h42, hb4⟩
            have HO4 := Lib.hid ho4
            have X4 := Lib.hid (XR.out.below hb4)
            have B4 := Lib.hid (LO.out.trans (hb4.mono hzr))
            have O4 := Lib.hid (own_below OJ.out hb4)
            have CC4 := Lib.hid (CI.out.below hb4 hh0')
            have hz4 := hb4.size
            clear ho4 hb4 c0 c1 c2
            obtain ⟨c0, c1, c2⟩ := X4.out.cells
            have hxl4 := X4.out.lt
            have hwn := implWins_lw w4 lo hi m a b c d (H.out.below B4.out hz) (by omega) _h1 _h2 s _s1 _s2 wr.heap.size w4.heap.size ta tc (M.swapV s fs x y) HO4.out.row (Nat.le_refl _) HSL.out h41 h42 HBD.out
            rw [(M.fwin_yes HSF.out).1, show decide (0 < M.depR m s (M.swapV s fs x y)) = M.goodP m s fs x y from rfl] at hwn
            have HWN := Lib.hid hwn
            clear hwn
            go_wp2_with fail
            refine HWN.out.mono ?_
            rintro e w5 ⟨rfl, hb5⟩
            have X5 := Lib.hid (X4.out.below hb5)
            have B5 := Lib.hid (B4.out.trans (hb5.mono (by omega)))
            have O5 := Lib.hid (own_below O4.out hb5)
            have CC5 := Lib.hid (CC4.out.below hb5 (by omega))
            have hz5 := hb5.size
            clear hb5 c0 c1 c2 HWN HSP
            cases qg : M.goodP m s fs x y with
            | false =>
              have HE := Lib.hid (HNL.out qg)
              clear qg
              go_wp2_with fail
              go_roundw
              case rel => exact ⟨q + 1, by omega, by go_num, by rw [HE.out]; exact O5.out, CC5.out, by omega, X5.out, B5.out⟩
              case measure => simp [intOf]; omega
            | true =>
              have HL2 := Lib.hid (HYL.out qg)
              clear qg
              have o5 := O5.out
              go_wp2_with (at_builtin; refine wpList_append_own _ rfl _ _ 53 rfl (w.heap.size + 1) 94 i0 (.agg #[.int .i64 0, .int .i64 0]) 2 16 Try.underlying53 hi0 hiz0 hiz1 hizb rfl (by decide) _ _ _ rfl (o5.alloc _) ⟨w5.heap.size, 0, none⟩ 1 1 (M.encP (x, y)) rfl rfl (newsP (Box2.new _ _ _ rfl)) (encP_one _) (by unfold maxLen; omega) (by omega) (by simp; omega) ?_; intro v6 w6 hown6 hgrow6 hnil6; obtain ⟨va2, vc2, hva2, hv1, hv2, hv3⟩ := own_slice hown6; subst hva2)
              have hll : (M.gTo m s fs i ++ M.gRow m s fs i (i + 1 + (q + 1))).length = L.length + 1 := by rw [HL2.out, List.length_append]; rfl
              have hown7 : w6.ownsRow (w.heap.size + 1) 94 2 (.slice va2 (L.length + 1) vc2) (M.gTo m s fs i ++ M.gRow m s fs i (i + 1 + (q + 1))).length (M.encPs (M.gTo m s fs i ++ M.gRow m s fs i (i + 1 + (q + 1)))) := by
                rw [hll, HL2.out, M.encPs_append, encPs_single]
                exact hown6
              have ca6 := (CC5.out.below (below_alloc w5 (.cells #[.int .i64 x, .int .i64 y] 94)) (by omega)).grownOther (O5.out.alloc _) (by decide) hgrow6
              have xb6 := (X5.out.alloc (.cells #[.int .i64 x, .int .i64 y] 94)).grown hgrow6 (own_ne_box O5.out X5.out (by decide))
              have hs6 := hgrow6.size
              have lb6 := (B5.out.alloc (show w.heap.size ≤ w5.heap.size by omega) (.cells #[.int .i64 x, .int .i64 y] 94)).grown hgrow6 (by simp; omega) (fun g hg => by have := own_base O5.out g hg; omega)
              have HR := Lib.hid (And.intro hown7 (And.intro ca6 (And.intro xb6 lb6)))
              have hh6 : h0 ≤ w6.heap.size := by simp at hs6; omega
              clear hown6 hown7 ca6 xb6 lb6 hgrow6 hnil6
              go_wp2_with fail
              go_roundw
              case rel => exact ⟨q + 1, by omega, by go_num, by rw [hll]; exact hll ▸ HR.out.1, HR.out.2.1, hh6, HR.out.2.2.1, HR.out.2.2.2⟩
              case measure => simp [intOf]; omega
          · have hjn : i + 1 + q = (M.colours s).length := by omega
            have ho := OJ.out
            rw [hjn, ← M.gTo_succ] at ho
            have hln : (M.gTo m s fs i ++ M.gRow m s fs i (i + 1 + q)).length = (M.gTo m s fs (i + 1)).length := by rw [hjn, ← M.gTo_succ]
            rw [hln]
            have HO := Lib.hid ho
            clear ho OJ hown hln
            go_wp2_with fail
            go_roundw
            case rel => exact ⟨i + 1, l0, h0, by omega, by go_num, HO.out, CI.out, hh0', XR.out, LO.out⟩
            case measure => simp [intOf]; omega
      · obtain rfl : i = (M.colours s).length := by omega
        have ho := OI.out
        rw [← HGW.out] at ho ⊢
        have HO := Lib.hid ho
        clear ho OI hoc
        go_wp2_with fail
        go_ret2
        obtain ⟨a0, k0, he, h1, h2, h3⟩ := own_slice HO.out
        injection he with e1 e2 e3
        subst e1 e3
        rw [HWF.out]
        exact ⟨_, _, rfl, h3.mono (by omega) (Nat.le_refl _), h1, h2, LI.out⟩
end C
end Go.Proofs.Ytddpjjdncmokmaa
