/-
  CONTRACT of the program's FirstPlan; what lay in memory stays. No condition but that the works read so.
-/
import Derived.Test.YtdgfceiobpnchaaPlanI
import Derived.Test.YtdgfceiobpnchaaOwnW
import Derived.Test.YtdgfceiobpnchaaIdsV
import Derived.Test.YtdgfceiobpnchaaOwn
import Derived.StillTailTactics
namespace Go.Proofs.Ytdgfceiobpnchaa
open Go.RowKit
namespace C
set_option maxHeartbeats 3200000
set_option maxRecDepth 20000
theorem implPlan_lw (w : World) (lo hi : Nat) (m : M.Wk) (a b : Option Addr) (c d : Nat) (h : WkIn lo hi w m a c b d) (hz : hi ≤ w.heap.size) (_h1 : m.gates.length ≤ 1048576) (_h2 : m.pulls.length ≤ 1048576) :
    Calls Try.prog 40 #[.agg #[.int .i64 m.size, .slice a m.gates.length c, .slice b m.pulls.length d]] w (IntsOkPost w (M.planV m) (M.planB m)) := by
  obtain ⟨ii0, hi0, hz0, hzz1, hz2⟩ := info_parts infoI
  have H := Lib.hid h
  clear h
  go_enter Try.func40, Try.ntmps40
  go_wp2_with fail
  refine named ?_
  intro W hW
  have hb : Below w.heap.size w W := by rw [hW]; exact below_alloc _ _
  have x1 : Box3 W w.heap.size 28 (.int .i64 m.size) (.slice a m.gates.length c) (.slice b m.pulls.length d) := by rw [hW]; exact Box3.new _ _ _ _ rfl
  clear hW
  have hzw := hb.size
  refine (implFew_lw W lo hi m a b c d (H.out.below hb hz) (by omega) _h1 _h2).mono ?_
  rintro e w1 ⟨rfl, hb1⟩
  have X1 := Lib.hid (x1.below hb1)
  have HB1 := Lib.hid (hb.trans (hb1.mono hzw))
  have hz1 := hb1.size
  have hxl1 := X1.out.lt
  clear hb hb1 x1
  obtain ⟨c0, c1, c2⟩ := X1.out.cells
  cases q0 : M.fewV m with
  | none =>
    have HG : Hid (M.planB m = false) := Lib.hid (by unfold M.planB; rw [q0]; rfl)
    clear q0
    have HF := Lib.hid (M.plan_off HG.out)
    go_wp2_with fail
    go_ret2
    rw [HF.out, HG.out]
    exact intsOk_end (l := []) (ownsRow_empty _ _ _ _ (by omega)) (HB1.out.alloc (by omega) _)
  | some n =>
    by_cases hn : n ≤ 60
    · have HM := Lib.hid (M.few_works q0)
      have HV := Lib.hid (M.wv_of HM.out.1)
      have HF := Lib.hid (M.plan_on q0 hn)
      have v1 := HV.out.size1
      have v12 := HV.out.size12
      have hni : ¬ (60 < (n : Int)) := by omega
      clear q0
      have HRM := Lib.hid (show Calls _ _ _ w1 (MapPost w1 (M.remV m)) from remaining_any w1 lo hi m a b c d (H.out.below HB1.out hz) (by omega) HV.out)
      go_wp2_with fail
      refine (HRM.out).mono ?_
      rintro e w2 ⟨mb, L, rfl, hmb, hmp, hml, hb2⟩
      have X2 := Lib.hid (X1.out.below hb2)
      have B2 := Lib.hid (HB1.out.trans (hb2.mono (by omega)))
      have M2 := Lib.hid hmp
      have hz2' := hb2.size
      have hml2 := hmp.lt
      clear hmp hb2 c0 c1 c2
      go_wp2_with fail
      refine wp_named ?_
      intro W3 hW3
      have hb3 : Below w2.heap.size w2 W3 := by rw [hW3]; exact ((below_alloc _ _).alloc (by simp) _).alloc (by simp; omega) _
      have C3 : Hid (W3.cell? ⟨w2.heap.size, 0, none⟩ = some (.map (some mb))) := Lib.hid (by
        have e0 : (w2.alloc (.cells #[.map (some mb)] 84)).cell? ⟨w2.heap.size, 0, none⟩ = some (.map (some mb)) := by
          have := cell_one_new w2 (.map (some mb)) 84 0 (.map (some mb)) rfl
          rw [Addr.add_lit, Nat.zero_add] at this
          exact this
        rw [hW3]
        exact (((below_alloc _ _).alloc (by simp) _).cell (p := ⟨w2.heap.size, 0, none⟩) (by rw [World.size_alloc]; show w2.heap.size < w2.heap.size + 1; omega)).trans e0)
      have O3 : Hid (W3.ownsRow (w2.heap.size + 1) 3 1 (.slice (some ⟨w2.heap.size + 1, 0, none⟩) 0 0) 0 (M.encIs [])) := Lib.hid (by
        rw [hW3]
        have := ownsRow_empty (w2.alloc (.cells #[.map (some mb)] 84)) (w2.heap.size + 1) 3 1 (by rw [World.size_alloc]; omega)
        rw [World.size_alloc] at this
        exact this.alloc _)
      have Z3 : Hid (Box2 W3 (w2.heap.size + 1 + 1) 71 (.int .i64 0) (.int .i64 0)) := Lib.hid (by rw [hW3]; exact Box2.new _ _ _ (by simp))
      have X3 := Lib.hid (X2.out.below hb3)
      have B3 := Lib.hid (B2.out.trans (hb3.mono (by omega)))
      have M3 := Lib.hid (M2.out.below hb3 hml2)
      have hs3 : w2.heap.size + 3 ≤ W3.heap.size := by rw [hW3]; simp
      clear hW3 hb3
      generalize w2.heap.size = g2 at *
      go_loopw [7] (fun v7 wr => ∃ (r : Nat) (u : M.Vs) (P : List Int) (gp cp : Nat), M.winO m u = some r ∧ M.VsOk m u ∧ P ++ M.planL m r u = M.planL m n (0, 0) ∧ v7 = .slice (some ⟨gp, 0, none⟩) P.length cp ∧ wr.ownsRow (g2 + 1) 3 1 v7 P.length (M.encIs P) ∧
        Box3 wr w.heap.size 28 (.int .i64 m.size) (.slice a m.gates.length c) (.slice b m.pulls.length d) ∧ Box2 wr (g2 + 1 + 1) 71 (.int .i64 u.1) (.int .i64 u.2) ∧ wr.cell? ⟨g2, 0, none⟩ = some (.map (some mb)) ∧ MapP wr mb L (M.remV m) ∧ Below w.heap.size w wr ∧ g2 + 3 ≤ wr.heap.size) (fun v7 _ => n + 1 - sliceN v7)
      case atStart => exact ⟨n, (0, 0), [], g2 + 1, 0, HM.out.2, M.vs0_ok HV.out, rfl, rfl, O3.out, X3.out, Z3.out, C3.out, M3.out, B3.out, hs3⟩
      case round =>
        obtain ⟨r, u, P, gp, cp, hr, hu, htot, rfl, ho, hx, hz3, hc, hm3, hlow, hsz⟩ := hrel
        have HK := Lib.hid hr
        have HU := Lib.hid hu
        have TO := Lib.hid htot
        have OO := Lib.hid ho
        have XX := Lib.hid hx
        have ZZ := Lib.hid hz3
        have CC := Lib.hid hc
        have MM := Lib.hid hm3
        have LL := Lib.hid hlow
        have hlen : P.length + r = n := by
          have := congrArg List.length htot
          rw [List.length_append, M.planL_len, M.planL_len] at this
          omega
        have hzr := hlow.size
        have hmml := hm3.lt
        have hxl := hx.lt
        have hzl := hz3.lt
        have hgp : g2 + 1 ≤ gp ∧ gp < wr.heap.size := ho.lt _ rfl
        have HWZ := Lib.hid (M.won_zero (m := m) (s := u))
        obtain ⟨c0, c1, c2⟩ := hx.cells
        obtain ⟨k0, k1⟩ := hz3.cells
        have IW := wonV_any wr m a b c d v1 v12 u
        clear hr hu htot ho hx hz3 hc hm3 hlow
        cases r with
        | zero =>
          rw [HWZ.out.2 HK.out] at IW
          have IW1 := Lib.hid IW
          clear IW
          go_wp2_with fail
          refine (IW1.out).mono ?_
          rintro e w3 ⟨rfl, hb3⟩
          have O4 := Lib.hid (own_below OO.out hb3)
          have L4 := Lib.hid (LL.out.trans (hb3.mono hzr))
          clear hb3
          go_wp2_with fail
          go_ret2
          rw [HF.out.2, HF.out.1, ← TO.out]
          have ht : P ++ M.planL m 0 u = P := List.append_nil P
          rw [ht]
          exact intsOk_end (ok := true) (own_weak O4.out (by omega)) L4.out
        | succ j =>
          have hw : M.wonV m u = false := by
            cases e : M.wonV m u with
            | false => rfl
            | true => have := HWZ.out.1 e; rw [HK.out] at this; cases this
          rw [hw] at IW
          have IW1 := Lib.hid IW
          clear IW hw
          have hnl := M.nxI_lt HK.out
          have HNE := Lib.hid (M.nxA_eq hnl)
          have HNW := Lib.hid (M.nx_win hnl)
          have HNM := Lib.hid (show M.nxA m u j ∈ M.actsL m u by rw [HNE.out]; exact List.getElem_mem hnl)
          have hrng := M.actsL_rng HV.out HNM.out
          have hal := M.actsL_len m u
          go_wp2_with fail
          refine (IW1.out).mono ?_
          rintro e w3 ⟨rfl, hb3⟩
          have O4 := Lib.hid (own_below OO.out hb3)
          have L4 := Lib.hid (LL.out.trans (hb3.mono hzr))
          have X4 := Lib.hid (XX.out.below hb3)
          have Z4 := Lib.hid (ZZ.out.below hb3)
          have M4 := Lib.hid (MM.out.below hb3 hmml)
          have C4 := Lib.hid ((hb3.cell (p := ⟨g2, 0, none⟩) (show g2 < _ by omega)).trans CC.out)
          have hs4 := hb3.size
          clear hb3 c0 c1 c2 k0 k1
          obtain ⟨c0, c1, c2⟩ := X4.out.cells
          obtain ⟨k0, k1⟩ := Z4.out.cells
          go_wp2_with fail
          refine (actsAt_any w3 lo hi m a b c d (H.out.below L4.out hz) (by have := L4.out.size; omega) HV.out u HU.out).mono ?_
          rintro e w5 ⟨a5, c5, rfl, ho5, hc5, hc5m, hb5⟩
          have O5 := Lib.hid (own_below O4.out hb5)
          have L5 := Lib.hid (L4.out.trans (hb5.mono (by omega)))
          have X5 := Lib.hid (X4.out.below hb5)
          have Z5 := Lib.hid (Z4.out.below hb5)
          have M5 := Lib.hid (M4.out.below hb5 M4.out.lt)
          have C5 := Lib.hid ((hb5.cell (p := ⟨g2, 0, none⟩) (show g2 < _ by omega)).trans C4.out)
          have R5 := Lib.hid ho5.row
          have hs5 := hb5.size
          have hmm5 := M5.out.lt
          have HPR : Hid (PredOn 87 #[.pointer (some ⟨g2, 0, none⟩), .pointer (some ⟨w.heap.size, 0, none⟩), .pointer (some ⟨g2 + 1 + 1, 0, none⟩)] (M.nearB m u j) (M.actsL m u) w5) := Lib.hid (fun W x hW hx => by
            have h1 := plan1_any W lo hi m a b c d (H.out.below (L5.out.trans (hW.mono (by omega))) hz) (by have := hW.size; omega) HV.out u HU.out mb L (M.remV m) (M5.out.below hW hmm5) g2 w.heap.size (g2 + 1 + 1) ((hW.cell (p := ⟨g2, 0, none⟩) (show g2 < _ by omega)).trans C5.out) (by have := hW.size; omega) (X5.out.below hW) (Z5.out.below hW) x hx
            rw [M.remV_ok HV.out HU.out, M.remV_ok HV.out (M.doA_ok HV.out HU.out hx), M.near_same HV.out HU.out HK.out hx] at h1
            exact h1)
          have HFI := Lib.hid (show Calls _ _ _ _ (fun e w' => e = .returned (.int .i64 ((M.nxI m u j : Nat) : Int)) ∧ Below w5.heap.size w5 w') from findI_any 87 _ (M.nearB m u j) (enters_of Try.func87 (by kernel_rfl) rfl) w5 _ _ a5 c5 (M.actsL m u) HPR.out R5.out (Nat.le_refl _) (by omega) hnl)
          have HBH := Lib.hid (fun W' (hq : Below w.heap.size w W') => behind_any W' lo hi m a b c d (H.out.below hq hz) (by have := hq.size; omega) HV.out u HU.out (M.nxA m u j) hrng.1)
          have HVN := Lib.hid (M.doA_ok HV.out HU.out HNM.out)
          have HPL : Hid (M.planL m (j + 1) u = M.nxA m u j :: M.planL m j (M.doA m u (M.nxA m u j))) := Lib.hid rfl
          obtain ⟨rb, roff, hra, hrb1, hrb2, hrc⟩ := R5.out.at_ (k := M.nxI m u j) (by rw [M.encIs_len]; exact hnl)
          subst hra
          have y0 := hrc _ _ (M.encIs_at hnl)
          rw [← HNE.out] at y0
          clear ho5 hb5 c0 c1 c2 k0 k1 hrc HPR HNE
          generalize M.nxI m u j = ix at *
          generalize M.nxA m u j = act at *
          generalize M.doA m u act = t at *
          generalize (M.actsL m u).length = al at *
          go_wp2_with fail
          refine (HFI.out).mono ?_
          rintro e w6 ⟨rfl, hb6⟩
          have hs6 := hb6.size
          have y6 : w6.cell? ⟨rb, roff + ix, none⟩ = some (.int .i64 act) := (hb6.cell (p := ⟨rb, roff + ix, none⟩) (show rb < w5.heap.size by omega)).trans y0
          have O6 := Lib.hid (own_below O5.out hb6)
          have X6 := Lib.hid (X5.out.below hb6)
          have Z6 := Lib.hid (Z5.out.below hb6)
          have M6 := Lib.hid (M5.out.below hb6 hmm5)
          have C6 := Lib.hid ((hb6.cell (p := ⟨g2, 0, none⟩) (show g2 < _ by omega)).trans C5.out)
          have L6 := Lib.hid (L5.out.trans (hb6.mono (by omega)))
          have hmm6 := M6.out.lt
          have hxl6 := X6.out.lt
          have hzl6 := Z6.out.lt
          have hni6 : (ix : Int) < (al : Int) := by omega
          have HN2 := Lib.hid (own_ne_box2 O6.out Z6.out (by decide))
          clear hb6 y0
          go_wp2_with (at_builtin; refine wpList_append_lies _ rfl _ _ 23 rfl (g2 + 1) 3 ii0 (.int .i64 0) 1 8 Try.underlying23 hi0 hz0 hzz1 hz2 rfl (by decide) (.slice (some ⟨gp, 0, none⟩) P.length cp) _ _ rfl (O6.out.alloc _) ⟨w6.heap.size, 0, none⟩ 1 1 [.int .i64 act] rfl rfl (cell_one_new _ _ _) (fun x hx => by simp at hx; subst hx; rfl) (by decide) (by unfold maxLen; omega) (by omega) (by simp; omega) _ rfl ?_; intro g7 c7 w7 hown7 hgrow0 hat7 hlt7; have hgrow7 : (w6.alloc (.cells #[.int .i64 act] 3)).grownBy w7 (some gp) := hgrow0; have X7 := Lib.hid ((X6.out.alloc (.cells #[.int .i64 act] 3)).grown hgrow7 (by simp; omega)); have Z7 := Lib.hid ((Z6.out.alloc (.cells #[.int .i64 act] 3)).grown hgrow7 HN2.out); have hX7 := X7.out.cells; have hZ7 := Z7.out.cells; have x70 := hX7.1; have x71 := hX7.2.1; have x72 := hX7.2.2; have z70 := hZ7.1; have z71 := hZ7.2; have hs7 := hgrow7.size; rw [World.size_alloc] at hs7; clear hX7 hZ7 hgrow0)
          have L7 := Lib.hid ((L6.out.alloc (by omega) (.cells #[.int .i64 act] 3)).grown hgrow7 (by simp; omega) (fun z hz => by injection hz with hz; omega))
          have M7 := Lib.hid ((M6.out.below (below_alloc w6 (.cells #[.int .i64 act] 3)) hmm6).grown hgrow7 (by simp; omega))
          have C7 : Hid (w7.cell? ⟨g2, 0, none⟩ = some (.map (some mb))) := Lib.hid ((hgrow7.cell_far ⟨g2, 0, none⟩ (by rw [World.size_alloc]; show g2 < _; omega) (by simp; omega)).trans (((below_alloc w6 _).cell (p := ⟨g2, 0, none⟩) (show g2 < _ by omega)).trans C6.out))
          have O7 := Lib.hid hown7
          have HAT := Lib.hid hat7
          clear hown7 hgrow7 hat7
          refine (HBH.out w7 L7.out).mono ?_
          rintro e w8 ⟨rfl, hb8⟩
          have O8 := Lib.hid (own_below O7.out hb8)
          have X8 := Lib.hid (X7.out.below hb8)
          have Z8 := Lib.hid (Z7.out.below hb8)
          have M8 := Lib.hid (M7.out.below hb8 M7.out.lt)
          have C8 := Lib.hid ((hb8.cell (p := ⟨g2, 0, none⟩) (show g2 < _ by omega)).trans C7.out)
          have L8 := Lib.hid (L7.out.trans (hb8.mono (by omega)))
          have hs8 := hb8.size
          clear hb8 x70 x71 x72 z70 z71
          obtain ⟨k0, k1⟩ := Z8.out.cells
          obtain ⟨f0, f1⟩ := Z8.out.free
          have hmm8 := M7.out.lt
          have HL8 := Lib.hid (show (P ++ [act]).length = P.length + 1 by rw [List.length_append]; rfl)
          go_wp2_with fail
          go_roundw
          case rel =>
            have TU := Turned.set2 (w := w8) (g2 + 1 + 1) (.int .i64 t.1) (.int .i64 t.2)
            have hne : g7 < g2 + 1 + 1 ∨ g2 + 1 + 1 + 1 ≤ g7 := by
              have := own_ne_box2 O7.out Z7.out (by decide)
              have hne : g7 ≠ g2 + 1 + 1 := fun e => this (by rw [e]; rfl)
              omega
            refine ⟨j, t, P ++ [act], g7, c7, HNW.out, HVN.out, ?_, by rw [HL8.out], ?_, X8.out.turned TU (.inl (by omega)), Z8.out.setAll _ _, ?_, M8.out.turned TU (by omega), Below.thenTurned L8.out TU (by omega) (by omega), ?_⟩
            · rw [List.append_assoc, ← TO.out, HPL.out]
              rfl
            · rw [HL8.out, M.encIs_append]
              obtain ⟨h1, h2⟩ := O8.out
              refine ⟨h1, ?_⟩
              rcases h2 with h' | ⟨g, cap, cur, hv, hb, hh, hr⟩
              · exact .inl h'
              · refine .inr ⟨g, cap, cur, hv, hb, (TU.block g (heap_lt hh) ?_).trans hh, hr⟩
                injection hv with ha
                injection ha with ha
                injection ha with ha
                omega
            · exact (World.cell?_of_block (a := ⟨g2, 0, none⟩) (TU.block g2 (by omega) (.inl (by omega)))).trans C8.out
            · have := TU.size
              omega
          case measure => simp [sliceN]; omega
    · have HG : Hid (M.planB m = false) := Lib.hid (by unfold M.planB; rw [q0]; exact decide_eq_false hn)
      have hni : 60 < (n : Int) := by omega
      clear q0
      have HF := Lib.hid (M.plan_off HG.out)
      go_wp2_with fail
      go_ret2
      rw [HF.out, HG.out]
      exact intsOk_end (l := []) (ownsRow_empty _ _ _ _ (by omega)) (HB1.out.alloc (by omega) _)

end C
end Go.Proofs.Ytdgfceiobpnchaa
