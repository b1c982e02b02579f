/-
  CONTRACT of impl.takenOn: the sets taken on a walk in a new list, and whether it is a key walk; what lay in memory stays. Condition: a valid maze; a walk of at most 1048576 numbers.
-/
import Derived.Test.YtcoaggnilgfjfaaTakenMath
import Derived.Test.YtcoaggnilgfjfaaIsOpen
import Derived.Deep.RegionWith
namespace Go.Proofs.Ytcoaggnilgfjfaa
open Go.RowKit
namespace C
set_option maxHeartbeats 1600000
set_option maxRecDepth 20000
theorem implTaken_any (w : World) (lo hi lo' hi' : Nat) (m : M.Mz) (a b : Option Addr) (c d : Nat) (wa : Option Addr) (wc : Nat) (walk : List Int) (h : MzIn lo hi w m a c b d) (hz : hi ≤ w.heap.size) (V : M.Valid m) (hw : RowIn lo' hi' w wa (M.encIs walk)) (hz' : hi' ≤ w.heap.size) (hl : walk.length ≤ 1048576) (u1 : walk.length ≤ wc) (u2 : wc ≤ 9223372036854775807) :
    Calls Try.prog 150 #[.agg #[.int .i64 m.size, .slice a m.doors.length c, .slice b m.keys.length d], .slice wa walk.length wc] w (IntsOkPost w (M.takenV m walk) (M.walkB m walk)) := by
  obtain ⟨i0, hi0, hz0, hz1, hz2⟩ := info_parts infoI
  have H := Lib.hid h
  have HW := Lib.hid hw
  have v30 := V.few
  have v1 := V.size1
  have v12 := V.size12
  have VV := Lib.hid V
  have hkl := Lib.hid V.keysLen
  clear h hw V
  rcases Nat.eq_zero_or_pos walk.length with h0 | h0
  · have HF := Lib.hid (M.walkB_empty (m := m) h0)
    have HV := Lib.hid (M.takenV_no HF.out)
    go_enter Try.func150, Try.ntmps150
    go_wp2_with fail
    go_ret2
    rw [HF.out, HV.out]
    have this := ownsRow_empty (w.alloc (.cells #[.int .i64 m.size, .slice a m.doors.length c, .slice b m.keys.length d] 29)) w.heap.size 3 1 (by simp)
    have this0 : ((w.alloc (.cells #[.int .i64 m.size, .slice a m.doors.length c, .slice b m.keys.length d] 29)).alloc (.cells #[] 3)).ownsRow w.heap.size 3 1 (.slice (some ⟨w.heap.size + 1, 0, none⟩) 0 0) 0 [] := by simpa using this
    exact intsOk_end (l := []) this0 ((below_alloc _ _).alloc (by simp) _)
  · have hne0 : ¬ walk.length = 0 := by omega
    have hne1 : ((walk.length : Int) == 0) = false := by rw [beq_eq_false_iff_ne]; omega
    obtain ⟨wb, wo, rfl, _, hwb, hc0⟩ := HW.out.at_ (k := 0) (by rw [M.encIs_len]; exact h0)
    have ck : w.cell? ⟨wb, wo, none⟩ = some (.int .i64 walk[0]) := hc0 0 _ (M.encIs_at h0)
    have hwW : wb < w.heap.size := by omega
    have HC := Lib.hid hc0
    clear hc0
    cases hx0 : (walk[0] == 0) with
    | false =>
      have hne : (walk[0] != 0) = true := by simp at hx0 ⊢; exact hx0
      have HF := Lib.hid (M.walkB_no h0 ((M.okAt_zero m h0).trans hx0))
      have HV := Lib.hid (M.takenV_no HF.out)
      clear hx0
      go_enter Try.func150, Try.ntmps150
      go_wp2_with fail
      go_ret2
      rw [HF.out, HV.out]
      have this := ownsRow_empty (w.alloc (.cells #[.int .i64 m.size, .slice a m.doors.length c, .slice b m.keys.length d] 29)) w.heap.size 3 1 (by simp)
      have this0 : ((w.alloc (.cells #[.int .i64 m.size, .slice a m.doors.length c, .slice b m.keys.length d] 29)).alloc (.cells #[] 3)).ownsRow w.heap.size 3 1 (.slice (some ⟨w.heap.size + 1, 0, none⟩) 0 0) 0 [] := by simpa using this
      exact intsOk_end (l := []) this0 ((below_alloc _ _).alloc (by simp) _)
    | true =>
      have hne : (walk[0] != 0) = false := by simp at hx0 ⊢; exact hx0
      have hw0 : walk[0] = 0 := by simpa using hx0
      have HOK0 : Hid (M.okAt m walk 0 = true) := Lib.hid ((M.okAt_zero m h0).trans hx0)
      have HONE := Lib.hid (M.haveTo_one VV.out h0 hw0)
      clear hx0 hw0
      have hk0 : 0 < m.keys.length := by have := hkl.out; omega
      obtain ⟨kb, ko, hka, _, hkb, hkc⟩ := H.out.keys.at_ (k := 0) (by rw [M.encIs_len]; exact hk0)
      have hka' := Lib.hid hka
      subst hka
      have kc : w.cell? ⟨kb, ko, none⟩ = some (.int .i64 m.keys[0]) := hkc 0 _ (M.encIs_at hk0)
      have hkw : kb < w.heap.size := by omega
      have HKC := Lib.hid hkc
      have hkey : M.keyAt m 0 = m.keys[0] := by unfold M.keyAt; rw [List.getD_eq_getElem?_getD]; show (m.keys[0]?).getD 0 = _; rw [List.getElem?_eq_getElem hk0]; rfl
      have HK0 := Lib.hid hkey
      clear hkc hkey
      by_cases hcap : wc = 1
      · have hl1 : walk.length = 1 := by omega
        have HL1 := Lib.hid hl1
        have this := World.ownsRow_lit (base := w.heap.size) (e := 3) (size := 1) (w.alloc (.cells #[.int .i64 m.size, .slice a m.doors.length c, .slice (some ⟨kb, ko, none⟩) m.keys.length d] 29)) #[.int .i64 m.keys[0]] 1 (by simp) (by unfold maxLen; omega) rfl
        have this0 : ((w.alloc (.cells #[.int .i64 m.size, .slice a m.doors.length c, .slice (some ⟨kb, ko, none⟩) m.keys.length d] 29)).alloc (.cells #[.int .i64 m.keys[0]] 3)).ownsRow w.heap.size 3 1 (.slice (some ⟨w.heap.size + 1, 0, none⟩) 1 1) 1 [.int .i64 m.keys[0]] := by simpa using this
        have HT0 := Lib.hid this0
        have H1 : Hid (M.haveTo m walk 1 = m.keys[0]) := Lib.hid (HONE.out.trans HK0.out)
        have HT1 : Hid (M.takenTo m walk 1 = [m.keys[0]]) := Lib.hid (by unfold M.takenTo; show [M.haveTo m walk 1] = _; rw [H1.out])
        clear this this0
        go_enter Try.func150, Try.ntmps150
        subst hcap
        go_wp2_with fail
        refine wp_loop_rounds 1 ?_
        rw [rounds_succ]
        go_wp2_with fail
        go_ret2
        have HF := Lib.hid (M.walkB_yes h0 (fun k hk => by obtain rfl : k = 0 := by omega
                                                           exact HOK0.out))
        have HV2 : M.takenV m walk = [m.keys[0]] := by rw [M.takenV_yes HF.out, HL1.out, HT1.out]
        rw [HF.out, HV2]
        exact intsOk_end (l := [m.keys[0]]) HT0.out ((below_alloc _ _).alloc (by simp) _)
      · have hcap2 : 1 < wc := by omega
        have this := World.ownsRow_lit (base := w.heap.size) (e := 3) (size := 1) (w.alloc (.cells #[.int .i64 m.size, .slice a m.doors.length c, .slice (some ⟨kb, ko, none⟩) m.keys.length d] 29)) #[.int .i64 m.keys[0]] 1 (by simp) (by unfold maxLen; omega) rfl
        have this0 : ((w.alloc (.cells #[.int .i64 m.size, .slice a m.doors.length c, .slice (some ⟨kb, ko, none⟩) m.keys.length d] 29)).alloc (.cells #[.int .i64 m.keys[0]] 3)).ownsRow w.heap.size 3 1 (.slice (some ⟨w.heap.size + 1, 0, none⟩) 1 1) 1 [.int .i64 m.keys[0]] := by simpa using this
        have HT0 := Lib.hid this0
        have H1 : Hid (M.haveTo m walk 1 = m.keys[0]) := Lib.hid (HONE.out.trans HK0.out)
        have HT1 : Hid (M.takenTo m walk 1 = [m.keys[0]]) := Lib.hid (by unfold M.takenTo; show [M.haveTo m walk 1] = _; rw [H1.out])
        clear this this0
        go_enter Try.func150, Try.ntmps150
        go_wp2_with fail
        go_loopw [6, 7, 8, 9, 29] (fun sv v _ _ i wr => ∃ (k : Nat), k + 1 ≤ walk.length ∧ i = .int .i64 k ∧ sv = .int .i64 (M.haveTo m walk (k + 1)) ∧ (∀ j, j < k + 1 → M.okAt m walk j = true) ∧ wr.ownsRow w.heap.size 3 1 v (M.takenTo m walk (k + 1)).length (M.encIs (M.takenTo m walk (k + 1))) ∧ Box3 wr w.heap.size 29 (.int .i64 m.size) (.slice a m.doors.length c) (.slice (some ⟨kb, ko, none⟩) m.keys.length d) ∧ Below w.heap.size w wr) (fun _ _ _ _ i _ => walk.length - (intOf i).toNat)
        case atStart => exact ⟨0, by omega, rfl, by rw [H1.out], fun j h => by
            obtain rfl : j = 0 := by omega
            exact HOK0.out, by rw [HT1.out]; exact HT0.out, (Box3.new _ _ _ _ rfl).alloc _, (below_alloc _ _).alloc (by simp) _⟩
        case round =>
          obtain ⟨k, hk, rfl, rfl, hall, hown, hbox, hnx⟩ := hrel
          have HA := Lib.hid hall
          have HN := Lib.hid hnx
          have HBX := Lib.hid hbox
          have HO := Lib.hid hown
          have HNE := Lib.hid (own_ne_box hown hbox (by decide))
          have hzr := hnx.size
          have hbl := hbox.lt
          obtain ⟨x0, x1, x2⟩ := hbox.cells
          have hle := Lib.hid (M.takenTo_len m walk (k + 1))
          clear hall hnx hbox hown
          by_cases hlt : k + 1 < walk.length
          · have hkl1 : k < walk.length - 1 := by omega
            have hkl2 : k < walk.length := by omega
            obtain ⟨xk, hxk⟩ : ∃ xk, xk = walk[k + 1] := ⟨_, rfl⟩
            obtain ⟨yk, hyk⟩ : ∃ yk, yk = walk[k] := ⟨_, rfl⟩
            have cx : wr.cell? ⟨wb, wo + 1 + k, none⟩ = some (.int .i64 xk) := by
              have := (HN.out.cell (p := ⟨wb, wo + (k + 1), none⟩) hwW).trans (HC.out (k + 1) _ (M.encIs_at hlt))
              rw [← hxk] at this
              rwa [show wo + 1 + k = wo + (k + 1) by omega]
            have cy : wr.cell? ⟨wb, wo + k, none⟩ = some (.int .i64 yk) := by
              have := (HN.out.cell (p := ⟨wb, wo + k, none⟩) hwW).trans (HC.out k _ (M.encIs_at hkl2))
              rw [← hyk] at this
              exact this
            have hok := M.okAt_succ m hlt
            rw [← hxk, ← hyk] at hok
            have HOK := Lib.hid hok
            have hsucc := M.haveTo_succ m hlt
            rw [← hxk] at hsucc
            have HSU := Lib.hid hsucc
            have hbd := M.haveTo_bd VV.out walk (k + 1)
            obtain ⟨hb0, hb64⟩ := hbd
            have HT := Lib.hid (M.takenTo_succ m walk (k + 1))
            clear hok hsucc hxk hyk
            have IO := Lib.hid (fun W (hb : Below w.heap.size w W) => isOpen_any W lo hi m a (some ⟨kb, ko, none⟩) c d yk xk (M.haveTo m walk (k + 1)) (H.out.below hb hz) (Nat.le_trans hz hb.size) VV.out hb0 hb64)
            cases hop : M.openB m.doors yk xk (M.haveTo m walk (k + 1)) with
            | false =>
              rw [hop] at IO
              have HF := Lib.hid (M.walkB_no hlt (HOK.out.trans hop))
              have HV := Lib.hid (M.takenV_no HF.out)
              clear hop
              go_wp2_with fail
              go_region_with (go_at_call 161; refine (IO.out _ HN.out.drew).mono ?_; rintro e w2 ⟨rfl, hb2⟩)
              all_goals
                have HB2 := Lib.hid (HN.out.drew.trans (hb2.mono hzr))
                have hzw2 := HB2.out.size
                clear hb2
                go_wp2_with fail
                go_ret2
                rw [HF.out, HV.out]
                exact intsOk_end (l := []) (ownsRow_empty _ _ _ _ (by omega)) (HB2.out.alloc (by omega) _)
            | true =>
              rw [hop] at IO
              have HY := Lib.hid (HOK.out.trans hop)
              have hxb := (M.open_node VV.out hop).2
              obtain ⟨hxb0, hxb1⟩ := hxb
              clear hop
              go_wp2_with fail
              go_region_with (go_at_call 161; refine (IO.out _ HN.out.drew).mono ?_; rintro e w2 ⟨rfl, hb2⟩)
              all_goals
                have hb2' : Below wr.heap.size wr w2 := (Below.refl wr.heap.size wr).drew.trans hb2
                have HB2 := Lib.hid (HN.out.trans (hb2'.mono hzr))
                have hzw2 := HB2.out.size
                have HXQ := Lib.hid (HBX.out.below hb2')
                have HO2 := Lib.hid (own_below HO.out hb2')
                obtain ⟨q0, q1, q2⟩ := HXQ.out.cells
                obtain ⟨xn, hxn⟩ : ∃ xn : Nat, xk = xn := ⟨xk.toNat, by omega⟩
                have hxl : xn < m.keys.length := by have := hkl.out; omega
                have kc2 : w2.cell? ⟨kb, ko + xn, none⟩ = some (.int .i64 m.keys[xn]) := (HB2.out.cell (p := ⟨kb, ko + xn, none⟩) hkw).trans (HKC.out xn _ (M.encIs_at hxl))
                have hkey : M.keyAt m (xn : Int) = m.keys[xn] := by unfold M.keyAt; rw [List.getD_eq_getElem?_getD, Int.toNat_natCast, List.getElem?_eq_getElem hxl]; rfl
                have HKY := Lib.hid hkey
                subst hxn
                clear hb2 hb2' hkey x0 x1 x2
                go_wp2_with (at_builtin; refine wpList_append_own _ rfl _ _ 23 rfl w.heap.size 3 i0 (.int .i64 0) 1 8 Try.underlying23 hi0 hz0 hz1 hz2 rfl (by decide) _ _ _ rfl (HO2.out.alloc _) ⟨w2.heap.size, 0, none⟩ 1 1 [.int .i64 (bits .or .i64 (M.haveTo m walk (k + 1)) m.keys[xn])] rfl rfl (cell_one_new _ _ _) (fun x hx => by simp at hx; subst hx; rfl) (by unfold maxLen; have := hle.out; omega) (by have := hle.out; omega) (by simp; omega) ?_; intro v' w3 hown' hgrow3 hnil3)
                go_roundw
                case rel =>
                  refine ⟨k + 1, by omega, by go_num, by rw [HSU.out, HKY.out], fun i hi => ?_, ?_, (HXQ.out.alloc _).grown hgrow3 HNE.out, (HB2.out.alloc (by omega) _).grown hgrow3 (by simp; omega) (own_base HO2.out)⟩
                  · rcases Nat.lt_or_ge i (k + 1) with h | h
                    · exact HA.out i h
                    · obtain rfl : i = k + 1 := by omega
                      exact HY.out
                  · rw [HT.out, HSU.out, HKY.out]
                    simpa [M.encIs] using hown'
                case measure => simp [intOf]; omega
          · have hke : ¬ k < walk.length - 1 := by omega
            have HF := Lib.hid (M.walkB_yes h0 (fun j hj => HA.out j (by omega)))
            have HV2 : Hid (M.takenV m walk = M.takenTo m walk (k + 1)) := Lib.hid (by rw [M.takenV_yes HF.out, show walk.length = k + 1 by omega])
            go_wp2_with fail
            go_ret2
            rw [HF.out, HV2.out]
            exact intsOk_end HO.out HN.out
end C
end Go.Proofs.Ytcoaggnilgfjfaa
