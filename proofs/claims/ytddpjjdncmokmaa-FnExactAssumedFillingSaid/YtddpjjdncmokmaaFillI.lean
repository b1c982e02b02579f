/-
  CONTRACT of the program's fill at both method expressions. No condition but that the maze and the lists read so.
-/
import Derived.Test.YtddpjjdncmokmaaFillA
import Derived.Test.YtddpjjdncmokmaaFillS
import Derived.Test.YtddpjjdncmokmaaAssS
import Derived.Test.YtddpjjdncmokmaaLayM
import Derived.Test.YtddpjjdncmokmaaWFPlay
import Derived.Test.YtddpjjdncmokmaaP3I
import Derived.Test.YtddpjjdncmokmaaSwapI
import Derived.Test.YtddpjjdncmokmaaIsMaze
namespace Go.Proofs.Ytddpjjdncmokmaa
open Go.RowKit
namespace C
set_option linter.unusedVariables false
set_option maxHeartbeats 3200000
set_option maxRecDepth 20000
structure FSt (w : World) (m : M.Mz) (L bg fb : Nat) (ca cb : Option Addr) (cc cd : Nat) (wr : World) (ks fl : List Int) : Prop where
  out : Box3 wr bg 27 (.int .i64 m.size) (.slice ca m.doors.length cc) (.slice cb m.keys.length cd)
  own : MzOwn L bg wr ⟨m.size, m.doors, ks⟩ ca cc cb cd
  row : OwnAt fb (fb + 1) wr 3 (some ⟨fb, 0, none⟩) (M.encIs fl)
  fbl : bg < fb ∧ fb < wr.heap.size
  low : Below w.heap.size w wr
theorem FSt.later {w : World} {m : M.Mz} {L bg fb : Nat} {ca cb : Option Addr} {cc cd : Nat} {wr wr' : World} {ks fl : List Int} (h : FSt w m L bg fb ca cb cc cd wr ks fl) (hb : Below wr.heap.size wr wr') : FSt w m L bg fb ca cb cc cd wr' ks fl :=
  ⟨h.out.below hb, h.own.below hb (by have := h.out.lt; omega), h.row.below hb h.fbl.2, ⟨h.fbl.1, Nat.lt_of_lt_of_le h.fbl.2 hb.size⟩, h.low.trans (hb.mono h.low.size)⟩
theorem FSt.setK {w : World} {m : M.Mz} {L bg fb : Nat} {ca : Option Addr} {cc cd g off : Nat} {wr : World} {ks fl : List Int} (h : FSt w m L bg fb ca (some ⟨g, off, none⟩) cc cd wr ks fl) (hL : w.heap.size ≤ L) (hg1 : L ≤ g) (hg2 : g < bg) {k : Nat} (hk : k < ks.length) (v : Int) :
    FSt w m L bg fb ca (some ⟨g, off, none⟩) cc cd (wr.setCell ⟨g, off + k, none⟩ (.int .i64 v)) (ks.set k v) fl :=
  have t := Turned.setCell (lo := L) (hi := bg) wr g (off + k) (.int .i64 v) hg1 hg2
  have hb := h.fbl
  ⟨h.out.turned t (.inr (Nat.le_refl _)), h.own.setKey rfl k hk v, h.row.turned t hb.2 (.inr (by omega)), ⟨hb.1, by simp [World.setCell]; omega⟩, h.low.setCell (p := ⟨g, off + k, none⟩) (by show w.heap.size ≤ g; omega) _⟩
theorem FSt.setF {w : World} {m : M.Mz} {L bg fb : Nat} {ca cb : Option Addr} {cc cd : Nat} {wr : World} {ks fl : List Int} (h : FSt w m L bg fb ca cb cc cd wr ks fl) (hL : w.heap.size ≤ bg) (k : Nat) (v : Int) :
    FSt w m L bg fb ca cb cc cd (wr.setCell ⟨fb, k, none⟩ (.int .i64 v)) ks (fl.set k v) :=
  have t := Turned.setCell (lo := fb) (hi := fb + 1) wr fb k (.int .i64 v) (Nat.le_refl _) (Nat.lt_succ_self _)
  have hb := h.fbl
  ⟨h.out.turned t (.inl hb.1), h.own.turned t (by have := h.out.lt; omega) (.inl (by omega)), by rw [encIs_set9]; exact h.row.set0 k _, ⟨hb.1, by simp [World.setCell]; omega⟩, h.low.setCell (p := ⟨fb, k, none⟩) (by show w.heap.size ≤ fb; omega) _⟩
theorem FSt.drawn1 {w : World} {m : M.Mz} {L bg fb : Nat} {ca cb : Option Addr} {cc cd : Nat} {wr : World} {ks fl : List Int} (h : FSt w m L bg fb ca cb cc cd wr ks fl) : FSt w m L bg fb ca cb cc cd wr.drew ks fl := h.later (below_drawn wr 1)
theorem whole_any (x : Int) (w : World) : Calls Try.prog 87 #[.int .i64 x] w fun e w' => e = .returned (.int .i64 x) ∧ w = w' := by
  go_enter Try.func87, Try.ntmps87
  go_wp2_with fail
  go_ret
  exact ⟨rfl, rfl⟩
theorem empty_any (x : Int) (w : World) : Calls Try.prog 88 #[.int .i64 x] w fun e w' => e = .returned (.int .i64 0) ∧ w = w' := by
  go_enter Try.func88, Try.ntmps88
  go_wp2_with fail
  go_ret
  exact ⟨rfl, rfl⟩
theorem gain9_any (w : World) (lo hi : Nat) (m : M.Mz) (cs fs : List Int) (V : M.Valid (M.layV m cs fs)) (a b : Option Addr) (c d : Nat) (h : MzIn lo hi w (M.layV m cs fs) a c b d) (hz : hi ≤ w.heap.size) (s : Int) (h0 : 0 ≤ s) (h1 : s < 64) :
    Calls Try.prog 120 #[.agg #[.int .i64 m.size, .slice a m.doors.length c, .slice b m.keys.length d], .int .i64 s] w (GainPost w (M.finC (M.layV m cs fs) s) (M.reachOf (M.layV m cs fs) 0 (M.finC (M.layV m cs fs) s)) true) := by
  have hk : (M.layV m cs fs).keys.length ≤ 1048576 := by have := V.keysLen; have := V.size12; omega
  have hd : (M.layV m cs fs).doors.length ≤ 1048576 := by have := V.few; omega
  have ha : M.askB (M.layV m cs fs) s = true := by unfold M.askB; rw [M.of_valid V]; exact M.setB_iff.2 ⟨h0, h1⟩
  have h := implGain_lw w lo hi (M.layV m cs fs) a b c d h hz hd hk s (by omega) (by omega)
  rw [layV_keys, M.ifAsk_yes ha, show M.gainN (M.layV m cs fs) s = _ from M.ifAsk_yes ha _ _, ha] at h
  exact h
theorem fillW_any (w : World) (lo hi : Nat) (m : M.Mz) (a b : Option Addr) (c d : Nat) (h : MzIn lo hi w m a c b d) (hz : hi ≤ w.heap.size) (_h1 : m.doors.length ≤ 1048576) (_h2 : m.keys.length ≤ 1048576) (s : Int) (ol oh : Nat) (oa : Option Addr) (oc : Nat) (o : List Int) (ho : RowIn ol oh w oa (M.encIs o)) (hzo : oh ≤ w.heap.size) (hlo : o.length ≤ 1048576) (cl ch' : Nat) (ca : Option Addr) (cc : Nat) (ch : List Int) (hc : RowIn cl ch' w ca (M.encIs ch)) (hzc : ch' ≤ w.heap.size) (hlc : ch.length ≤ 1048576) :
    Calls Try.prog 86 #[.agg #[.int .i64 m.size, .slice a m.doors.length c, .slice b m.keys.length d], .int .i64 s, .slice oa o.length oc, .slice ca ch.length cc, .func (.func 87) #[] #[]] w (IntsOkPost w (M.fillW false m s o ch) (M.makesB m s o ch)) := by
  obtain ⟨i0, hi0, hz0, hz1, hz2⟩ := info_parts infoI
  have H := Lib.hid h
  have HO := Lib.hid ho
  have HC := Lib.hid hc
  clear h ho hc
  go_enter Try.func86, Try.ntmps86
  go_wp2_with fail
  refine named ?_
  intro W hW
  have hb : Below w.heap.size w W := by rw [hW]; exact below_alloc _ _
  have x1 : Box3 W w.heap.size 27 (.int .i64 m.size) (.slice a m.doors.length c) (.slice b m.keys.length d) := by rw [hW]; exact Box3.new _ _ _ _ rfl
  clear hW
  have hzw := hb.size
  refine (isMaze_any W lo hi m a b c d (H.out.below hb hz) (by omega)).mono ?_
  rintro e w1 ⟨rfl, hb1⟩
  have HB1 := Lib.hid (hb.trans (hb1.mono hzw))
  have X1 := Lib.hid (x1.below hb1)
  have hzq1 := hb1.size
  clear hb hb1 x1
  obtain ⟨c0, c1, c2⟩ := X1.out.cells
  have hxl := X1.out.lt
  cases qm : M.mazeB m with
  | false =>
    have HQ : Hid (M.makesB m s o ch = false) := Lib.hid (by unfold M.makesB M.askB; rw [qm]; rfl)
    have HV := Lib.hid (M.fillW_no (fw := false) HQ.out)
    clear qm
    go_wp2_with fail
    go_ret2
    rw [HV.out, HQ.out]
    exact intsOk_end (l := []) (ownsRow_empty _ _ _ _ (by omega)) (HB1.out.alloc (by omega) _)
  | true =>
    have HM := Lib.hid qm
    clear qm
    go_wp2_with fail
    refine (isSet_any _ _).mono ?_
    rintro e w2 ⟨rfl, rfl⟩
    cases qs : M.setB s with
    | false =>
      have HQ : Hid (M.makesB m s o ch = false) := Lib.hid (by unfold M.makesB M.askB; rw [qs, Bool.and_false]; rfl)
      have HV := Lib.hid (M.fillW_no (fw := false) HQ.out)
      clear qs
      go_wp2_with fail
      go_ret2
      rw [HV.out, HQ.out]
      exact intsOk_end (l := []) (ownsRow_empty _ _ _ _ (by omega)) (HB1.out.alloc (by omega) _)
    | true =>
      have HA : Hid (M.askB m s = true) := Lib.hid (by unfold M.askB; rw [qs, HM.out]; rfl)
      have HS := Lib.hid qs
      have HOR := Lib.hid (isOrder_any w1 s qs ol oh oa oc o (HO.out.below HB1.out hzo) (by omega) hlo)
      clear qs
      go_wp2_with fail
      refine HOR.out.mono ?_
      rintro e w2 ⟨rfl, hb2⟩
      have HB2 := Lib.hid (HB1.out.trans (hb2.mono (by omega)))
      have X2 := Lib.hid (X1.out.below hb2)
      have hzz2 := hb2.size
      clear hb2 HOR c0 c1 c2 X1
      obtain ⟨c0, c1, c2⟩ := X2.out.cells
      cases qo : M.orderSB s o with
      | false =>
        have HQ : Hid (M.makesB m s o ch = false) := Lib.hid (by unfold M.makesB; rw [qo, HA.out]; rfl)
        have HV := Lib.hid (M.fillW_no (fw := false) HQ.out)
        clear qo
        go_wp2_with fail
        go_ret2
        rw [HV.out, HQ.out]
        exact intsOk_end (l := []) (ownsRow_empty _ _ _ _ (by omega)) (HB2.out.alloc (by omega) _)
      | true =>
        have HOQ := Lib.hid qo
        have HCH := Lib.hid (areCh_any w2 o.length hlo cl ch' ca cc ch (HC.out.below HB2.out hzc) (by omega) hlc)
        clear qo
        go_wp2_with fail
        refine HCH.out.mono ?_
        rintro e w5 ⟨rfl, hb5⟩
        have HB5 := Lib.hid (HB2.out.trans (hb5.mono (by omega)))
        have X5 := Lib.hid (X2.out.below hb5)
        have hzz5 := hb5.size
        clear hb5 HCH c0 c1 c2 X2
        obtain ⟨c0, c1, c2⟩ := X5.out.cells
        cases qc : M.choiceB o.length ch with
        | false =>
          have HQ : Hid (M.makesB m s o ch = false) := Lib.hid (by unfold M.makesB; rw [qc, HOQ.out, HA.out]; rfl)
          have HV := Lib.hid (M.fillW_no (fw := false) HQ.out)
          clear qc
          go_wp2_with fail
          go_ret2
          rw [HV.out, HQ.out]
          exact intsOk_end (l := []) (ownsRow_empty _ _ _ _ (by omega)) (HB5.out.alloc (by omega) _)
        | true =>
          have HQ : Hid (M.makesB m s o ch = true) := Lib.hid (by unfold M.makesB; rw [qc, HOQ.out, HA.out]; rfl)
          have HV := Lib.hid (M.fillW_yes (fw := false) HQ.out)
          obtain ⟨qa, qo, hcn, hcl⟩ := M.makes_yes HQ.out
          have hs := HS.out
          have hor := HOQ.out
          have hv := (M.ask_yes qa).1
          have HVA := Lib.hid hv
          have v12 := hv.size12
          have HKL := Lib.hid hv.keysLen
          have v13 : m.size ≤ (m.keys.length : Int) := by have := hv.keysLen; omega
          have v14 : m.keys.length ≤ 12 := by have := hv.keysLen; omega
          have HN63 := Lib.hid (M.noSet63 hv)
          have ho6 := M.order_len hs hor
          have hm6 := M.many_le s
          have hol6 : o.length ≤ 6 := by omega
          have HOL6 := Lib.hid ho6
          have HOM := Lib.hid (fun x (hx : x ∈ o) => M.order_mem hs hor hx)
          have HCN := Lib.hid hcn
          have HCL := Lib.hid hcl
          have HHS := Lib.hid (fun k (hk : k ≤ o.length) => M.first_set hs (fun x hx => M.order_mem hs hor hx) false k hk)
          have HPA := Lib.hid (M.partV_all hs hor false m ch)
          have HPE := Lib.hid (M.order_perm9 hs hor)
          have hnc : (M.colours s).length = o.length := ho6.symm
          have HNC := Lib.hid hnc
          have hon : o.Nodup := (M.order_perm9 hs hor).nodup_iff.2 (M.colours_nodup s)
          have HPS := Lib.hid (fun L L' k (hk : k < o.length) (hL : ∀ i, i < k → L.getD i 0 = L'.getD i 0) => M.partV_succ (L := L) (L' := L') hon (M.colours_nodup s) (fun c hc => (M.order_perm9 hs hor).mem_iff.2 hc) hk ((M.order_perm9 hs hor).mem_iff.1 (List.getElem_mem hk)) hL)
          clear qc qa qo hv hs hor ho6 hm6 hcn hcl hnc hon
          go_wp2_with fail
          refine (withoutColours_any w5 lo hi m a b c d (H.out.below HB5.out hz) (by omega) _h1 _h2 63).mono ?_
          rw [HN63.out]
          rintro e w3 ⟨na, nc, nb, nd, he, hno, hb3⟩
          have he' : e = .returned (.agg #[.int .i64 m.size, .slice na m.doors.length nc, .slice nb m.keys.length nd]) := by rw [he, M.layS_len]
          subst he'
          clear he
          have hzz3 := hb3.size
          have HB3 := Lib.hid (HB5.out.trans (hb3.mono (by omega)))
          have HNO := Lib.hid (show MzOwn w5.heap.size w3.heap.size w3 (M.layV m o []) na nc nb nd from hno)
          clear hb3 hno c0 c1 c2 X5
          go_upto_region 5 with fail
          refine wp_named ?_
          intro W4 hW4
          have hb4 : Below w3.heap.size w3 W4 := by rw [hW4]; exact below_alloc _ _
          have t4 : Box3 W4 w3.heap.size 27 (.int .i64 m.size) (.slice na m.doors.length nc) (.slice nb m.keys.length nd) := by rw [hW4]; exact Box3.new _ _ _ _ rfl
          have T4 := Lib.hid t4
          have hl4 := t4.lt
          have N4 := Lib.hid (HNO.out.below hb4 (Nat.le_refl _))
          have B4 := Lib.hid (HB3.out.trans (hb4.mono (by omega)))
          have hz4 := hb4.size
          clear hW4 hb4 t4 HNO
          go_wp2_with (at_make; refine wpList_make_full _ rfl _ _ 23 rfl W4.heap.size 3 i0 (.int .i64 0) 1 Try.underlying23 hi0 hz0 hz1 .i64 .i64 _ _ o.length rfl rfl rfl rfl (by rw [hz2]; omega) (by unfold maxLen; omega) (Nat.le_refl _) ?_; intro w7 hown7 hgrow7)
          rw [made_zero] at hown7
          have hb7 : Below W4.heap.size W4 w7 := (Below.refl _ _).grown hgrow7 (Nat.le_refl _) (fun k e => by cases e)
          have hlt7 : W4.heap.size < w7.heap.size := (hown7.lt _ rfl).2
          have S7 := Lib.hid (show FSt w m w5.heap.size w3.heap.size W4.heap.size na nb nc nd w7 (M.layV m o (M.laidTo false m s o ch 0)).keys (M.partV o (M.colours s) (M.laidTo false m s o ch 0) 0) from
            ⟨T4.out.below hb7, (show MzOwn w5.heap.size w3.heap.size W4 ⟨m.size, m.doors, (M.layV m o []).keys⟩ na nc nb nd from N4.out).below hb7 (by omega), by rw [M.partV_zero, HNC.out]; exact OwnAt.of_own0 hown7, ⟨hl4, hlt7⟩, B4.out.trans (hb7.mono B4.out.size)⟩)
          generalize W4.heap.size = fb at *
          clear hown7 hgrow7 hb7 T4 N4 B4
          go_wp2_with fail
          go_loopw [12, 15, 16, 17, 18, 19, 20, 51] (fun v12 _ _ _ _ _ _ v51 wr => ∃ (k : Nat), k ≤ o.length ∧ v51 = .int .i64 (k : Int) ∧ v12 = .int .i64 (M.handAt s o k) ∧ FSt w m w5.heap.size w3.heap.size fb na nb nc nd wr (M.layV m o (M.laidTo false m s o ch k)).keys (M.partV o (M.colours s) (M.laidTo false m s o ch k) k)) (fun _ _ _ _ _ _ _ v51 _ => o.length - (intOf v51).toNat)
          case atStart => exact ⟨0, Nat.zero_le _, rfl, rfl, S7.out⟩
          case round =>
            clear S7
            obtain ⟨k, hk, rfl, rfl, hst⟩ := hrel
            have SR := Lib.hid hst
            have hzr := hst.low.size
            have hbg := hst.out.lt
            obtain ⟨hfb1, hfb2⟩ := hst.fbl
            obtain ⟨o0, o1, o2⟩ := hst.out.cells
            clear hst
            by_cases hlt : k < o.length
            · obtain ⟨og, oo, rfl, _, _, hc0⟩ := (HO.out.below SR.out.low hzo).at_ (k := k) (by rw [M.encIs_len]; exact hlt)
              have hco := hc0 k _ (M.encIs_at hlt)
              have hlt' : k < ch.length := by rw [HCL.out]; exact hlt
              obtain ⟨cg, co, rfl, _, hcgh, hd0⟩ := (HC.out.below SR.out.low hzc).at_ (k := k) (by rw [M.encIs_len]; exact hlt')
              have hcc := hd0 k _ (M.encIs_at hlt')
              obtain ⟨hy0, hy5⟩ := HOM.out o[k] (List.getElem_mem _)
              have hq0 := HCN.out ch[k] (List.getElem_mem _)
              obtain ⟨hw1, hw2⟩ := bit_facts hy0 hy5
              have HHK : bits .andNot .i64 (M.handAt s o k) (M.bitI o[k]) = M.handAt s o (k + 1) := by rw [← getD_of hlt]; rfl
              obtain ⟨hs0, hs64⟩ := HHS.out (k + 1) hlt
              have hll := M.laidTo_len false m s o ch k
              have HLS : Hid (M.laidTo false m s o ch (k + 1) = M.laidTo false m s o ch k ++ [(M.freeAt false m s o (M.laidTo false m s o ch k)).getD (ch[k].toNat % (M.freeAt false m s o (M.laidTo false m s o ch k)).length) 0]) := Lib.hid (by rw [← getD_of hlt']; rfl)
              have HFR : Hid (M.freeAt false m s o (M.laidTo false m s o ch k) = M.reachOf (M.layV m o (M.laidTo false m s o ch k)) 0 (M.finC (M.layV m o (M.laidTo false m s o ch k)) (M.firstAt false s o (k + 1)))) := Lib.hid (by unfold M.freeAt; rw [hll])
              have hfl : (M.freeAt false m s o (M.laidTo false m s o ch k)).length ≤ 12 := by unfold M.freeAt M.reachOf; exact M.rchL_len _ _ _
              have hpos := M.free_pos (fw := false) HVA.out (s := s) (o := o) (l := M.laidTo false m s o ch k) (by omega) HOM.out
              have HFN := Lib.hid (fun y hy => M.free_node (fw := false) HVA.out (s := s) (o := o) (l := M.laidTo false m s o ch k) (by omega) HOM.out (y := y) hy)
              have HLV := Lib.hid (M.layV_valid (m := m) HVA.out (cs := o) (fs := M.laidTo false m s o ch k) (by omega) HOM.out)
              have HFI : Hid (M.firstAt false s o (k + 1) = M.handAt s o (k + 1)) := Lib.hid rfl
              have HGA := Lib.hid (show ∀ W, Below wr.heap.size wr W → Calls Try.prog 120 #[.agg #[.int .i64 m.size, .slice na m.doors.length nc, .slice nb m.keys.length nd], .int .i64 (M.handAt s o (k + 1))] W (GainPost W (M.finC (M.layV m o (M.laidTo false m s o ch k)) (M.firstAt false s o (k + 1))) (M.freeAt false m s o (M.laidTo false m s o ch k)) true) from fun W hb => by
                have h := gain9_any W w5.heap.size w3.heap.size m o (M.laidTo false m s o ch k) HLV.out na nb nc nd ((show MzOwn w5.heap.size w3.heap.size wr (M.layV m o (M.laidTo false m s o ch k)) na nc nb nd from SR.out.own).mz.below hb (by omega)) (by have := hb.size; omega) _ hs0 hs64
                rw [← HFR.out, HFI.out] at h
                rw [HFI.out]
                exact h)
              have HIX : Hid (M.idxV (M.colours s) o[k] = (M.placeL (M.colours s) o[k] : Int)) := Lib.hid (M.idxV_yes (by unfold M.memB; rw [List.contains_iff_mem]; exact HPE.out.mem_iff.1 (List.getElem_mem hlt)))
              have HPL := Lib.hid (M.place_in (HPE.out.mem_iff.1 (List.getElem_mem hlt)))
              have HPK := Lib.hid (fun v => HPS.out (M.laidTo false m s o ch k) (M.laidTo false m s o ch k ++ [v]) k hlt (fun i hi => by rw [List.getD_eq_getElem?_getD, List.getD_eq_getElem?_getD, List.getElem?_append_left (by rw [hll]; exact hi)]))
              have HGV : Hid (∀ v : Int, (M.laidTo false m s o ch k ++ [v]).getD k 0 = v) := Lib.hid (fun v => by rw [List.getD_eq_getElem?_getD, List.getElem?_append_right (by rw [hll]; exact Nat.le_refl _), hll, Nat.sub_self]; rfl)
              have HLL := Lib.hid hll
              have HOK := Lib.hid (getD_of hlt)
              obtain ⟨qn, hqn⟩ : ∃ qn : Nat, ch[k] = (qn : Int) := ⟨ch[k].toNat, by omega⟩
              rw [hqn] at hcc HLS
              rw [Int.toNat_natCast] at HLS
              clear hc0 hd0 hll hqn hq0
              generalize hL : M.laidTo false m s o ch k = L at *
              have HL := Lib.hid hL
              clear hL HLV HFR HFI
              generalize M.freeAt false m s o L = F at *
              generalize o[k] = y at *
              generalize M.handAt s o k = h0 at *
              generalize hH1 : M.handAt s o (k + 1) = h1 at *
              have HH1 := Lib.hid hH1
              clear hH1 hs0 hs64
              generalize M.firstAt false s o (k + 1) = f1 at *
              have hml := Nat.mod_lt qn hpos
              rw [getD_of hml] at HLS
              have hvn := HFN.out F[qn % F.length] (List.getElem_mem _)
              obtain ⟨x, hx⟩ : ∃ x : Nat, F[qn % F.length] = (x : Int) := ⟨F[qn % F.length].toNat, by omega⟩
              go_wp2_with fail
              refine wp_region_late2 (fun (wq : World) => wq.cell? ⟨w3.heap.size, 0, none⟩ = some (.int .i64 m.size) ∧ wq.cell? ⟨w3.heap.size, 1, none⟩ = some (.slice na m.doors.length nc) ∧ wq.cell? ⟨w3.heap.size, 2, none⟩ = some (.slice nb m.keys.length nd)) [] 12 #[false, false, false, false, false, false, false, false, false, false, false, false] rfl rfl (by kernel_rfl) ?_
              have hS : (fun (wq : World) => wq.cell? ⟨w3.heap.size, 0, none⟩ = some (.int .i64 m.size) ∧ wq.cell? ⟨w3.heap.size, 1, none⟩ = some (.slice na m.doors.length nc) ∧ wq.cell? ⟨w3.heap.size, 2, none⟩ = some (.slice nb m.keys.length nd)) wr.drew := ⟨o0, o1, o2⟩
              refine wpAnyL_take (i := 0) (oi := { dst := some 61, op := Go.Op.load 27 (Go.Operand.tmp 13), type := 27, pos := "l9_filling.go:176", after := #[], guard := none }) (v := ?pv0) rfl (by kernel_rfl) (by kernel_rfl) (by kernel_rfl) (by kernel_rfl) (fun _ _ _ h => h) (Or.inl ⟨by rfl, ?ph0⟩) hS ?pr0
              case ph0 => (intro wS hSw; (try dsimp only at hSw); go_split_ands; go_simp; try with_reducible rfl)
              try simp only [Act.put, List.setIfInBounds_toArray, List.set_cons_zero, List.set_cons_succ]
              refine wpAnyL_take (i := 1) (oi := { dst := some 62, op := Go.Op.move (Go.Operand.tmp 4), type := 90, pos := "l9_filling.go:176", after := #[], guard := none }) (v := ?pv1) rfl (by kernel_rfl) (by kernel_rfl) (by kernel_rfl) (by kernel_rfl) (fun _ _ _ h => h) (Or.inl ⟨by rfl, ?ph1⟩) hS ?pr1
              case ph1 => (intro wS hSw; (try dsimp only at hSw); go_split_ands; go_simp; try with_reducible rfl)
              try simp only [Act.put, List.setIfInBounds_toArray, List.set_cons_zero, List.set_cons_succ]
              refine wpAnyL_take (i := 2) (oi := { dst := some 63, op := Go.Op.move (Go.Operand.tmp 12), type := 92, pos := "l9_filling.go:176", after := #[], guard := none }) (v := ?pv2) rfl (by kernel_rfl) (by kernel_rfl) (by kernel_rfl) (by kernel_rfl) (fun _ _ _ h => h) (Or.inl ⟨by rfl, ?ph2⟩) hS ?pr2
              case ph2 => (intro wS hSw; (try dsimp only at hSw); go_split_ands; go_simp; try with_reducible rfl)
              try simp only [Act.put, List.setIfInBounds_toArray, List.set_cons_zero, List.set_cons_succ]
              refine wpAnyL_one (i := 3) (oi := { dst := some 64, op := Go.Op.call { callee := Go.Callee.value (Go.Operand.tmp 62), args := #[Go.Operand.tmp 63], argTypes := #[92] }, type := 3, pos := "l9_filling.go:176", after := #[{ on := 1, ground := Go.Ground.data }, { on := 2, ground := Go.Ground.data }], guard := none }) (by kernel_rfl) rfl (fun Kp3 hKp3 => ?_)
              refine step_call (by rfl) 87 #[.int .i64 h1] (by go_simp; try rfl) (whole_any h1 _) ?_
              rintro e w2 ⟨rfl, rfl⟩
              refine ⟨_, rfl, ?_⟩
              have hx6 : (fun (wq : World) => wq.cell? ⟨w3.heap.size, 0, none⟩ = some (.int .i64 m.size) ∧ wq.cell? ⟨w3.heap.size, 1, none⟩ = some (.slice na m.doors.length nc) ∧ wq.cell? ⟨w3.heap.size, 2, none⟩ = some (.slice nb m.keys.length nd)) wr.drew := hS
              refine hKp3 _ _ (fun _ => hx6) ?_
              clear hS
              have hS := hx6
              try simp only [Act.put, List.setIfInBounds_toArray, List.set_cons_zero, List.set_cons_succ]
              refine wpAnyL_one (i := 4) (oi := { dst := some 65, op := Go.Op.call { callee := Go.Callee.value (Go.Operand.func 120), args := #[Go.Operand.tmp 61, Go.Operand.tmp 64], argTypes := #[27, 3] }, type := 119, pos := "l9_filling.go:176", after := #[{ on := 0, ground := Go.Ground.data }, { on := 3, ground := Go.Ground.data }, { on := 3, ground := Go.Ground.chain }], guard := none }) (by kernel_rfl) rfl (fun Kp4 hKp4 => ?_)
              refine step_call (by rfl) 120 #[.agg #[.int .i64 m.size, .slice na m.doors.length nc, .slice nb m.keys.length nd], .int .i64 h1] (by go_simp; try rfl) (HGA.out _ (below_drawn wr 1)) ?_
              rintro e w6 ⟨fa, fc, rfl, hfo, hf1, hf2, hb6⟩
              refine ⟨_, rfl, ?_⟩
              have hb6x : Below wr.heap.size wr w6 := (below_drawn wr 1).trans (hb6.mono (Nat.le_refl _))
              have S6 := Lib.hid (SR.out.later hb6x)
              have hx7 : (fun (wq : World) => wq.cell? ⟨w3.heap.size, 0, none⟩ = some (.int .i64 m.size) ∧ wq.cell? ⟨w3.heap.size, 1, none⟩ = some (.slice na m.doors.length nc) ∧ wq.cell? ⟨w3.heap.size, 2, none⟩ = some (.slice nb m.keys.length nd)) w6 := S6.out.out.cells
              refine hKp4 _ _ (fun _ => hx7) ?_
              clear hS
              have hS := hx7
              try simp only [Act.put, List.setIfInBounds_toArray, List.set_cons_zero, List.set_cons_succ]
              refine wpAnyL_take (i := 5) (oi := { dst := some 60, op := Go.Op.move (Go.Operand.tmp 65), type := 119, pos := "l9_filling.go:176", after := #[{ on := 4, ground := Go.Ground.data }], guard := none }) (v := ?pv5) rfl (by kernel_rfl) (by kernel_rfl) (by kernel_rfl) (by kernel_rfl) (fun _ _ _ h => h) (Or.inl ⟨by rfl, ?ph5⟩) hS ?pr5
              case ph5 => (intro wS hSw; (try dsimp only at hSw); go_split_ands; go_simp; try with_reducible rfl)
              try simp only [Act.put, List.setIfInBounds_toArray, List.set_cons_zero, List.set_cons_succ]
              refine wpAnyL_take (i := 6) (oi := { dst := some 66, op := Go.Op.extract (Go.Operand.tmp 60) 0, type := 3, pos := "l9_filling.go:176", after := #[{ on := 5, ground := Go.Ground.data }], guard := none }) (v := ?pv6) rfl (by kernel_rfl) (by kernel_rfl) (by kernel_rfl) (by kernel_rfl) (fun _ _ _ h => h) (Or.inl ⟨by rfl, ?ph6⟩) hS ?pr6
              case ph6 => (intro wS hSw; (try dsimp only at hSw); go_split_ands; go_simp; try with_reducible rfl)
              try simp only [Act.put, List.setIfInBounds_toArray, List.set_cons_zero, List.set_cons_succ]
              refine wpAnyL_take (i := 7) (oi := { dst := some 67, op := Go.Op.extract (Go.Operand.tmp 60) 1, type := 23, pos := "l9_filling.go:176", after := #[{ on := 5, ground := Go.Ground.data }, { on := 9, ground := Go.Ground.gcOnly Go.Departure.lateStores }], guard := none }) (v := ?pv7) rfl (by kernel_rfl) (by kernel_rfl) (by kernel_rfl) (by kernel_rfl) (fun _ _ _ h => h) (Or.inl ⟨by rfl, ?ph7⟩) hS ?pr7
              case ph7 => (intro wS hSw; (try dsimp only at hSw); go_split_ands; go_simp; try with_reducible rfl)
              try simp only [Act.put, List.setIfInBounds_toArray, List.set_cons_zero, List.set_cons_succ]
              refine wpAnyL_take (i := 8) (oi := { dst := some 68, op := Go.Op.extract (Go.Operand.tmp 60) 2, type := 4, pos := "l9_filling.go:176", after := #[{ on := 5, ground := Go.Ground.data }, { on := 10, ground := Go.Ground.gcOnly Go.Departure.lateStores }], guard := none }) (v := ?pv8) rfl (by kernel_rfl) (by kernel_rfl) (by kernel_rfl) (by kernel_rfl) (fun _ _ _ h => h) (Or.inl ⟨by rfl, ?ph8⟩) hS ?pr8
              case ph8 => (intro wS hSw; (try dsimp only at hSw); go_split_ands; go_simp; try with_reducible rfl)
              try simp only [Act.put, List.setIfInBounds_toArray, List.set_cons_zero, List.set_cons_succ]
              refine wpAnyL_take (i := 9) (oi := { dst := some 17, op := Go.Op.assign (Go.Operand.tmp 66), type := 3, pos := "l9_filling.go:176", after := #[{ on := 6, ground := Go.Ground.data }, { on := 4, ground := Go.Ground.chain }, { on := 0, ground := Go.Ground.phase }, { on := 1, ground := Go.Ground.phase }, { on := 2, ground := Go.Ground.phase }, { on := 3, ground := Go.Ground.phase }, { on := 4, ground := Go.Ground.phase }, { on := 5, ground := Go.Ground.phase }, { on := 6, ground := Go.Ground.phase }, { on := 7, ground := Go.Ground.textOnly Go.Departure.lateStores }, { on := 8, ground := Go.Ground.textOnly Go.Departure.lateStores }], guard := none }) (v := ?pv9) rfl (by kernel_rfl) (by kernel_rfl) (by kernel_rfl) (by kernel_rfl) (fun _ _ _ h => h) (Or.inl ⟨by rfl, ?ph9⟩) hS ?pr9
              case ph9 => (intro wS hSw; (try dsimp only at hSw); go_split_ands; go_simp; try with_reducible rfl)
              try simp only [Act.put, List.setIfInBounds_toArray, List.set_cons_zero, List.set_cons_succ]
              refine wpAnyL_take (i := 10) (oi := { dst := some 18, op := Go.Op.assign (Go.Operand.tmp 67), type := 23, pos := "l9_filling.go:176", after := #[{ on := 7, ground := Go.Ground.data }, { on := 9, ground := Go.Ground.chain }, { on := 0, ground := Go.Ground.phase }, { on := 1, ground := Go.Ground.phase }, { on := 2, ground := Go.Ground.phase }, { on := 3, ground := Go.Ground.phase }, { on := 4, ground := Go.Ground.phase }, { on := 5, ground := Go.Ground.phase }, { on := 6, ground := Go.Ground.phase }, { on := 7, ground := Go.Ground.phase }, { on := 8, ground := Go.Ground.textOnly Go.Departure.lateStores }, { on := 9, ground := Go.Ground.phase }], guard := none }) (v := ?pv10) rfl (by kernel_rfl) (by kernel_rfl) (by kernel_rfl) (by kernel_rfl) (fun _ _ _ h => h) (Or.inl ⟨by rfl, ?ph10⟩) hS ?pr10
              case ph10 => (intro wS hSw; (try dsimp only at hSw); go_split_ands; go_simp; try with_reducible rfl)
              try simp only [Act.put, List.setIfInBounds_toArray, List.set_cons_zero, List.set_cons_succ]
              refine wpAnyL_take (i := 11) (oi := { dst := some 19, op := Go.Op.assign (Go.Operand.tmp 68), type := 4, pos := "l9_filling.go:176", after := #[{ on := 8, ground := Go.Ground.data }, { on := 10, ground := Go.Ground.chain }, { on := 0, ground := Go.Ground.phase }, { on := 1, ground := Go.Ground.phase }, { on := 2, ground := Go.Ground.phase }, { on := 3, ground := Go.Ground.phase }, { on := 4, ground := Go.Ground.phase }, { on := 5, ground := Go.Ground.phase }, { on := 6, ground := Go.Ground.phase }, { on := 7, ground := Go.Ground.phase }, { on := 8, ground := Go.Ground.phase }, { on := 9, ground := Go.Ground.phase }, { on := 10, ground := Go.Ground.phase }], guard := none }) (v := ?pv11) rfl (by kernel_rfl) (by kernel_rfl) (by kernel_rfl) (by kernel_rfl) (fun _ _ _ h => h) (Or.inl ⟨by rfl, ?ph11⟩) hS ?pr11
              case ph11 => (intro wS hSw; (try dsimp only at hSw); go_split_ands; go_simp; try with_reducible rfl)
              try simp only [Act.put, List.setIfInBounds_toArray, List.set_cons_zero, List.set_cons_succ]
              refine wpAnyL_done (by kernel_rfl) ?_ _
              have hz6 := hb6x.size
              have C6 := (hb6x.cell (p := ⟨cg, co + k, none⟩) (show cg < _ by omega)).trans hcc
              obtain ⟨fg, fo, rfl, _, _, he0⟩ := hfo.row.at_ (k := qn % F.length) (by rw [M.encIs_len]; exact hml)
              have E6 := he0 _ _ (M.encIs_at hml)
              rw [hx] at E6
              have hmi : ((qn : Int)).tmod (F.length : Int) = ((qn % F.length : Nat) : Int) := (Int.ofNat_tmod qn F.length).symm
              have hni : ¬ ((F.length : Int) = 0) := by omega
              have hmk : ((qn % F.length : Nat) : Int) < (F.length : Int) := by omega
              rw [hx] at HLS hvn
              obtain ⟨hvn0, hvn1⟩ := hvn
              have hxk : x < m.keys.length := by omega
              have hgx : (L ++ [(x : Int)]).getD k 0 = (x : Int) := HGV.out _
              have HKS := Lib.hid (M.layV_snoc m o L (x : Int))
              rw [HLL.out, HOK.out, Int.toNat_natCast] at HKS
              obtain ⟨g, off, rfl, hg1, hg2, hk0⟩ := S6.out.own.keys.row.at_ (k := x) (by rw [M.encIs_len]; show x < (M.layV m o L).keys.length; rw [layV_keys]; exact hxk)
              have hkx : x < (M.layV m o L).keys.length := by rw [layV_keys]; exact hxk
              have hcu := hk0 x _ (M.encIs_at hkx)
              have hfu := S6.out.own.keys.free rfl (k := x) (by rw [M.encIs_len]; exact hkx) (off + x)
              have hgk : (M.layV m o L).keys.getD x 0 = (M.layV m o L).keys[x] := getD_of hkx
              have s7 := S6.out.setK (by omega) hg1 hg2 (k := x) hkx (bits .or .i64 ((M.layV m o L).keys.getD x 0) (M.bitI y))
              rw [← HKS.out, hgk] at s7
              have S7 := Lib.hid s7
              have HPK1 := Lib.hid (HPK.out (x : Int))
              rw [hgx] at HPK1
              obtain ⟨q0, q1, q2⟩ := S6.out.out.cells
              have hpl := HPL.out
              rw [HNC.out] at hpl
              have hpn : ∀ l : List Int, (M.partV o (M.colours s) l k).length = o.length := fun l => by rw [M.partV_len]; exact HNC.out
              have HPN := Lib.hid hpn
              clear hk0 he0 hfo hb6 s7 hgk hx hcc hco hpn hgx HKS
              generalize hu : (M.layV m o L).keys[x] = u at *
              clear hu
              generalize hrm : qn % F.length = rm at *
              clear hrm
              generalize M.placeL (M.colours s) y = pl at *
              go_wp2_with fail
              refine wp_region_late2 (fun (wq : World) => (wq.cell? ⟨w3.heap.size, 2, none⟩ = some (.slice (some ⟨g, off, none⟩) m.keys.length nd)) ∧ wq.cell? ⟨g, off + x, none⟩ = some (.int .i64 u)) [9] 10 #[false, false, false, false, false, false, false, false, false, false] rfl rfl (by kernel_rfl) ?_
              have hS : (fun (wq : World) => (wq.cell? ⟨w3.heap.size, 2, none⟩ = some (.slice (some ⟨g, off, none⟩) m.keys.length nd)) ∧ wq.cell? ⟨g, off + x, none⟩ = some (.int .i64 u)) w6.drew := ⟨q2, hcu⟩
              refine wpAnyL_take (i := 0) (oi := { dst := some 79, op := Go.Op.fieldAddr 27 (Go.Operand.tmp 13) 2, type := 0, pos := "l9_filling.go:179", after := #[], guard := none }) (v := ?tv0) rfl (by kernel_rfl) (by kernel_rfl) (by kernel_rfl) (by kernel_rfl) (fun _ _ _ h => h) (Or.inl ⟨by rfl, ?th0⟩) hS ?tr0
              case th0 => (intro wS hSw; (try dsimp only at hSw); go_split_ands; go_simp; try with_reducible rfl)
              try simp only [Act.put, List.setIfInBounds_toArray, List.set_cons_zero, List.set_cons_succ]
              refine wpAnyL_take (i := 1) (oi := { dst := some 80, op := Go.Op.load 23 (Go.Operand.tmp 79), type := 23, pos := "l9_filling.go:179", after := #[{ on := 0, ground := Go.Ground.data }], guard := none }) (v := ?tv1) rfl (by kernel_rfl) (by kernel_rfl) (by kernel_rfl) (by kernel_rfl) (fun _ _ _ h => h) (Or.inl ⟨by rfl, ?th1⟩) hS ?tr1
              case th1 => (intro wS hSw; (try dsimp only at hSw); go_split_ands; go_simp; try with_reducible rfl)
              try simp only [Act.put, List.setIfInBounds_toArray, List.set_cons_zero, List.set_cons_succ]
              refine wpAnyL_take (i := 2) (oi := { dst := some 81, op := Go.Op.move (Go.Operand.tmp 20), type := 3, pos := "l9_filling.go:179", after := #[], guard := none }) (v := ?tv2) rfl (by kernel_rfl) (by kernel_rfl) (by kernel_rfl) (by kernel_rfl) (fun _ _ _ h => h) (Or.inl ⟨by rfl, ?th2⟩) hS ?tr2
              case th2 => (intro wS hSw; (try dsimp only at hSw); go_split_ands; go_simp; try with_reducible rfl)
              try simp only [Act.put, List.setIfInBounds_toArray, List.set_cons_zero, List.set_cons_succ]
              refine wpAnyL_take (i := 3) (oi := { dst := some 82, op := Go.Op.indexAddr 23 (Go.Operand.tmp 80) (Go.Operand.tmp 81), type := 0, pos := "l9_filling.go:179", after := #[{ on := 1, ground := Go.Ground.data }, { on := 2, ground := Go.Ground.data }], guard := none }) (v := ?tv3) rfl (by kernel_rfl) (by kernel_rfl) (by kernel_rfl) (by kernel_rfl) (fun _ _ _ h => h) (Or.inl ⟨by rfl, ?th3⟩) hS ?tr3
              case th3 => (intro wS hSw; (try dsimp only at hSw); go_split_ands; go_simp; try with_reducible rfl)
              try simp only [Act.put, List.setIfInBounds_toArray, List.set_cons_zero, List.set_cons_succ]
              refine wpAnyL_take (i := 4) (oi := { dst := some 83, op := Go.Op.load 3 (Go.Operand.tmp 82), type := 3, pos := "l9_filling.go:179", after := #[{ on := 3, ground := Go.Ground.data }], guard := none }) (v := ?tv4) rfl (by kernel_rfl) (by kernel_rfl) (by kernel_rfl) (by kernel_rfl) (fun _ _ _ h => h) (Or.inl ⟨by rfl, ?th4⟩) hS ?tr4
              case th4 => (intro wS hSw; (try dsimp only at hSw); go_split_ands; go_simp; try with_reducible rfl)
              try simp only [Act.put, List.setIfInBounds_toArray, List.set_cons_zero, List.set_cons_succ]
              refine wpAnyL_take (i := 5) (oi := { dst := some 84, op := Go.Op.move (Go.Operand.tmp 16), type := 3, pos := "l9_filling.go:179", after := #[], guard := none }) (v := ?tv5) rfl (by kernel_rfl) (by kernel_rfl) (by kernel_rfl) (by kernel_rfl) (fun _ _ _ h => h) (Or.inl ⟨by rfl, ?th5⟩) hS ?tr5
              case th5 => (intro wS hSw; (try dsimp only at hSw); go_split_ands; go_simp; try with_reducible rfl)
              try simp only [Act.put, List.setIfInBounds_toArray, List.set_cons_zero, List.set_cons_succ]
              refine wpAnyL_take (i := 6) (oi := { dst := some 85, op := Go.Op.binOp Go.BinOp.shl 3 (Go.Operand.const (Go.Value.int Go.IntKind.i64 1)) (Go.Operand.tmp 84) 3, type := 3, pos := "l9_filling.go:179", after := #[{ on := 5, ground := Go.Ground.data }], guard := none }) (v := ?tv6) rfl (by kernel_rfl) (by kernel_rfl) (by kernel_rfl) (by kernel_rfl) (fun _ _ _ h => h) (Or.inl ⟨by rfl, ?th6⟩) hS ?tr6
              case th6 => (intro wS hSw; (try dsimp only at hSw); go_split_ands; go_simp; try with_reducible rfl)
              try simp only [Act.put, List.setIfInBounds_toArray, List.set_cons_zero, List.set_cons_succ]
              refine wpAnyL_take (i := 7) (oi := { dst := some 86, op := Go.Op.binOp Go.BinOp.or 3 (Go.Operand.tmp 83) (Go.Operand.tmp 85) 3, type := 3, pos := "l9_filling.go:179", after := #[{ on := 4, ground := Go.Ground.data }, { on := 6, ground := Go.Ground.data }], guard := none }) (v := ?tv7) rfl (by kernel_rfl) (by kernel_rfl) (by kernel_rfl) (by kernel_rfl) (fun _ _ _ h => h) (Or.inl ⟨by rfl, ?th7⟩) hS ?tr7
              case th7 => (intro wS hSw; (try dsimp only at hSw); go_split_ands; go_simp; try with_reducible rfl)
              try simp only [Act.put, List.setIfInBounds_toArray, List.set_cons_zero, List.set_cons_succ]
              refine wpAnyL_take (i := 8) (oi := { dst := some 87, op := Go.Op.indexAddr 23 (Go.Operand.tmp 80) (Go.Operand.tmp 81), type := 0, pos := "l9_filling.go:179", after := #[{ on := 1, ground := Go.Ground.data }, { on := 2, ground := Go.Ground.data }, { on := 0, ground := Go.Ground.phase }, { on := 1, ground := Go.Ground.phase }, { on := 2, ground := Go.Ground.phase }, { on := 3, ground := Go.Ground.phase }, { on := 4, ground := Go.Ground.phase }, { on := 5, ground := Go.Ground.phase }, { on := 6, ground := Go.Ground.phase }, { on := 7, ground := Go.Ground.phase }], guard := none }) (v := ?tv8) rfl (by kernel_rfl) (by kernel_rfl) (by kernel_rfl) (by kernel_rfl) (fun _ _ _ h => h) (Or.inl ⟨by rfl, ?th8⟩) hS ?tr8
              case th8 => (intro wS hSw; (try dsimp only at hSw); go_split_ands; go_simp; try with_reducible rfl)
              try simp only [Act.put, List.setIfInBounds_toArray, List.set_cons_zero, List.set_cons_succ]
              refine wpAnyL_one (i := 9) (oi := { dst := none, op := Go.Op.store 3 (Go.Operand.tmp 87) (Go.Operand.tmp 86), type := 0, pos := "l9_filling.go:179", after := #[{ on := 8, ground := Go.Ground.data }, { on := 7, ground := Go.Ground.data }, { on := 0, ground := Go.Ground.phase }, { on := 1, ground := Go.Ground.phase }, { on := 2, ground := Go.Ground.phase }, { on := 3, ground := Go.Ground.phase }, { on := 4, ground := Go.Ground.phase }, { on := 5, ground := Go.Ground.phase }, { on := 6, ground := Go.Ground.phase }, { on := 7, ground := Go.Ground.phase }], guard := none }) (by kernel_rfl) rfl (fun Kt9 hKt9 => ?_)
              go_simp
              refine hKt9 _ _ (fun h => absurd h (by decide)) ?_
              refine wpAnyL_done (by kernel_rfl) ?_ _
              go_wp2_with fail
              refine (placeOf_any s y _).mono ?_
              rintro e w8 ⟨rfl, hb8⟩
              rw [HIX.out]
              have S8 := Lib.hid (S7.out.drawn1.later hb8)
              obtain ⟨z8, hz8a, hz8b, hz8c⟩ := S8.out.row.cell0 (k := pl) (by rw [M.encIs_len, HPN.out]; exact hpl)
              have hl8 := S8.out.fbl.2
              have hplo : (pl : Int) < (o.length : Int) := by omega
              have S9 := Lib.hid (S8.out.setF (by omega) pl (x : Int))
              rw [← HPK1.out, ← HLS.out] at S9
              clear hb8 hz8a
              go_wp2_with fail
              go_roundw
              case rel => exact ⟨k + 1, by omega, by go_num, by rw [HH1.out], S9.out⟩
              case measure => simp [intOf]; omega
            · obtain rfl : k = o.length := by omega
              have hrow := SR.out.row
              rw [HPA.out] at hrow
              have HRW := Lib.hid hrow
              have HFL := Lib.hid (M.fillV_len false m s o ch)
              have HNL := Lib.hid (show o.length = M.manyC s from HOL6.out)
              clear hrow
              go_wp2_with fail
              go_ret2
              rw [HV.out, HQ.out]
              exact ⟨some ⟨fb, 0, none⟩, o.length, by rw [HFL.out, ← HNL.out]; rfl, HRW.out.mono (by omega) (by omega), by rw [HFL.out, ← HNL.out]; exact Nat.le_refl _, by omega, SR.out.low⟩
theorem fillE_any (w : World) (lo hi : Nat) (m : M.Mz) (a b : Option Addr) (c d : Nat) (h : MzIn lo hi w m a c b d) (hz : hi ≤ w.heap.size) (_h1 : m.doors.length ≤ 1048576) (_h2 : m.keys.length ≤ 1048576) (s : Int) (ol oh : Nat) (oa : Option Addr) (oc : Nat) (o : List Int) (ho : RowIn ol oh w oa (M.encIs o)) (hzo : oh ≤ w.heap.size) (hlo : o.length ≤ 1048576) (cl ch' : Nat) (ca : Option Addr) (cc : Nat) (ch : List Int) (hc : RowIn cl ch' w ca (M.encIs ch)) (hzc : ch' ≤ w.heap.size) (hlc : ch.length ≤ 1048576) :
    Calls Try.prog 86 #[.agg #[.int .i64 m.size, .slice a m.doors.length c, .slice b m.keys.length d], .int .i64 s, .slice oa o.length oc, .slice ca ch.length cc, .func (.func 88) #[] #[]] w (IntsOkPost w (M.fillW true m s o ch) (M.makesB m s o ch)) := by
  obtain ⟨i0, hi0, hz0, hz1, hz2⟩ := info_parts infoI
  have H := Lib.hid h
  have HO := Lib.hid ho
  have HC := Lib.hid hc
  clear h ho hc
  go_enter Try.func86, Try.ntmps86
  go_wp2_with fail
  refine named ?_
  intro W hW
  have hb : Below w.heap.size w W := by rw [hW]; exact below_alloc _ _
  have x1 : Box3 W w.heap.size 27 (.int .i64 m.size) (.slice a m.doors.length c) (.slice b m.keys.length d) := by rw [hW]; exact Box3.new _ _ _ _ rfl
  clear hW
  have hzw := hb.size
  refine (isMaze_any W lo hi m a b c d (H.out.below hb hz) (by omega)).mono ?_
  rintro e w1 ⟨rfl, hb1⟩
  have HB1 := Lib.hid (hb.trans (hb1.mono hzw))
  have X1 := Lib.hid (x1.below hb1)
  have hzq1 := hb1.size
  clear hb hb1 x1
  obtain ⟨c0, c1, c2⟩ := X1.out.cells
  have hxl := X1.out.lt
  cases qm : M.mazeB m with
  | false =>
    have HQ : Hid (M.makesB m s o ch = false) := Lib.hid (by unfold M.makesB M.askB; rw [qm]; rfl)
    have HV := Lib.hid (M.fillW_no (fw := true) HQ.out)
    clear qm
    go_wp2_with fail
    go_ret2
    rw [HV.out, HQ.out]
    exact intsOk_end (l := []) (ownsRow_empty _ _ _ _ (by omega)) (HB1.out.alloc (by omega) _)
  | true =>
    have HM := Lib.hid qm
    clear qm
    go_wp2_with fail
    refine (isSet_any _ _).mono ?_
    rintro e w2 ⟨rfl, rfl⟩
    cases qs : M.setB s with
    | false =>
      have HQ : Hid (M.makesB m s o ch = false) := Lib.hid (by unfold M.makesB M.askB; rw [qs, Bool.and_false]; rfl)
      have HV := Lib.hid (M.fillW_no (fw := true) HQ.out)
      clear qs
      go_wp2_with fail
      go_ret2
      rw [HV.out, HQ.out]
      exact intsOk_end (l := []) (ownsRow_empty _ _ _ _ (by omega)) (HB1.out.alloc (by omega) _)
    | true =>
      have HA : Hid (M.askB m s = true) := Lib.hid (by unfold M.askB; rw [qs, HM.out]; rfl)
      have HS := Lib.hid qs
      have HOR := Lib.hid (isOrder_any w1 s qs ol oh oa oc o (HO.out.below HB1.out hzo) (by omega) hlo)
      clear qs
      go_wp2_with fail
      refine HOR.out.mono ?_
      rintro e w2 ⟨rfl, hb2⟩
      have HB2 := Lib.hid (HB1.out.trans (hb2.mono (by omega)))
      have X2 := Lib.hid (X1.out.below hb2)
      have hzz2 := hb2.size
      clear hb2 HOR c0 c1 c2 X1
      obtain ⟨c0, c1, c2⟩ := X2.out.cells
      cases qo : M.orderSB s o with
      | false =>
        have HQ : Hid (M.makesB m s o ch = false) := Lib.hid (by unfold M.makesB; rw [qo, HA.out]; rfl)
        have HV := Lib.hid (M.fillW_no (fw := true) HQ.out)
        clear qo
        go_wp2_with fail
        go_ret2
        rw [HV.out, HQ.out]
        exact intsOk_end (l := []) (ownsRow_empty _ _ _ _ (by omega)) (HB2.out.alloc (by omega) _)
      | true =>
        have HOQ := Lib.hid qo
        have HCH := Lib.hid (areCh_any w2 o.length hlo cl ch' ca cc ch (HC.out.below HB2.out hzc) (by omega) hlc)
        clear qo
        go_wp2_with fail
        refine HCH.out.mono ?_
        rintro e w5 ⟨rfl, hb5⟩
        have HB5 := Lib.hid (HB2.out.trans (hb5.mono (by omega)))
        have X5 := Lib.hid (X2.out.below hb5)
        have hzz5 := hb5.size
        clear hb5 HCH c0 c1 c2 X2
        obtain ⟨c0, c1, c2⟩ := X5.out.cells
        cases qc : M.choiceB o.length ch with
        | false =>
          have HQ : Hid (M.makesB m s o ch = false) := Lib.hid (by unfold M.makesB; rw [qc, HOQ.out, HA.out]; rfl)
          have HV := Lib.hid (M.fillW_no (fw := true) HQ.out)
          clear qc
          go_wp2_with fail
          go_ret2
          rw [HV.out, HQ.out]
          exact intsOk_end (l := []) (ownsRow_empty _ _ _ _ (by omega)) (HB5.out.alloc (by omega) _)
        | true =>
          have HQ : Hid (M.makesB m s o ch = true) := Lib.hid (by unfold M.makesB; rw [qc, HOQ.out, HA.out]; rfl)
          have HV := Lib.hid (M.fillW_yes (fw := true) HQ.out)
          obtain ⟨qa, qo, hcn, hcl⟩ := M.makes_yes HQ.out
          have hs := HS.out
          have hor := HOQ.out
          have hv := (M.ask_yes qa).1
          have HVA := Lib.hid hv
          have v12 := hv.size12
          have HKL := Lib.hid hv.keysLen
          have v13 : m.size ≤ (m.keys.length : Int) := by have := hv.keysLen; omega
          have v14 : m.keys.length ≤ 12 := by have := hv.keysLen; omega
          have HN63 := Lib.hid (M.noSet63 hv)
          have ho6 := M.order_len hs hor
          have hm6 := M.many_le s
          have hol6 : o.length ≤ 6 := by omega
          have HOL6 := Lib.hid ho6
          have HOM := Lib.hid (fun x (hx : x ∈ o) => M.order_mem hs hor hx)
          have HCN := Lib.hid hcn
          have HCL := Lib.hid hcl
          have HHS := Lib.hid (fun k (hk : k ≤ o.length) => M.first_set hs (fun x hx => M.order_mem hs hor hx) true k hk)
          have HPA := Lib.hid (M.partV_all hs hor true m ch)
          have HPE := Lib.hid (M.order_perm9 hs hor)
          have hnc : (M.colours s).length = o.length := ho6.symm
          have HNC := Lib.hid hnc
          have hon : o.Nodup := (M.order_perm9 hs hor).nodup_iff.2 (M.colours_nodup s)
          have HPS := Lib.hid (fun L L' k (hk : k < o.length) (hL : ∀ i, i < k → L.getD i 0 = L'.getD i 0) => M.partV_succ (L := L) (L' := L') hon (M.colours_nodup s) (fun c hc => (M.order_perm9 hs hor).mem_iff.2 hc) hk ((M.order_perm9 hs hor).mem_iff.1 (List.getElem_mem hk)) hL)
          clear qc qa qo hv hs hor ho6 hm6 hcn hcl hnc hon
          go_wp2_with fail
          refine (withoutColours_any w5 lo hi m a b c d (H.out.below HB5.out hz) (by omega) _h1 _h2 63).mono ?_
          rw [HN63.out]
          rintro e w3 ⟨na, nc, nb, nd, he, hno, hb3⟩
          have he' : e = .returned (.agg #[.int .i64 m.size, .slice na m.doors.length nc, .slice nb m.keys.length nd]) := by rw [he, M.layS_len]
          subst he'
          clear he
          have hzz3 := hb3.size
          have HB3 := Lib.hid (HB5.out.trans (hb3.mono (by omega)))
          have HNO := Lib.hid (show MzOwn w5.heap.size w3.heap.size w3 (M.layV m o []) na nc nb nd from hno)
          clear hb3 hno c0 c1 c2 X5
          go_upto_region 5 with fail
          refine wp_named ?_
          intro W4 hW4
          have hb4 : Below w3.heap.size w3 W4 := by rw [hW4]; exact below_alloc _ _
          have t4 : Box3 W4 w3.heap.size 27 (.int .i64 m.size) (.slice na m.doors.length nc) (.slice nb m.keys.length nd) := by rw [hW4]; exact Box3.new _ _ _ _ rfl
          have T4 := Lib.hid t4
          have hl4 := t4.lt
          have N4 := Lib.hid (HNO.out.below hb4 (Nat.le_refl _))
          have B4 := Lib.hid (HB3.out.trans (hb4.mono (by omega)))
          have hz4 := hb4.size
          clear hW4 hb4 t4 HNO
          go_wp2_with (at_make; refine wpList_make_full _ rfl _ _ 23 rfl W4.heap.size 3 i0 (.int .i64 0) 1 Try.underlying23 hi0 hz0 hz1 .i64 .i64 _ _ o.length rfl rfl rfl rfl (by rw [hz2]; omega) (by unfold maxLen; omega) (Nat.le_refl _) ?_; intro w7 hown7 hgrow7)
          rw [made_zero] at hown7
          have hb7 : Below W4.heap.size W4 w7 := (Below.refl _ _).grown hgrow7 (Nat.le_refl _) (fun k e => by cases e)
          have hlt7 : W4.heap.size < w7.heap.size := (hown7.lt _ rfl).2
          have S7 := Lib.hid (show FSt w m w5.heap.size w3.heap.size W4.heap.size na nb nc nd w7 (M.layV m o (M.laidTo true m s o ch 0)).keys (M.partV o (M.colours s) (M.laidTo true m s o ch 0) 0) from
            ⟨T4.out.below hb7, (show MzOwn w5.heap.size w3.heap.size W4 ⟨m.size, m.doors, (M.layV m o []).keys⟩ na nc nb nd from N4.out).below hb7 (by omega), by rw [M.partV_zero, HNC.out]; exact OwnAt.of_own0 hown7, ⟨hl4, hlt7⟩, B4.out.trans (hb7.mono B4.out.size)⟩)
          generalize W4.heap.size = fb at *
          clear hown7 hgrow7 hb7 T4 N4 B4
          go_wp2_with fail
          go_loopw [12, 15, 16, 17, 18, 19, 20, 51] (fun v12 _ _ _ _ _ _ v51 wr => ∃ (k : Nat), k ≤ o.length ∧ v51 = .int .i64 (k : Int) ∧ v12 = .int .i64 (M.handAt s o k) ∧ FSt w m w5.heap.size w3.heap.size fb na nb nc nd wr (M.layV m o (M.laidTo true m s o ch k)).keys (M.partV o (M.colours s) (M.laidTo true m s o ch k) k)) (fun _ _ _ _ _ _ _ v51 _ => o.length - (intOf v51).toNat)
          case atStart => exact ⟨0, Nat.zero_le _, rfl, rfl, S7.out⟩
          case round =>
            clear S7
            obtain ⟨k, hk, rfl, rfl, hst⟩ := hrel
            have SR := Lib.hid hst
            have hzr := hst.low.size
            have hbg := hst.out.lt
            obtain ⟨hfb1, hfb2⟩ := hst.fbl
            obtain ⟨o0, o1, o2⟩ := hst.out.cells
            clear hst
            by_cases hlt : k < o.length
            · obtain ⟨og, oo, rfl, _, _, hc0⟩ := (HO.out.below SR.out.low hzo).at_ (k := k) (by rw [M.encIs_len]; exact hlt)
              have hco := hc0 k _ (M.encIs_at hlt)
              have hlt' : k < ch.length := by rw [HCL.out]; exact hlt
              obtain ⟨cg, co, rfl, _, hcgh, hd0⟩ := (HC.out.below SR.out.low hzc).at_ (k := k) (by rw [M.encIs_len]; exact hlt')
              have hcc := hd0 k _ (M.encIs_at hlt')
              obtain ⟨hy0, hy5⟩ := HOM.out o[k] (List.getElem_mem _)
              have hq0 := HCN.out ch[k] (List.getElem_mem _)
              obtain ⟨hw1, hw2⟩ := bit_facts hy0 hy5
              have HHK : bits .andNot .i64 (M.handAt s o k) (M.bitI o[k]) = M.handAt s o (k + 1) := by rw [← getD_of hlt]; rfl
              obtain ⟨hs0, hs64⟩ := HHS.out (k + 1) hlt
              have hll := M.laidTo_len true m s o ch k
              have HLS : Hid (M.laidTo true m s o ch (k + 1) = M.laidTo true m s o ch k ++ [(M.freeAt true m s o (M.laidTo true m s o ch k)).getD (ch[k].toNat % (M.freeAt true m s o (M.laidTo true m s o ch k)).length) 0]) := Lib.hid (by rw [← getD_of hlt']; rfl)
              have HFR : Hid (M.freeAt true m s o (M.laidTo true m s o ch k) = M.reachOf (M.layV m o (M.laidTo true m s o ch k)) 0 (M.finC (M.layV m o (M.laidTo true m s o ch k)) (M.firstAt true s o (k + 1)))) := Lib.hid (by unfold M.freeAt; rw [hll])
              have hfl : (M.freeAt true m s o (M.laidTo true m s o ch k)).length ≤ 12 := by unfold M.freeAt M.reachOf; exact M.rchL_len _ _ _
              have hpos := M.free_pos (fw := true) HVA.out (s := s) (o := o) (l := M.laidTo true m s o ch k) (by omega) HOM.out
              have HFN := Lib.hid (fun y hy => M.free_node (fw := true) HVA.out (s := s) (o := o) (l := M.laidTo true m s o ch k) (by omega) HOM.out (y := y) hy)
              have HLV := Lib.hid (M.layV_valid (m := m) HVA.out (cs := o) (fs := M.laidTo true m s o ch k) (by omega) HOM.out)
              have HFI : Hid (M.firstAt true s o (k + 1) = 0) := Lib.hid rfl
              have HGA := Lib.hid (show ∀ W, Below wr.heap.size wr W → Calls Try.prog 120 #[.agg #[.int .i64 m.size, .slice na m.doors.length nc, .slice nb m.keys.length nd], .int .i64 0] W (GainPost W (M.finC (M.layV m o (M.laidTo true m s o ch k)) (M.firstAt true s o (k + 1))) (M.freeAt true m s o (M.laidTo true m s o ch k)) true) from fun W hb => by
                have h := gain9_any W w5.heap.size w3.heap.size m o (M.laidTo true m s o ch k) HLV.out na nb nc nd ((show MzOwn w5.heap.size w3.heap.size wr (M.layV m o (M.laidTo true m s o ch k)) na nc nb nd from SR.out.own).mz.below hb (by omega)) (by have := hb.size; omega) _ hs0 hs64
                rw [← HFR.out, HFI.out] at h
                rw [HFI.out]
                exact h)
              have HIX : Hid (M.idxV (M.colours s) o[k] = (M.placeL (M.colours s) o[k] : Int)) := Lib.hid (M.idxV_yes (by unfold M.memB; rw [List.contains_iff_mem]; exact HPE.out.mem_iff.1 (List.getElem_mem hlt)))
              have HPL := Lib.hid (M.place_in (HPE.out.mem_iff.1 (List.getElem_mem hlt)))
              have HPK := Lib.hid (fun v => HPS.out (M.laidTo true m s o ch k) (M.laidTo true m s o ch k ++ [v]) k hlt (fun i hi => by rw [List.getD_eq_getElem?_getD, List.getD_eq_getElem?_getD, List.getElem?_append_left (by rw [hll]; exact hi)]))
              have HGV : Hid (∀ v : Int, (M.laidTo true m s o ch k ++ [v]).getD k 0 = v) := Lib.hid (fun v => by rw [List.getD_eq_getElem?_getD, List.getElem?_append_right (by rw [hll]; exact Nat.le_refl _), hll, Nat.sub_self]; rfl)
              have HLL := Lib.hid hll
              have HOK := Lib.hid (getD_of hlt)
              obtain ⟨qn, hqn⟩ : ∃ qn : Nat, ch[k] = (qn : Int) := ⟨ch[k].toNat, by omega⟩
              rw [hqn] at hcc HLS
              rw [Int.toNat_natCast] at HLS
              clear hc0 hd0 hll hqn hq0
              generalize hL : M.laidTo true m s o ch k = L at *
              have HL := Lib.hid hL
              clear hL HLV HFR HFI
              generalize M.freeAt true m s o L = F at *
              generalize o[k] = y at *
              generalize M.handAt s o k = h0 at *
              generalize hH1 : M.handAt s o (k + 1) = h1 at *
              have HH1 := Lib.hid hH1
              clear hH1 hs0 hs64
              generalize M.firstAt true s o (k + 1) = f1 at *
              have hml := Nat.mod_lt qn hpos
              rw [getD_of hml] at HLS
              have hvn := HFN.out F[qn % F.length] (List.getElem_mem _)
              obtain ⟨x, hx⟩ : ∃ x : Nat, F[qn % F.length] = (x : Int) := ⟨F[qn % F.length].toNat, by omega⟩
              go_wp2_with fail
              refine wp_region_late2 (fun (wq : World) => wq.cell? ⟨w3.heap.size, 0, none⟩ = some (.int .i64 m.size) ∧ wq.cell? ⟨w3.heap.size, 1, none⟩ = some (.slice na m.doors.length nc) ∧ wq.cell? ⟨w3.heap.size, 2, none⟩ = some (.slice nb m.keys.length nd)) [] 12 #[false, false, false, false, false, false, false, false, false, false, false, false] rfl rfl (by kernel_rfl) ?_
              have hS : (fun (wq : World) => wq.cell? ⟨w3.heap.size, 0, none⟩ = some (.int .i64 m.size) ∧ wq.cell? ⟨w3.heap.size, 1, none⟩ = some (.slice na m.doors.length nc) ∧ wq.cell? ⟨w3.heap.size, 2, none⟩ = some (.slice nb m.keys.length nd)) wr.drew := ⟨o0, o1, o2⟩
              refine wpAnyL_take (i := 0) (oi := { dst := some 61, op := Go.Op.load 27 (Go.Operand.tmp 13), type := 27, pos := "l9_filling.go:176", after := #[], guard := none }) (v := ?pv0) rfl (by kernel_rfl) (by kernel_rfl) (by kernel_rfl) (by kernel_rfl) (fun _ _ _ h => h) (Or.inl ⟨by rfl, ?ph0⟩) hS ?pr0
              case ph0 => (intro wS hSw; (try dsimp only at hSw); go_split_ands; go_simp; try with_reducible rfl)
              try simp only [Act.put, List.setIfInBounds_toArray, List.set_cons_zero, List.set_cons_succ]
              refine wpAnyL_take (i := 1) (oi := { dst := some 62, op := Go.Op.move (Go.Operand.tmp 4), type := 90, pos := "l9_filling.go:176", after := #[], guard := none }) (v := ?pv1) rfl (by kernel_rfl) (by kernel_rfl) (by kernel_rfl) (by kernel_rfl) (fun _ _ _ h => h) (Or.inl ⟨by rfl, ?ph1⟩) hS ?pr1
              case ph1 => (intro wS hSw; (try dsimp only at hSw); go_split_ands; go_simp; try with_reducible rfl)
              try simp only [Act.put, List.setIfInBounds_toArray, List.set_cons_zero, List.set_cons_succ]
              refine wpAnyL_take (i := 2) (oi := { dst := some 63, op := Go.Op.move (Go.Operand.tmp 12), type := 92, pos := "l9_filling.go:176", after := #[], guard := none }) (v := ?pv2) rfl (by kernel_rfl) (by kernel_rfl) (by kernel_rfl) (by kernel_rfl) (fun _ _ _ h => h) (Or.inl ⟨by rfl, ?ph2⟩) hS ?pr2
              case ph2 => (intro wS hSw; (try dsimp only at hSw); go_split_ands; go_simp; try with_reducible rfl)
              try simp only [Act.put, List.setIfInBounds_toArray, List.set_cons_zero, List.set_cons_succ]
              refine wpAnyL_one (i := 3) (oi := { dst := some 64, op := Go.Op.call { callee := Go.Callee.value (Go.Operand.tmp 62), args := #[Go.Operand.tmp 63], argTypes := #[92] }, type := 3, pos := "l9_filling.go:176", after := #[{ on := 1, ground := Go.Ground.data }, { on := 2, ground := Go.Ground.data }], guard := none }) (by kernel_rfl) rfl (fun Kp3 hKp3 => ?_)
              refine step_call (by rfl) 88 #[.int .i64 h1] (by go_simp; try rfl) (empty_any h1 _) ?_
              rintro e w2 ⟨rfl, rfl⟩
              refine ⟨_, rfl, ?_⟩
              have hx6 : (fun (wq : World) => wq.cell? ⟨w3.heap.size, 0, none⟩ = some (.int .i64 m.size) ∧ wq.cell? ⟨w3.heap.size, 1, none⟩ = some (.slice na m.doors.length nc) ∧ wq.cell? ⟨w3.heap.size, 2, none⟩ = some (.slice nb m.keys.length nd)) wr.drew := hS
              refine hKp3 _ _ (fun _ => hx6) ?_
              clear hS
              have hS := hx6
              try simp only [Act.put, List.setIfInBounds_toArray, List.set_cons_zero, List.set_cons_succ]
              refine wpAnyL_one (i := 4) (oi := { dst := some 65, op := Go.Op.call { callee := Go.Callee.value (Go.Operand.func 120), args := #[Go.Operand.tmp 61, Go.Operand.tmp 64], argTypes := #[27, 3] }, type := 119, pos := "l9_filling.go:176", after := #[{ on := 0, ground := Go.Ground.data }, { on := 3, ground := Go.Ground.data }, { on := 3, ground := Go.Ground.chain }], guard := none }) (by kernel_rfl) rfl (fun Kp4 hKp4 => ?_)
              refine step_call (by rfl) 120 #[.agg #[.int .i64 m.size, .slice na m.doors.length nc, .slice nb m.keys.length nd], .int .i64 0] (by go_simp; try rfl) (HGA.out _ (below_drawn wr 1)) ?_
              rintro e w6 ⟨fa, fc, rfl, hfo, hf1, hf2, hb6⟩
              refine ⟨_, rfl, ?_⟩
              have hb6x : Below wr.heap.size wr w6 := (below_drawn wr 1).trans (hb6.mono (Nat.le_refl _))
              have S6 := Lib.hid (SR.out.later hb6x)
              have hx7 : (fun (wq : World) => wq.cell? ⟨w3.heap.size, 0, none⟩ = some (.int .i64 m.size) ∧ wq.cell? ⟨w3.heap.size, 1, none⟩ = some (.slice na m.doors.length nc) ∧ wq.cell? ⟨w3.heap.size, 2, none⟩ = some (.slice nb m.keys.length nd)) w6 := S6.out.out.cells
              refine hKp4 _ _ (fun _ => hx7) ?_
              clear hS
              have hS := hx7
              try simp only [Act.put, List.setIfInBounds_toArray, List.set_cons_zero, List.set_cons_succ]
              refine wpAnyL_take (i := 5) (oi := { dst := some 60, op := Go.Op.move (Go.Operand.tmp 65), type := 119, pos := "l9_filling.go:176", after := #[{ on := 4, ground := Go.Ground.data }], guard := none }) (v := ?pv5) rfl (by kernel_rfl) (by kernel_rfl) (by kernel_rfl) (by kernel_rfl) (fun _ _ _ h => h) (Or.inl ⟨by rfl, ?ph5⟩) hS ?pr5
              case ph5 => (intro wS hSw; (try dsimp only at hSw); go_split_ands; go_simp; try with_reducible rfl)
              try simp only [Act.put, List.setIfInBounds_toArray, List.set_cons_zero, List.set_cons_succ]
              refine wpAnyL_take (i := 6) (oi := { dst := some 66, op := Go.Op.extract (Go.Operand.tmp 60) 0, type := 3, pos := "l9_filling.go:176", after := #[{ on := 5, ground := Go.Ground.data }], guard := none }) (v := ?pv6) rfl (by kernel_rfl) (by kernel_rfl) (by kernel_rfl) (by kernel_rfl) (fun _ _ _ h => h) (Or.inl ⟨by rfl, ?ph6⟩) hS ?pr6
              case ph6 => (intro wS hSw; (try dsimp only at hSw); go_split_ands; go_simp; try with_reducible rfl)
              try simp only [Act.put, List.setIfInBounds_toArray, List.set_cons_zero, List.set_cons_succ]
              refine wpAnyL_take (i := 7) (oi := { dst := some 67, op := Go.Op.extract (Go.Operand.tmp 60) 1, type := 23, pos := "l9_filling.go:176", after := #[{ on := 5, ground := Go.Ground.data }, { on := 9, ground := Go.Ground.gcOnly Go.Departure.lateStores }], guard := none }) (v := ?pv7) rfl (by kernel_rfl) (by kernel_rfl) (by kernel_rfl) (by kernel_rfl) (fun _ _ _ h => h) (Or.inl ⟨by rfl, ?ph7⟩) hS ?pr7
              case ph7 => (intro wS hSw; (try dsimp only at hSw); go_split_ands; go_simp; try with_reducible rfl)
              try simp only [Act.put, List.setIfInBounds_toArray, List.set_cons_zero, List.set_cons_succ]
              refine wpAnyL_take (i := 8) (oi := { dst := some 68, op := Go.Op.extract (Go.Operand.tmp 60) 2, type := 4, pos := "l9_filling.go:176", after := #[{ on := 5, ground := Go.Ground.data }, { on := 10, ground := Go.Ground.gcOnly Go.Departure.lateStores }], guard := none }) (v := ?pv8) rfl (by kernel_rfl) (by kernel_rfl) (by kernel_rfl) (by kernel_rfl) (fun _ _ _ h => h) (Or.inl ⟨by rfl, ?ph8⟩) hS ?pr8
              case ph8 => (intro wS hSw; (try dsimp only at hSw); go_split_ands; go_simp; try with_reducible rfl)
              try simp only [Act.put, List.setIfInBounds_toArray, List.set_cons_zero, List.set_cons_succ]
              refine wpAnyL_take (i := 9) (oi := { dst := some 17, op := Go.Op.assign (Go.Operand.tmp 66), type := 3, pos := "l9_filling.go:176", after := #[{ on := 6, ground := Go.Ground.data }, { on := 4, ground := Go.Ground.chain }, { on := 0, ground := Go.Ground.phase }, { on := 1, ground := Go.Ground.phase }, { on := 2, ground := Go.Ground.phase }, { on := 3, ground := Go.Ground.phase }, { on := 4, ground := Go.Ground.phase }, { on := 5, ground := Go.Ground.phase }, { on := 6, ground := Go.Ground.phase }, { on := 7, ground := Go.Ground.textOnly Go.Departure.lateStores }, { on := 8, ground := Go.Ground.textOnly Go.Departure.lateStores }], guard := none }) (v := ?pv9) rfl (by kernel_rfl) (by kernel_rfl) (by kernel_rfl) (by kernel_rfl) (fun _ _ _ h => h) (Or.inl ⟨by rfl, ?ph9⟩) hS ?pr9
              case ph9 => (intro wS hSw; (try dsimp only at hSw); go_split_ands; go_simp; try with_reducible rfl)
              try simp only [Act.put, List.setIfInBounds_toArray, List.set_cons_zero, List.set_cons_succ]
              refine wpAnyL_take (i := 10) (oi := { dst := some 18, op := Go.Op.assign (Go.Operand.tmp 67), type := 23, pos := "l9_filling.go:176", after := #[{ on := 7, ground := Go.Ground.data }, { on := 9, ground := Go.Ground.chain }, { on := 0, ground := Go.Ground.phase }, { on := 1, ground := Go.Ground.phase }, { on := 2, ground := Go.Ground.phase }, { on := 3, ground := Go.Ground.phase }, { on := 4, ground := Go.Ground.phase }, { on := 5, ground := Go.Ground.phase }, { on := 6, ground := Go.Ground.phase }, { on := 7, ground := Go.Ground.phase }, { on := 8, ground := Go.Ground.textOnly Go.Departure.lateStores }, { on := 9, ground := Go.Ground.phase }], guard := none }) (v := ?pv10) rfl (by kernel_rfl) (by kernel_rfl) (by kernel_rfl) (by kernel_rfl) (fun _ _ _ h => h) (Or.inl ⟨by rfl, ?ph10⟩) hS ?pr10
              case ph10 => (intro wS hSw; (try dsimp only at hSw); go_split_ands; go_simp; try with_reducible rfl)
              try simp only [Act.put, List.setIfInBounds_toArray, List.set_cons_zero, List.set_cons_succ]
              refine wpAnyL_take (i := 11) (oi := { dst := some 19, op := Go.Op.assign (Go.Operand.tmp 68), type := 4, pos := "l9_filling.go:176", after := #[{ on := 8, ground := Go.Ground.data }, { on := 10, ground := Go.Ground.chain }, { on := 0, ground := Go.Ground.phase }, { on := 1, ground := Go.Ground.phase }, { on := 2, ground := Go.Ground.phase }, { on := 3, ground := Go.Ground.phase }, { on := 4, ground := Go.Ground.phase }, { on := 5, ground := Go.Ground.phase }, { on := 6, ground := Go.Ground.phase }, { on := 7, ground := Go.Ground.phase }, { on := 8, ground := Go.Ground.phase }, { on := 9, ground := Go.Ground.phase }, { on := 10, ground := Go.Ground.phase }], guard := none }) (v := ?pv11) rfl (by kernel_rfl) (by kernel_rfl) (by kernel_rfl) (by kernel_rfl) (fun _ _ _ h => h) (Or.inl ⟨by rfl, ?ph11⟩) hS ?pr11
              case ph11 => (intro wS hSw; (try dsimp only at hSw); go_split_ands; go_simp; try with_reducible rfl)
              try simp only [Act.put, List.setIfInBounds_toArray, List.set_cons_zero, List.set_cons_succ]
              refine wpAnyL_done (by kernel_rfl) ?_ _
              have hz6 := hb6x.size
              have C6 := (hb6x.cell (p := ⟨cg, co + k, none⟩) (show cg < _ by omega)).trans hcc
              obtain ⟨fg, fo, rfl, _, _, he0⟩ := hfo.row.at_ (k := qn % F.length) (by rw [M.encIs_len]; exact hml)
              have E6 := he0 _ _ (M.encIs_at hml)
              rw [hx] at E6
              have hmi : ((qn : Int)).tmod (F.length : Int) = ((qn % F.length : Nat) : Int) := (Int.ofNat_tmod qn F.length).symm
              have hni : ¬ ((F.length : Int) = 0) := by omega
              have hmk : ((qn % F.length : Nat) : Int) < (F.length : Int) := by omega
              rw [hx] at HLS hvn
              obtain ⟨hvn0, hvn1⟩ := hvn
              have hxk : x < m.keys.length := by omega
              have hgx : (L ++ [(x : Int)]).getD k 0 = (x : Int) := HGV.out _
              have HKS := Lib.hid (M.layV_snoc m o L (x : Int))
              rw [HLL.out, HOK.out, Int.toNat_natCast] at HKS
              obtain ⟨g, off, rfl, hg1, hg2, hk0⟩ := S6.out.own.keys.row.at_ (k := x) (by rw [M.encIs_len]; show x < (M.layV m o L).keys.length; rw [layV_keys]; exact hxk)
              have hkx : x < (M.layV m o L).keys.length := by rw [layV_keys]; exact hxk
              have hcu := hk0 x _ (M.encIs_at hkx)
              have hfu := S6.out.own.keys.free rfl (k := x) (by rw [M.encIs_len]; exact hkx) (off + x)
              have hgk : (M.layV m o L).keys.getD x 0 = (M.layV m o L).keys[x] := getD_of hkx
              have s7 := S6.out.setK (by omega) hg1 hg2 (k := x) hkx (bits .or .i64 ((M.layV m o L).keys.getD x 0) (M.bitI y))
              rw [← HKS.out, hgk] at s7
              have S7 := Lib.hid s7
              have HPK1 := Lib.hid (HPK.out (x : Int))
              rw [hgx] at HPK1
              obtain ⟨q0, q1, q2⟩ := S6.out.out.cells
              have hpl := HPL.out
              rw [HNC.out] at hpl
              have hpn : ∀ l : List Int, (M.partV o (M.colours s) l k).length = o.length := fun l => by rw [M.partV_len]; exact HNC.out
              have HPN := Lib.hid hpn
              clear hk0 he0 hfo hb6 s7 hgk hx hcc hco hpn hgx HKS
              generalize hu : (M.layV m o L).keys[x] = u at *
              clear hu
              generalize hrm : qn % F.length = rm at *
              clear hrm
              generalize M.placeL (M.colours s) y = pl at *
              go_wp2_with fail
              refine wp_region_late2 (fun (wq : World) => (wq.cell? ⟨w3.heap.size, 2, none⟩ = some (.slice (some ⟨g, off, none⟩) m.keys.length nd)) ∧ wq.cell? ⟨g, off + x, none⟩ = some (.int .i64 u)) [9] 10 #[false, false, false, false, false, false, false, false, false, false] rfl rfl (by kernel_rfl) ?_
              have hS : (fun (wq : World) => (wq.cell? ⟨w3.heap.size, 2, none⟩ = some (.slice (some ⟨g, off, none⟩) m.keys.length nd)) ∧ wq.cell? ⟨g, off + x, none⟩ = some (.int .i64 u)) w6.drew := ⟨q2, hcu⟩
              refine wpAnyL_take (i := 0) (oi := { dst := some 79, op := Go.Op.fieldAddr 27 (Go.Operand.tmp 13) 2, type := 0, pos := "l9_filling.go:179", after := #[], guard := none }) (v := ?tv0) rfl (by kernel_rfl) (by kernel_rfl) (by kernel_rfl) (by kernel_rfl) (fun _ _ _ h => h) (Or.inl ⟨by rfl, ?th0⟩) hS ?tr0
              case th0 => (intro wS hSw; (try dsimp only at hSw); go_split_ands; go_simp; try with_reducible rfl)
              try simp only [Act.put, List.setIfInBounds_toArray, List.set_cons_zero, List.set_cons_succ]
              refine wpAnyL_take (i := 1) (oi := { dst := some 80, op := Go.Op.load 23 (Go.Operand.tmp 79), type := 23, pos := "l9_filling.go:179", after := #[{ on := 0, ground := Go.Ground.data }], guard := none }) (v := ?tv1) rfl (by kernel_rfl) (by kernel_rfl) (by kernel_rfl) (by kernel_rfl) (fun _ _ _ h => h) (Or.inl ⟨by rfl, ?th1⟩) hS ?tr1
              case th1 => (intro wS hSw; (try dsimp only at hSw); go_split_ands; go_simp; try with_reducible rfl)
              try simp only [Act.put, List.setIfInBounds_toArray, List.set_cons_zero, List.set_cons_succ]
              refine wpAnyL_take (i := 2) (oi := { dst := some 81, op := Go.Op.move (Go.Operand.tmp 20), type := 3, pos := "l9_filling.go:179", after := #[], guard := none }) (v := ?tv2) rfl (by kernel_rfl) (by kernel_rfl) (by kernel_rfl) (by kernel_rfl) (fun _ _ _ h => h) (Or.inl ⟨by rfl, ?th2⟩) hS ?tr2
              case th2 => (intro wS hSw; (try dsimp only at hSw); go_split_ands; go_simp; try with_reducible rfl)
              try simp only [Act.put, List.setIfInBounds_toArray, List.set_cons_zero, List.set_cons_succ]
              refine wpAnyL_take (i := 3) (oi := { dst := some 82, op := Go.Op.indexAddr 23 (Go.Operand.tmp 80) (Go.Operand.tmp 81), type := 0, pos := "l9_filling.go:179", after := #[{ on := 1, ground := Go.Ground.data }, { on := 2, ground := Go.Ground.data }], guard := none }) (v := ?tv3) rfl (by kernel_rfl) (by kernel_rfl) (by kernel_rfl) (by kernel_rfl) (fun _ _ _ h => h) (Or.inl ⟨by rfl, ?th3⟩) hS ?tr3
              case th3 => (intro wS hSw; (try dsimp only at hSw); go_split_ands; go_simp; try with_reducible rfl)
              try simp only [Act.put, List.setIfInBounds_toArray, List.set_cons_zero, List.set_cons_succ]
              refine wpAnyL_take (i := 4) (oi := { dst := some 83, op := Go.Op.load 3 (Go.Operand.tmp 82), type := 3, pos := "l9_filling.go:179", after := #[{ on := 3, ground := Go.Ground.data }], guard := none }) (v := ?tv4) rfl (by kernel_rfl) (by kernel_rfl) (by kernel_rfl) (by kernel_rfl) (fun _ _ _ h => h) (Or.inl ⟨by rfl, ?th4⟩) hS ?tr4
              case th4 => (intro wS hSw; (try dsimp only at hSw); go_split_ands; go_simp; try with_reducible rfl)
              try simp only [Act.put, List.setIfInBounds_toArray, List.set_cons_zero, List.set_cons_succ]
              refine wpAnyL_take (i := 5) (oi := { dst := some 84, op := Go.Op.move (Go.Operand.tmp 16), type := 3, pos := "l9_filling.go:179", after := #[], guard := none }) (v := ?tv5) rfl (by kernel_rfl) (by kernel_rfl) (by kernel_rfl) (by kernel_rfl) (fun _ _ _ h => h) (Or.inl ⟨by rfl, ?th5⟩) hS ?tr5
              case th5 => (intro wS hSw; (try dsimp only at hSw); go_split_ands; go_simp; try with_reducible rfl)
              try simp only [Act.put, List.setIfInBounds_toArray, List.set_cons_zero, List.set_cons_succ]
              refine wpAnyL_take (i := 6) (oi := { dst := some 85, op := Go.Op.binOp Go.BinOp.shl 3 (Go.Operand.const (Go.Value.int Go.IntKind.i64 1)) (Go.Operand.tmp 84) 3, type := 3, pos := "l9_filling.go:179", after := #[{ on := 5, ground := Go.Ground.data }], guard := none }) (v := ?tv6) rfl (by kernel_rfl) (by kernel_rfl) (by kernel_rfl) (by kernel_rfl) (fun _ _ _ h => h) (Or.inl ⟨by rfl, ?th6⟩) hS ?tr6
              case th6 => (intro wS hSw; (try dsimp only at hSw); go_split_ands; go_simp; try with_reducible rfl)
              try simp only [Act.put, List.setIfInBounds_toArray, List.set_cons_zero, List.set_cons_succ]
              refine wpAnyL_take (i := 7) (oi := { dst := some 86, op := Go.Op.binOp Go.BinOp.or 3 (Go.Operand.tmp 83) (Go.Operand.tmp 85) 3, type := 3, pos := "l9_filling.go:179", after := #[{ on := 4, ground := Go.Ground.data }, { on := 6, ground := Go.Ground.data }], guard := none }) (v := ?tv7) rfl (by kernel_rfl) (by kernel_rfl) (by kernel_rfl) (by kernel_rfl) (fun _ _ _ h => h) (Or.inl ⟨by rfl, ?th7⟩) hS ?tr7
              case th7 => (intro wS hSw; (try dsimp only at hSw); go_split_ands; go_simp; try with_reducible rfl)
              try simp only [Act.put, List.setIfInBounds_toArray, List.set_cons_zero, List.set_cons_succ]
              refine wpAnyL_take (i := 8) (oi := { dst := some 87, op := Go.Op.indexAddr 23 (Go.Operand.tmp 80) (Go.Operand.tmp 81), type := 0, pos := "l9_filling.go:179", after := #[{ on := 1, ground := Go.Ground.data }, { on := 2, ground := Go.Ground.data }, { on := 0, ground := Go.Ground.phase }, { on := 1, ground := Go.Ground.phase }, { on := 2, ground := Go.Ground.phase }, { on := 3, ground := Go.Ground.phase }, { on := 4, ground := Go.Ground.phase }, { on := 5, ground := Go.Ground.phase }, { on := 6, ground := Go.Ground.phase }, { on := 7, ground := Go.Ground.phase }], guard := none }) (v := ?tv8) rfl (by kernel_rfl) (by kernel_rfl) (by kernel_rfl) (by kernel_rfl) (fun _ _ _ h => h) (Or.inl ⟨by rfl, ?th8⟩) hS ?tr8
              case th8 => (intro wS hSw; (try dsimp only at hSw); go_split_ands; go_simp; try with_reducible rfl)
              try simp only [Act.put, List.setIfInBounds_toArray, List.set_cons_zero, List.set_cons_succ]
              refine wpAnyL_one (i := 9) (oi := { dst := none, op := Go.Op.store 3 (Go.Operand.tmp 87) (Go.Operand.tmp 86), type := 0, pos := "l9_filling.go:179", after := #[{ on := 8, ground := Go.Ground.data }, { on := 7, ground := Go.Ground.data }, { on := 0, ground := Go.Ground.phase }, { on := 1, ground := Go.Ground.phase }, { on := 2, ground := Go.Ground.phase }, { on := 3, ground := Go.Ground.phase }, { on := 4, ground := Go.Ground.phase }, { on := 5, ground := Go.Ground.phase }, { on := 6, ground := Go.Ground.phase }, { on := 7, ground := Go.Ground.phase }], guard := none }) (by kernel_rfl) rfl (fun Kt9 hKt9 => ?_)
              go_simp
              refine hKt9 _ _ (fun h => absurd h (by decide)) ?_
              refine wpAnyL_done (by kernel_rfl) ?_ _
              go_wp2_with fail
              refine (placeOf_any s y _).mono ?_
              rintro e w8 ⟨rfl, hb8⟩
              rw [HIX.out]
              have S8 := Lib.hid (S7.out.drawn1.later hb8)
              obtain ⟨z8, hz8a, hz8b, hz8c⟩ := S8.out.row.cell0 (k := pl) (by rw [M.encIs_len, HPN.out]; exact hpl)
              have hl8 := S8.out.fbl.2
              have hplo : (pl : Int) < (o.length : Int) := by omega
              have S9 := Lib.hid (S8.out.setF (by omega) pl (x : Int))
              rw [← HPK1.out, ← HLS.out] at S9
              clear hb8 hz8a
              go_wp2_with fail
              go_roundw
              case rel => exact ⟨k + 1, by omega, by go_num, by rw [HH1.out], S9.out⟩
              case measure => simp [intOf]; omega
            · obtain rfl : k = o.length := by omega
              have hrow := SR.out.row
              rw [HPA.out] at hrow
              have HRW := Lib.hid hrow
              have HFL := Lib.hid (M.fillV_len true m s o ch)
              have HNL := Lib.hid (show o.length = M.manyC s from HOL6.out)
              clear hrow
              go_wp2_with fail
              go_ret2
              rw [HV.out, HQ.out]
              exact ⟨some ⟨fb, 0, none⟩, o.length, by rw [HFL.out, ← HNL.out]; rfl, HRW.out.mono (by omega) (by omega), by rw [HFL.out, ← HNL.out]; exact Nat.le_refl _, by omega, SR.out.low⟩
end C
end Go.Proofs.Ytddpjjdncmokmaa
