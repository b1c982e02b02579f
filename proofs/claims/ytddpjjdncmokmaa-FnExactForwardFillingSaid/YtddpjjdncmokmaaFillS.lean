/-
  CONTRACTS of the model's l9Fill, AssumedFilling, ForwardFilling. No condition but that the maze and the lists read so.
-/
import Derived.Test.YtddpjjdncmokmaaOrdS9
import Derived.Test.YtddpjjdncmokmaaLayS
import Derived.Test.YtddpjjdncmokmaaWHClose
import Derived.Test.YtddpjjdncmokmaaSwapS
namespace Go.Proofs.Ytddpjjdncmokmaa
open Go.RowKit
namespace C
set_option linter.unusedVariables false
set_option maxHeartbeats 3200000
set_option maxRecDepth 20000
theorem close9_any (w : World) (lo hi : Nat) (m : M.Mz) (cs fs : List Int) (V : M.Valid (M.layV m cs fs)) (a b : Option Addr) (c d : Nat) (h : MzIn lo hi w (M.layV m cs fs) a c b d) (hz : hi ≤ w.heap.size) (s : Int) (h0 : 0 ≤ s) (h1 : s < 64) :
    Calls Try.prog 117 #[.agg #[.int .i64 m.size, .slice a m.doors.length c, .slice b m.keys.length d], .int .i64 s] w (ClosePost w (M.finC (M.layV m cs fs) s) (M.reachOf (M.layV m cs fs) 0 (M.finC (M.layV m cs fs) s))) := by
  have h0 := close_any w lo hi (M.layV m cs fs) a b c d h hz V s h0 h1
  rw [layV_keys] at h0
  exact h0
theorem fill9_call (w : World) (lo hi : Nat) (m : M.Mz) (a b : Option Addr) (c d : Nat) (h : MzIn lo hi w m a c b d) (hz : hi ≤ w.heap.size) (_h1 : m.doors.length ≤ 1048576) (_h2 : m.keys.length ≤ 1048576) (V : M.Valid m) (s : Int) (hs : M.setB s = true) (ol oh : Nat) (oa : Option Addr) (oc : Nat) (o : List Int) (ho : RowIn ol oh w oa (M.encIs o)) (hzo : oh ≤ w.heap.size) (hlo : o.length ≤ 1048576) (cl ch' : Nat) (ca : Option Addr) (cc : Nat) (ch : List Int) (hc : RowIn cl ch' w ca (M.encIs ch)) (hzc : ch' ≤ w.heap.size) (hlc : ch.length ≤ 1048576) (hor : M.orderSB s o = true) (hcn : ∀ c ∈ ch, 0 ≤ c) (hcl : ch.length = o.length) (fw : Bool) :
    Calls Try.prog 85 #[.agg #[.int .i64 m.size, .slice a m.doors.length c, .slice b m.keys.length d], .int .i64 s, .slice oa o.length oc, .slice ca ch.length cc, .bool fw] w (IntsPost w (M.fillV fw m s o ch)) := by
  obtain ⟨i0, hi0, hz0, hz1, hz2⟩ := info_parts infoI
  have H := Lib.hid h
  have HO := Lib.hid ho
  have HC := Lib.hid hc
  have HVA := Lib.hid V
  have HKL := Lib.hid V.keysLen
  have v12 := V.size12
  have ho6 := M.order_len hs hor
  have hm6 := M.many_le s
  have hol6 : o.length ≤ 6 := by omega
  have HOM := Lib.hid (fun x (hx : x ∈ o) => M.order_mem hs hor hx)
  have HCN := Lib.hid hcn
  have HCL := Lib.hid hcl
  have HCS := Lib.hid (fun W => colours9_any s hs W)
  have HHS := Lib.hid (fun k (hk : k ≤ o.length) => M.first_set hs (fun x hx => M.order_mem hs hor hx) fw k hk)
  have HFV : Hid (M.fillV fw m s o ch = (M.colours s).map fun c => (M.laidTo fw m s o ch o.length).getD (M.placeL o c) 0) := Lib.hid rfl
  have HCM := Lib.hid (fun x (hx : x ∈ M.colours s) => (M.order_perm9 hs hor).mem_iff.2 hx)
  have hcsl : (M.colours s).length ≤ 6 := hm6
  clear h ho hc V ho6 hor hcn hcl hm6
  go_enter Try.func85, Try.ntmps85
  go_wp2_with fail
  refine wp_named ?_
  intro W hW
  have hb : Below w.heap.size w W := by rw [hW]; exact (below_alloc _ _).alloc (by first | simp | omega) _
  have x1 : Box3 W w.heap.size 27 (.int .i64 m.size) (.slice a m.doors.length c) (.slice b m.keys.length d) := by rw [hW]; exact (Box3.new _ _ _ _ rfl).alloc _
  have r1 : W.ownsRow (w.heap.size + 1) 3 1 (.slice (some ⟨w.heap.size + 1, 0, none⟩) 0 0) 0 (M.encIs (M.laidTo fw m s o ch 0)) := by rw [hW]; have h := ownsRow_empty (w.alloc (.cells #[.int .i64 m.size, .slice a m.doors.length c, .slice b m.keys.length d] 27)) (w.heap.size + 1) 3 1 (by simp); rw [World.size_alloc] at h; exact h
  clear hW
  have X1 := Lib.hid x1
  have R1 := Lib.hid r1
  have HB := Lib.hid hb
  clear x1 r1 hb
  go_loopw [11, 12, 13, 14, 15, 16] (fun v11 v12 v13 _ _ _ wr => ∃ (k : Nat), k ≤ o.length ∧ v13 = .int .i64 (k : Int) ∧ v11 = .int .i64 (M.handAt s o k) ∧ wr.ownsRow (w.heap.size + 1) 3 1 v12 k (M.encIs (M.laidTo fw m s o ch k)) ∧ Box3 wr w.heap.size 27 (.int .i64 m.size) (.slice a m.doors.length c) (.slice b m.keys.length d) ∧ Below w.heap.size w wr) (fun _ _ v13 _ _ _ _ => o.length - (intOf v13).toNat)
  case atStart => exact ⟨0, Nat.zero_le _, rfl, rfl, R1.out, X1.out, HB.out⟩
  case round =>
    clear X1 R1 HB
    obtain ⟨k, hk, rfl, rfl, hown, hx, hlow⟩ := hrel
    obtain ⟨la, lc, hv, hl1, hl2, _⟩ := own_slice hown
    subst hv
    have RO := Lib.hid hown
    have X3 := Lib.hid hx
    have LO := Lib.hid hlow
    have hzr := hlow.size
    have hxl := hx.lt
    obtain ⟨c0, c1, c2⟩ := hx.cells
    clear hown hx hlow
    by_cases hlt : k < o.length
    · obtain ⟨og, oo, rfl, _, _, hc0⟩ := (HO.out.below LO.out hzo).at_ (k := k) (by rw [M.encIs_len]; exact hlt)
      have hco := hc0 k _ (M.encIs_at hlt)
      have hlt' : k < ch.length := by rw [HCL.out]; exact hlt
      obtain ⟨cg, co, rfl, _, hcgh, hd0⟩ := (HC.out.below LO.out hzc).at_ (k := k) (by rw [M.encIs_len]; exact hlt')
      have hcc := hd0 k _ (M.encIs_at hlt')
      obtain ⟨hy0, hy5⟩ := HOM.out o[k] (List.getElem_mem _)
      have hq0 := HCN.out ch[k] (List.getElem_mem _)
      obtain ⟨hw1, hw2⟩ := bit_facts hy0 hy5
      have HHK : bits .andNot .i64 (M.handAt s o k) (M.bitI o[k]) = M.handAt s o (k + 1) := by rw [← getD_of hlt]; rfl
      obtain ⟨hs0, hs64⟩ := HHS.out (k + 1) hlt
      have hll := M.laidTo_len fw m s o ch k
      have HLS : Hid (M.laidTo fw m s o ch (k + 1) = M.laidTo fw m s o ch k ++ [(M.freeAt fw m s o (M.laidTo fw m s o ch k)).getD (ch[k].toNat % (M.freeAt fw m s o (M.laidTo fw m s o ch k)).length) 0]) := Lib.hid (by rw [← getD_of hlt']; rfl)
      have HFR : Hid (M.freeAt fw m s o (M.laidTo fw m s o ch k) = M.reachOf (M.layV m o (M.laidTo fw m s o ch k)) 0 (M.finC (M.layV m o (M.laidTo fw m s o ch k)) (M.firstAt fw s o (k + 1)))) := Lib.hid (by unfold M.freeAt; rw [hll])
      have hfl : (M.freeAt fw m s o (M.laidTo fw m s o ch k)).length ≤ 12 := by unfold M.freeAt M.reachOf; exact M.rchL_len _ _ _
      have hpos := M.free_pos (fw := fw) HVA.out (s := s) (o := o) (l := M.laidTo fw m s o ch k) (by omega) HOM.out
      have HLV := Lib.hid (M.layV_valid (m := m) HVA.out (cs := o) (fs := M.laidTo fw m s o ch k) (by omega) HOM.out)
      have HLN := Lib.hid (M.laidTo_node (fw := fw) (m := m) (s := s) (ch := ch) HVA.out HOM.out k hk)
      have HFI : Hid (M.firstAt fw s o (k + 1) = if fw = true then 0 else M.handAt s o (k + 1)) := Lib.hid rfl
      have HLL := Lib.hid hll
      clear hc0 hd0 hll
      generalize hL : M.laidTo fw m s o ch k = L at *
      have HL := Lib.hid hL
      clear hL
      generalize hF : M.freeAt fw m s o L = F at *
      have HF := Lib.hid hF
      clear hF
      generalize o[k] = y at *
      generalize ch[k] = q at *
      generalize M.handAt s o k = h0 at *
      generalize hH1 : M.handAt s o (k + 1) = h1 at *
      have HH1 := Lib.hid hH1
      clear hH1
      generalize M.firstAt fw s o (k + 1) = f1 at *
      have HLay := Lib.hid (show ∀ W, Below wr.heap.size wr W → Calls Try.prog 54 #[.agg #[.int .i64 m.size, .slice a m.doors.length c, .slice b m.keys.length d], .slice (some ⟨og, oo, none⟩) o.length oc, .slice la k lc] W (LayPost W m o L) from fun W hb => by
        have h := lay9_any W lo hi m a b c d (H.out.below (LO.out.trans (hb.mono hzr)) hz) (by have := hb.size; omega) _h1 _h2 HKL.out v12 ol oh _ oc o (HO.out.below (LO.out.trans (hb.mono hzr)) hzo) (by have := hb.size; omega) HOM.out (by omega) (w.heap.size + 1) wr.heap.size la lc L ((OwnAt.of_own RO.out).row.below hb (Nat.le_refl _)) hb.size (by rw [HLL.out]; omega) (by rw [HLL.out]; omega) HLN.out
        rw [HLL.out] at h
        exact h)
      obtain ⟨qn, rfl⟩ : ∃ qn : Nat, q = (qn : Int) := ⟨q.toNat, by omega⟩
      rw [Int.toNat_natCast] at HLS
      have hml := Nat.mod_lt qn hpos
      rw [getD_of hml] at HLS
      go_upto_region 7 with fail
      cases fw with
      | false =>
        have hf : f1 = h1 := HFI.out
        subst hf
        go_wp2_with fail
        refine (HLay.out _ (Below.refl _ _)).mono ?_
        rintro e w5 ⟨ra, rc, rb, rd, rfl, hmz, hb5⟩
        have MZ := Lib.hid hmz
        have hz5 := hb5.size
        have R5 := Lib.hid (own_below RO.out hb5)
        have X5 := Lib.hid (X3.out.below hb5)
        have L5 := Lib.hid (LO.out.trans (hb5.mono hzr))
        have C5 := (hb5.cell (p := ⟨cg, co + k, none⟩) (show cg < _ by omega)).trans hcc
        clear hmz hb5 hcc hco c0 c1 c2
        go_wp2_with fail
        refine (close9_any w5 _ _ m o L HLV.out ra rb rc rd MZ.out.mz (Nat.le_refl _) _ hs0 hs64).mono ?_
        rintro e w6 hcp
        rw [← HFR.out] at hcp
        obtain ⟨fa, fc, rfl, hfo, hf1, hf2, hb6⟩ := hcp
        have hz6 := hb6.size
        have R6 := Lib.hid (own_below R5.out hb6)
        have X6 := Lib.hid (X5.out.below hb6)
        have L6 := Lib.hid (L5.out.trans (hb6.mono (by omega)))
        have C6 := (hb6.cell (p := ⟨cg, co + k, none⟩) (show cg < _ by omega)).trans C5
        obtain ⟨fg, fo, rfl, _, _, he0⟩ := hfo.row.at_ (k := qn % F.length) (by rw [M.encIs_len]; exact hml)
        have E6 := he0 _ _ (M.encIs_at hml)
        clear hfo he0 hb6 C5
        have hmi : ((qn : Int)).tmod (F.length : Int) = ((qn % F.length : Nat) : Int) := (Int.ofNat_tmod qn F.length).symm
        have hni : ¬ ((F.length : Int) = 0) := by omega
        have hmk : ((qn % F.length : Nat) : Int) < (F.length : Int) := by omega
        generalize hv : F[qn % F.length] = v at *
        generalize hrm : qn % F.length = rm at *
        clear hv hrm
        have R6' := R6.out
        go_wp2_with (at_builtin; refine wpList_append_own _ rfl _ _ 23 rfl (w.heap.size + 1) 3 i0 (.int .i64 0) 1 8 Try.underlying23 hi0 hz0 hz1 hz2 rfl (by decide) _ _ _ rfl (R6'.alloc _) ⟨w6.heap.size, 0, none⟩ 1 1 [.int .i64 v] rfl rfl (cell_one_new _ _ _) (fun x hx => by simp at hx; subst hx; rfl) (by unfold maxLen; omega) (by omega) (by simp; omega) ?_; intro v9 w9 hown9 hgrow9 hnil9)
        go_roundw
        case rel =>
          refine ⟨k + 1, by omega, by go_num, by rw [HH1.out], ?_, (X6.out.alloc _).grown hgrow9 (fun e => by have := own_base R6.out _ e; omega), (L6.out.alloc (by omega) _).grown hgrow9 (by simp; omega) (fun z hz => by have := own_base R6.out z hz; omega)⟩
          rw [HLS.out]
          simpa [M.encIs] using hown9
        case measure => simp [intOf]; omega
      | true =>
        have hf : f1 = 0 := HFI.out
        subst hf
        go_wp2_with fail
        refine (HLay.out _ (Below.refl _ _)).mono ?_
        rintro e w5 ⟨ra, rc, rb, rd, rfl, hmz, hb5⟩
        have MZ := Lib.hid hmz
        have hz5 := hb5.size
        have R5 := Lib.hid (own_below RO.out hb5)
        have X5 := Lib.hid (X3.out.below hb5)
        have L5 := Lib.hid (LO.out.trans (hb5.mono hzr))
        have C5 := (hb5.cell (p := ⟨cg, co + k, none⟩) (show cg < _ by omega)).trans hcc
        clear hmz hb5 hcc hco c0 c1 c2
        go_wp2_with fail
        refine (close9_any w5 _ _ m o L HLV.out ra rb rc rd MZ.out.mz (Nat.le_refl _) _ hs0 hs64).mono ?_
        rintro e w6 hcp
        rw [← HFR.out] at hcp
        obtain ⟨fa, fc, rfl, hfo, hf1, hf2, hb6⟩ := hcp
        have hz6 := hb6.size
        have R6 := Lib.hid (own_below R5.out hb6)
        have X6 := Lib.hid (X5.out.below hb6)
        have L6 := Lib.hid (L5.out.trans (hb6.mono (by omega)))
        have C6 := (hb6.cell (p := ⟨cg, co + k, none⟩) (show cg < _ by omega)).trans C5
        obtain ⟨fg, fo, rfl, _, _, he0⟩ := hfo.row.at_ (k := qn % F.length) (by rw [M.encIs_len]; exact hml)
        have E6 := he0 _ _ (M.encIs_at hml)
        clear hfo he0 hb6 C5
        have hmi : ((qn : Int)).tmod (F.length : Int) = ((qn % F.length : Nat) : Int) := (Int.ofNat_tmod qn F.length).symm
        have hni : ¬ ((F.length : Int) = 0) := by omega
        have hmk : ((qn % F.length : Nat) : Int) < (F.length : Int) := by omega
        generalize hv : F[qn % F.length] = v at *
        generalize hrm : qn % F.length = rm at *
        clear hv hrm
        have R6' := R6.out
        go_wp2_with (at_builtin; refine wpList_append_own _ rfl _ _ 23 rfl (w.heap.size + 1) 3 i0 (.int .i64 0) 1 8 Try.underlying23 hi0 hz0 hz1 hz2 rfl (by decide) _ _ _ rfl (R6'.alloc _) ⟨w6.heap.size, 0, none⟩ 1 1 [.int .i64 v] rfl rfl (cell_one_new _ _ _) (fun x hx => by simp at hx; subst hx; rfl) (by unfold maxLen; omega) (by omega) (by simp; omega) ?_; intro v9 w9 hown9 hgrow9 hnil9)
        go_roundw
        case rel =>
          refine ⟨k + 1, by omega, by go_num, by rw [HH1.out], ?_, (X6.out.alloc _).grown hgrow9 (fun e => by have := own_base R6.out _ e; omega), (L6.out.alloc (by omega) _).grown hgrow9 (by simp; omega) (fun z hz => by have := own_base R6.out z hz; omega)⟩
          rw [HLS.out]
          simpa [M.encIs] using hown9
        case measure => simp [intOf]; omega
    · obtain rfl : k = o.length := by omega
      obtain ⟨wo, rfl⟩ : ∃ x, x = wr := ⟨_, rfl⟩
      have hll := M.laidTo_len fw m s o ch o.length
      have HLL := Lib.hid hll
      generalize M.laidTo fw m s o ch o.length = L at *
      clear hll
      have hlr := (OwnAt.of_own RO.out).row
      have LR := Lib.hid hlr
      clear hlr c0 c1 c2
      go_wp2_with fail
      refine named ?_
      intro W7 hW7
      have hb7 : Below wo.heap.size wo W7 := by rw [hW7]; exact below_alloc _ _
      have hr7 : W7.ownsRow (w.heap.size + 1) 3 1 (.slice (some ⟨wo.heap.size, 0, none⟩) 0 0) 0 [] := by rw [hW7]; exact ownsRow_empty _ _ _ _ (by omega)
      have hz7 : wo.heap.size < W7.heap.size := by rw [hW7]; simp
      have L7 := Lib.hid (LO.out.trans (hb7.mono hzr))
      have LR7 := Lib.hid (LR.out.below hb7 (Nat.le_refl _))
      have HR7 := Lib.hid hr7
      clear hW7 hb7 hr7 X3 RO LO LR
      refine (HCS.out _).mono ?_
      rintro e w8 ⟨qa, qc, rfl, hoc, hoc1, hoc2, hb8⟩
      have QR := Lib.hid hoc.row
      have L8 := Lib.hid (L7.out.trans (hb8.mono (by omega)))
      have LR8 := Lib.hid (LR7.out.below hb8 (by omega))
      have HQ8 := Lib.hid (OwnQ.of_own (own_below HR7.out hb8))
      have hz8 := hb8.size
      clear hoc hb8 L7 LR7 HR7 hoc1 hoc2
      generalize hcs : M.colours s = cs at *
      have HCE := Lib.hid hcs
      clear hcs
      go_wp2_with fail
      go_loopw [17, 19] (fun v17 v19 wr => ∃ (j : Nat), j ≤ cs.length ∧ v19 = .int .i64 (j : Int) ∧ OwnQ (w.heap.size + 1) wr 3 1 v17 j (M.encIs ((cs.map fun c => L.getD (M.placeL o c) 0).take j)) ∧ (∀ z, v17.ownBlock = some z → wo.heap.size ≤ z ∧ (z < W7.heap.size ∨ w8.heap.size ≤ z)) ∧ RowIn W7.heap.size w8.heap.size wr qa (M.encIs cs) ∧ RowIn (w.heap.size + 1) wo.heap.size wr la (M.encIs L) ∧ w8.heap.size ≤ wr.heap.size ∧ Below w.heap.size w wr) (fun _ v19 _ => cs.length - (intOf v19).toNat)
      case atStart => exact ⟨0, Nat.zero_le _, rfl, HQ8.out, fun z hz => (by cases hz; exact ⟨Nat.le_refl _, .inl hz7⟩), QR.out, LR8.out, Nat.le_refl _, L8.out⟩
      case round =>
        clear HQ8 QR LR8 L8
        obtain ⟨j, hj, rfl, hq, hqb, hqr, hlr, hsz, hlow⟩ := hrel
        obtain ⟨ua, uc, hv, hu1, hu2⟩ := hq.shape
        subst hv
        have OQ := Lib.hid hq
        have OB := Lib.hid hqb
        have QR := Lib.hid hqr
        have LR := Lib.hid hlr
        have LO := Lib.hid hlow
        have hzq := hlow.size
        clear hq hqb hqr hlr hlow
        by_cases hjl : j < cs.length
        · obtain ⟨cg, co, rfl, hcg1, hcg2, hc0⟩ := QR.out.at_ (k := j) (by rw [M.encIs_len]; exact hjl)
          have hcc := hc0 j _ (M.encIs_at hjl)
          have hin := HCM.out cs[j] (List.getElem_mem _)
          have hpl := M.place_in hin
          have hpL : M.placeL o cs[j] < L.length := by rw [HLL.out]; exact hpl
          obtain ⟨lg, lo9, rfl, hlg1, hlg2, hd0⟩ := LR.out.at_ (k := M.placeL o cs[j]) (by rw [M.encIs_len]; exact hpL)
          have hdd := hd0 _ _ (M.encIs_at hpL)
          have hmap : (cs.map fun c => L.getD (M.placeL o c) 0).take (j + 1) = (cs.map fun c => L.getD (M.placeL o c) 0).take j ++ [L[M.placeL o cs[j]]] := by
            rw [List.take_succ_eq_append_getElem (by rw [List.length_map]; exact hjl), List.getElem_map, getD_of hpL]
          have HMP := Lib.hid hmap
          have HPL := Lib.hid (place9_any wr ol oh oa oc o cs[j] (HO.out.below LO.out hzo) hin hlo)
          clear hc0 hd0 hmap hin
          rw [HLL.out] at hpL
          generalize M.placeL o cs[j] = p at *
          generalize hv : L[p]'(by rw [HLL.out]; exact hpL) = v at *
          generalize cs[j] = y at *
          clear hv
          go_wp2_with fail
          refine HPL.out.mono ?_
          rintro e w9 ⟨rfl, rfl⟩
          clear HPL
          have OQ' := OQ.out
          go_wp2_with (at_builtin; refine wpList_append_q rfl _ _ 23 rfl (w.heap.size + 1) 3 i0 (.int .i64 0) 1 8 Try.underlying23 hi0 hz0 hz1 hz2 rfl _ _ _ rfl (OQ'.below (below_alloc _ _)) ⟨wr.heap.size, 0, none⟩ 1 [.int .i64 v] rfl rfl (cell_one_new _ _ _) (fun x hx => by simp at hx; subst hx; rfl) (by unfold maxLen; omega) (by omega) (by simp; omega) ?_; intro v' w9 hown9 hgrow9 hnew9)
          go_roundw
          case rel =>
            have hba := below_alloc wr (.cells #[.int .i64 v] 3)
            have hsa : (wr.alloc (.cells #[.int .i64 v] 3)).heap.size = wr.heap.size + 1 := by simp
            have hsz9 := hgrow9.size
            refine ⟨j + 1, by omega, by go_num, ?_, fun z hz => ?_, (QR.out.below hba hsz).grown hgrow9 (by omega) (fun z hz => by have := OB.out z hz; omega), (LR.out.below hba (by omega)).grown hgrow9 (by omega) (fun z hz => by have := OB.out z hz; omega), by omega, (LO.out.trans (hba.mono hzq)).grown hgrow9 (by omega) (fun z hz => by have := OB.out z hz; omega)⟩
            · rw [HMP.out]
              simpa [M.encIs] using hown9
            · rcases hnew9 with h9 | h9
              · exact OB.out z (h9 ▸ hz)
              · rw [h9] at hz; injection hz with hz; omega
          case measure => simp [intOf]; omega
        · obtain rfl : j = cs.length := by omega
          have hown := OQ.out.own rfl
          have hlm : (cs.map fun c => L.getD (M.placeL o c) 0).length = cs.length := List.length_map ..
          rw [show (cs.map fun c => L.getD (M.placeL o c) 0).take cs.length = cs.map fun c => L.getD (M.placeL o c) 0 from List.take_of_length_le (Nat.le_of_eq hlm), ← HFV.out] at hown
          have HOW := Lib.hid hown
          have HFL : Hid ((M.fillV fw m s o ch).length = cs.length) := Lib.hid (by rw [HFV.out]; exact hlm)
          clear hown hlm
          go_wp2_with fail
          go_ret
          exact ⟨ua, uc, by rw [HFL.out]; rfl, HOW.out.mono (by omega) (Nat.le_refl _), by rw [HFL.out]; exact hu1, hu2, LO.out⟩
end C
end Go.Proofs.Ytddpjjdncmokmaa
