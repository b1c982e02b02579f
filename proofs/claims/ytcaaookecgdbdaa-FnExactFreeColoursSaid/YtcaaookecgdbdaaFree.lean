/-
  CONTRACT of impl.FreeColours: the maze without the colours of a set, in memory of its own, or the empty one and false; what lay in memory stays. No condition but that the maze reads so.
-/
import Derived.Test.YtcaaookecgdbdaaDedup
import Derived.Test.YtcaaookecgdbdaaSortW
import Derived.Test.YtcaaookecgdbdaaWoNode
import Derived.Test.YtcaaookecgdbdaaArr2
namespace Go.Proofs.Ytcaaookecgdbdaa
open Go.RowKit
namespace M
theorem newAt_zero (l : List Dr) : newAt l 0 = true := decide_eq_true (.inl rfl)
theorem newAt_succ {l : List Dr} {k : Nat} (hk : k + 1 < l.length) : newAt l (k + 1) = decide (l[k + 1] ≠ l[k]) := by
  unfold newAt
  rw [List.getD_eq_getElem?_getD, List.getElem?_eq_getElem hk, Nat.add_sub_cancel, List.getD_eq_getElem?_getD, List.getElem?_eq_getElem (by omega)]
  simp
end M
namespace C
set_option maxHeartbeats 3200000
set_option maxRecDepth 20000
theorem free1_any (B : Nat) (set x : Int) (w : World) (hc : w.cell? ⟨B, 0, none⟩ = some (.int .i64 set)) :
    Calls Try.prog 86 (#[.int .i64 x] ++ #[.pointer (some ⟨B, 0, none⟩)]) w fun e w' => e = .returned (.int .i64 (M.freeN set x)) ∧ Below w.heap.size w w' := by
  show Calls Try.prog 86 #[.int .i64 x, .pointer (some ⟨B, 0, none⟩)] w _
  go_enter Try.func86, Try.ntmps86
  go_wp2_with fail
  go_ret
  exact ⟨rfl, Below.refl _ _⟩
structure FSt (w : World) (r L bg : Nat) (R : M.Mz) (S : List M.Dr) (ca cb : Option Addr) (cc cd : Nat) (wr : World) (va : Option Addr) (vc : Nat) (ds : List M.Dr) : Prop where
  row : wr.ownsRow (bg + 1) 61 3 (.slice va ds.length vc) ds.length (M.encDs ds)
  res : Box3 wr r 27 (.int .i64 0) (.slice none 0 0) (.slice none 0 0)
  out : Box3 wr bg 27 (.int .i64 R.size) (.slice ca S.length cc) (.slice cb R.keys.length cd)
  doors : OwnAt L bg wr 61 ca (M.encDs S)
  keys : OwnAt L bg wr 3 cb (M.encIs R.keys)
  low : Below w.heap.size w wr
theorem OwnAt.grownFar {lo hi B size n : Nat} {w w' : World} {T e : TypeId} {a : Option Addr} {xs ys : List Value} {v : Value} (h : OwnAt lo hi w T a xs) (ho : w.ownsRow B e size v n ys) (hB : hi ≤ B) (hg : w.grownBy w' v.ownBlock) : OwnAt lo hi w' T a xs := by
  rcases h with h | ⟨g, off, cur, ha, h1, h2, hh, hc⟩
  · exact .inl h
  · exact .inr ⟨g, off, cur, ha, h1, h2, (hg.block g (heap_lt hh) (fun he => by have := own_base ho g he.symm; omega)).trans hh, hc⟩
theorem FSt.later {w : World} {r L bg : Nat} {R : M.Mz} {S : List M.Dr} {ca cb : Option Addr} {cc cd : Nat} {wr wr' : World} {va : Option Addr} {vc : Nat} {ds : List M.Dr} (h : FSt w r L bg R S ca cb cc cd wr va vc ds) (hb : Below wr.heap.size wr wr') : FSt w r L bg R S ca cb cc cd wr' va vc ds :=
  ⟨own_below h.row hb, h.res.below hb, h.out.below hb, h.doors.below hb (Nat.le_of_lt h.out.lt), h.keys.below hb (Nat.le_of_lt h.out.lt), h.low.trans (hb.mono h.low.size)⟩
theorem implFree_lw (w : World) (lo hi : Nat) (m : M.Mz) (a b : Option Addr) (c d : Nat) (h : MzIn lo hi w m a c b d) (hz : hi ≤ w.heap.size) (h1 : m.doors.length ≤ 1048576) (h2 : m.keys.length ≤ 1048576) (x : Int) (_x1 : -9223372036854775808 ≤ x) (_x2 : x ≤ 9223372036854775807) :
    Calls Try.prog 40 #[.agg #[.int .i64 m.size, .slice a m.doors.length c, .slice b m.keys.length d], .int .i64 x] w (MzOkPost w (M.freeV m x) (M.freeB m x)) := by
  obtain ⟨i0, hi0, hz0, hz1, hzb⟩ := info_parts infoD
  have H := Lib.hid h
  clear h
  go_enter Try.func40, Try.ntmps40
  go_wp2_with fail
  refine named ?_
  intro W hW
  have hb : Below w.heap.size w W := by rw [hW]; exact ((below_alloc _ _).alloc (by simp) _).alloc (by simp; omega) _
  have x1 : Box3 W w.heap.size 27 (.int .i64 m.size) (.slice a m.doors.length c) (.slice b m.keys.length d) := by rw [hW]; exact ((Box3.new _ _ _ _ rfl).alloc _).alloc _
  have y1 : Box3 W (w.heap.size + 1 + 1) 27 (.int .i64 0) (.slice none 0 0) (.slice none 0 0) := by rw [hW]; exact Box3.new _ _ _ _ (by simp)
  have i1 : Box1 W (w.heap.size + 1) 3 (.int .i64 x) := by rw [hW]; exact (Box1.new _ _ (by simp)).alloc _
  clear hW
  have hzw := hb.size
  have hwl := y1.lt
  refine (isMaze_any W lo hi m a b c d (H.out.below hb hz) (by omega)).mono ?_
  rintro e w1 ⟨rfl, hb1⟩
  have X1 := Lib.hid (x1.below hb1)
  have Y1 := Lib.hid (y1.below hb1)
  have I1 := Lib.hid (show Box1 w1 (w.heap.size + 1) 3 (.int .i64 x) from (hb1.block _ i1.lt).trans i1)
  have hbl := Y1.out.lt
  have HB1 := Lib.hid (hb.trans (hb1.mono hzw))
  have hz1w := hb1.size
  clear hb hb1 x1 y1 i1
  obtain ⟨c0, c1, c2⟩ := X1.out.cells
  have ci := cell_of_row w1 (w.heap.size + 1) 0 _ _ _ I1.out
  obtain ⟨k0, k1, k2⟩ := Y1.out.cells
  obtain ⟨f0, f1, f2⟩ := Y1.out.free
  cases q0 : M.mazeB m with
  | false =>
    have HF : Hid (M.freeB m x = false) := Lib.hid (by unfold M.freeB; rw [q0]; rfl)
    have HV := Lib.hid (M.freeV_no HF.out)
    clear q0
    go_wp2_with fail
    refine bodyPost_ret (v := .tuple #[.agg #[.int .i64 0, .slice none 0 0, .slice none 0 0], .bool false]) (by simp [results, Try.results40, go_sem, k0, k1, k2]) rfl ?_
    rw [HF.out, HV.out]
    exact mzNo_endAt HB1.out (by omega)
  | true =>
    have HM := Lib.hid q0
    have HVA := Lib.hid (M.valid_of q0)
    clear q0
    go_wp2_with fail
    refine (isSet_any _ _).mono ?_
    rintro e w9 ⟨rfl, rfl⟩
    cases q1 : M.setB x with
    | false =>
      have HF : Hid (M.freeB m x = false) := Lib.hid (by unfold M.freeB; rw [q1, Bool.and_false])
      have HV := Lib.hid (M.freeV_no HF.out)
      clear q1
      go_wp2_with fail
      refine bodyPost_ret (v := .tuple #[.agg #[.int .i64 0, .slice none 0 0, .slice none 0 0], .bool false]) (by simp [results, Try.results40, go_sem, k0, k1, k2]) rfl ?_
      rw [HF.out, HV.out]
      exact mzNo_endAt HB1.out (by omega)
    | true =>
      have HF : Hid (M.freeB m x = true) := Lib.hid (by unfold M.freeB; rw [q1, HM.out]; rfl)
      have HV := Lib.hid (M.freeV_yes HF.out)
      have v30 := HVA.out.few
      have vk := HVA.out.keysLen
      have v12 := HVA.out.size12
      clear q1
      have CW := withSets_any 86 #[.pointer (some ⟨w.heap.size + 1, 0, none⟩)] (M.freeN x) (enters_of Try.func86 (by kernel_rfl) rfl) w1 lo hi m a b c d
        (fun W' z hq => free1_any (w.heap.size + 1) x z W' ((hq.cell (p := ⟨w.heap.size + 1, 0, none⟩) (show w.heap.size + 1 < w1.heap.size by omega)).trans ci)) (H.out.below HB1.out hz) (by omega) h1 h2
      have CWH := Lib.hid CW
      clear CW
      go_wp2_with fail
      refine CWH.out.mono ?_
      rintro e w3 ⟨ca, cc, cb, cd, rfl, ho, hb3⟩
      have hz3w := hb3.size
      have hrs : (M.replaced (M.freeN x) m).size = m.size := rfl
      have hrd : (M.replaced (M.freeN x) m).doors.length = m.doors.length := by unfold M.replaced; simp
      have hrk : (M.replaced (M.freeN x) m).keys.length = m.keys.length := by unfold M.replaced; simp
      have HDD := Lib.hid (M.free_dd m x)
      have HKK := Lib.hid (M.free_keys m x)
      have hsl := M.srt_len (M.replaced (M.freeN x) m).doors
      generalize M.replaced (M.freeN x) m = R at *
      have HRS := Lib.hid hrs
      have HRK := Lib.hid hrk
      have HRD := Lib.hid hrd
      have hr30 : R.doors.length ≤ 1000 := by omega
      have hr12 : R.keys.length ≤ 1000 := by omega
      have HSL := Lib.hid hsl
      clear hrd hrk hsl
      have ho3 := HB1.out.trans (hb3.mono (by omega))
      have HO := Lib.hid ho
      have Y3 := Lib.hid (Y1.out.below hb3)
      have HB3 := Lib.hid ho3
      clear hb3 ho ho3 c0 c1 c2 k0 k1 k2 f0 f1 f2 ci CWH hrs
      go_wp2_with fail
      refine named ?_
      intro W4 hW4
      have hb4 : Below w3.heap.size w3 W4 := by rw [hW4]; exact below_alloc _ _
      have t4 : Box3 W4 w3.heap.size 27 (.int .i64 R.size) (.slice ca R.doors.length cc) (.slice cb R.keys.length cd) := by rw [hW4]; exact Box3.new _ _ _ _ rfl
      have hz4 := hb4.size
      have O4 := Lib.hid (HO.out.below hb4 (Nat.le_refl _))
      obtain ⟨l2, e2, he2, n1, n2, n3, n4⟩ := O4.out.doors.narrow2
      have CS := sortDoors_any W4 l2 e2 ca cc R.doors n1 (by omega)
      have T4 := Lib.hid t4
      have Y4 := Lib.hid (Y3.out.below hb4)
      have HB4 := Lib.hid (HB3.out.trans (hb4.mono (by omega)))
      have N2 := Lib.hid n2
      have N3 := Lib.hid n3
      have N4 := Lib.hid n4
      have htl := t4.lt
      clear hW4 hb4 t4 n1 n2 n3 n4
      refine CS.mono ?_
      rintro e w5 ⟨rfl, ho5, ht5'⟩
      have ht5 := N2.out w5 ht5'
      have hz5 := ht5.size
      have od5 := N3.out w5 _ (by rw [M.encDs_len, M.encDs_len, HSL.out]; exact Nat.le_refl _) ho5
      have ok5 := N4.out _ _ _ _ _ w5 (by decide) O4.out.keys ht5'
      have t5 := T4.out.turned ht5 (.inr (Nat.le_refl _))
      rw [← HSL.out] at t5
      have hst0 : ∀ W6, W6 = w5.alloc (.cells #[] 61) → FSt w (w.heap.size + 1 + 1) w1.heap.size w3.heap.size R (M.srt R.doors) ca cb cc cd W6 (some ⟨w5.heap.size, 0, none⟩) 0 (M.ddTo (M.srt R.doors) 0) := by
        intro W6 hW6
        have hb6 : Below w5.heap.size w5 W6 := by rw [hW6]; exact below_alloc _ _
        refine ⟨by rw [hW6]; exact ownsRow_empty _ _ _ _ (by omega), (Y4.out.turned ht5 (.inl (by omega))).below hb6, t5.below hb6, od5.below hb6 (by omega), ok5.below hb6 (by omega), ?_⟩
        exact (Below.thenTurned HB4.out ht5 (by omega) HB4.out.size).trans (hb6.mono (by have := HB4.out.size; omega))
      have HST0 := Lib.hid hst0
      obtain ⟨c0, c1, c2⟩ := t5.cells
      obtain ⟨e0, e1, e2'⟩ := (t5.alloc (.cells #[] 61)).cells
      clear CS ho5 ht5 ht5' od5 ok5 t5 hst0
      have hs30 : (M.srt R.doors).length ≤ 1000 := by rw [HSL.out]; exact hr30
      have HFD : Hid (M.ddTo (M.srt R.doors) (M.srt R.doors).length = (M.freeOf m x).doors) := Lib.hid (by rw [HSL.out]; exact HDD.out.symm)
      have HFK : Hid (R.keys = (M.freeOf m x).keys) := Lib.hid HKK.out.symm
      have HFS : Hid (R.size = (M.freeOf m x).size) := Lib.hid HRS.out
      generalize hS : M.srt R.doors = S at *
      clear hS
      go_wp2_with fail
      refine wp_named ?_
      intro W6 hW6
      have ST := Lib.hid (HST0.out W6 hW6)
      clear hW6 c0 c1 c2 e0 e1 e2' HST0
      go_loopw [7, 8, 29] (fun v7 _ v29 wr => ∃ (k : Nat) (va : Option Addr) (vc : Nat), k ≤ S.length ∧ v29 = .int .i64 k ∧ v7 = .slice va (M.ddTo S k).length vc ∧ FSt w (w.heap.size + 1 + 1) w1.heap.size w3.heap.size R S ca cb cc cd wr va vc (M.ddTo S k)) (fun _ _ v29 _ => S.length - (intOf v29).toNat)
      case atStart => exact ⟨0, _, _, Nat.zero_le _, rfl, rfl, ST.out⟩
      case round =>
        obtain ⟨k, va, vc, hk, rfl, rfl, hst⟩ := hrel
        have SR := Lib.hid hst
        have hzr := hst.low.size
        have hol := hst.out.lt
        have hdl := M.ddTo_len S k
        by_cases hkl : k < S.length
        · obtain ⟨db, off, hda, _, hdb, hc0⟩ := hst.doors.row.at_ (k := k * 3) (by rw [M.encDs_len]; omega)
          have d0 := hc0 _ _ (M.encDs_at0 hkl)
          have d1 : wr.cell? ⟨db, off + k * 3 + 1, none⟩ = some (.int .i64 S[k].2.1) := hc0 _ _ (M.encDs_at1 hkl)
          have d2 : wr.cell? ⟨db, off + k * 3 + 2, none⟩ = some (.int .i64 S[k].2.2) := hc0 _ _ (M.encDs_at2 hkl)
          have HC0 := Lib.hid hc0
          subst hda
          have hks : (k : Int) < (S.length : Int) := by omega
          have HY := Lib.hid (fun h : M.newAt S k = true => M.ddTo_yes hkl h)
          have HN := Lib.hid (fun h : M.newAt S k = false => M.ddTo_no (l := S) h)
          have hdbw : db < wr.heap.size := by omega
          clear hc0 hst
          go_wp2_with fail
          refine wp_named ?_
          intro W7 hW7
          have hb7 : Below wr.heap.size wr W7 := by rw [hW7]; exact below_alloc _ _
          have n7 : Box3 W7 wr.heap.size 61 (.int .i64 S[k].1) (.int .i64 S[k].2.1) (.int .i64 S[k].2.2) := by rw [hW7]; exact Box3.new _ _ _ _ rfl
          have S7 := Lib.hid (SR.out.later hb7)
          have N7 := Lib.hid n7
          have hz7 := hb7.size
          have hn7 := n7.lt
          clear hW7 hb7 n7 d0 d1 d2
          have mixed : Try.prog.follows .mixedOrders = true := by kernel_rfl
          rcases k with _ | j
          · have HE := Lib.hid (HY.out (M.newAt_zero S))
            refine wp_region_quiet_grown (by assumption) (by kernel_rfl) ?_
            repeat (first | go_big_quiet_step (fail) | quiet_step (fail))
            refine wpQuiet_nil ?_
            intro _ hw'
            obtain ⟨⟨nq, osq⟩, hw''⟩ := hw'
            obtain ⟨W8, hW8⟩ : ∃ W8, W8 = Sort.grow (W7.drewN nq) osq := ⟨_, rfl⟩
            have hb8 : Below W7.heap.size W7 W8 := by rw [hW8]; exact below_grown W7 nq osq
            subst hw''
            rw [← hW8]
            clear hW8
            have S8 := Lib.hid (S7.out.later hb8)
            have N8 := Lib.hid (N7.out.below hb8)
            have hz8 := hb8.size
            obtain ⟨z0, z1, z2⟩ := N8.out.cells
            clear hb8
            have HNB := Lib.hid (own_ne_box S8.out.row S8.out.out (by decide))
            have HNR := Lib.hid (own_ne_box S8.out.row S8.out.res (by decide))
            go_wp2_with (at_builtin; refine wpList_append_own _ rfl _ _ 24 rfl (w3.heap.size + 1) 61 i0 (.agg #[.int .i64 0, .int .i64 0, .int .i64 0]) 3 24 Try.underlying24 hi0 hz0 hz1 hzb rfl (by decide) _ _ _ rfl (S8.out.row.alloc _) ⟨W8.heap.size, 0, none⟩ 1 1 (M.encD S[0]) rfl rfl (news3 (Box3.new _ _ _ _ rfl)) (encD_one _) (by unfold maxLen; omega) (by omega) (by simp; omega) ?_; intro v' w9 hown' hgrow9 hnil9)
            obtain ⟨va2, vc2, hva2, _, _, _⟩ := own_slice hown'
            subst hva2
            have hnn : (M.ddTo S 0 ++ [S[0]]).length = (M.ddTo S 0).length + 1 := by rw [List.length_append]; rfl
            have hnew : FSt w (w.heap.size + 1 + 1) w1.heap.size w3.heap.size R S (some ⟨db, off, none⟩) cb cc cd w9 va2 vc2 (M.ddTo S 0 ++ [S[0]]) :=
              ⟨by rw [hnn, M.encDs_append, encDs_single]; exact hown', (S8.out.res.alloc _).grown hgrow9 HNR.out, (S8.out.out.alloc _).grown hgrow9 HNB.out, (S8.out.doors.below (below_alloc _ _) (by omega)).grownFar (S8.out.row.alloc _) (by omega) hgrow9, (S8.out.keys.below (below_alloc _ _) (by omega)).grownFar (S8.out.row.alloc _) (by omega) hgrow9,
                (S8.out.low.alloc (by have := S8.out.low.size; omega) _).grown hgrow9 (by have := S8.out.low.size; simp; omega) (fun g hg => by have := own_base S8.out.row g hg; have := S8.out.low.size; omega)⟩
            refine ⟨⟨0 + 1, va2, vc2, by omega, by go_num, by rw [HE.out, hnn], by rw [HE.out]; exact hnew⟩, by simp [intOf]; omega⟩
          · have hjl : j < S.length := by omega
            obtain ⟨jb, joff, hja, _, hjb, hjc⟩ := S7.out.doors.row.at_ (k := j * 3) (by rw [M.encDs_len]; omega)
            injection hja with hja
            injection hja with ja1 ja2 _
            subst ja1; subst ja2
            have p0 := hjc _ _ (M.encDs_at0 hjl)
            have p1 : W7.cell? ⟨db, off + j * 3 + 1, none⟩ = some (.int .i64 S[j].2.1) := hjc _ _ (M.encDs_at1 hjl)
            have p2 : W7.cell? ⟨db, off + j * 3 + 2, none⟩ = some (.int .i64 S[j].2.2) := hjc _ _ (M.encDs_at2 hjl)
            obtain ⟨t0, t1, t2⟩ := S7.out.out.cells
            obtain ⟨b0, b1, b2⟩ := N7.out.cells
            have htl7 := S7.out.out.lt
            have hdb7 : db < W7.heap.size := by omega
            have T1 := cell_grown htl7 t1
            have B0 := cell_grown hn7 b0
            have B1 := cell_grown hn7 b1
            have B2 := cell_grown hn7 b2
            have P0 := cell_grown (a := ⟨db, off + j * 3, none⟩) hdb7 p0
            have P1 := cell_grown (a := ⟨db, off + j * 3 + 1, none⟩) hdb7 p1
            have P2 := cell_grown (a := ⟨db, off + j * 3 + 2, none⟩) hdb7 p2
            have t3 := eqT3
            have hw1 : IntKind.i64.wrap ((j : Int) + 1 - 1) = (j : Int) := by rw [show (j : Int) + 1 - 1 = (j : Int) by omega]; exact IntWalk.i64_in _ (by omega)
            have hj0 : ¬ (j : Int) + 1 = 0 := by omega
            have hj0b : ((j : Int) + 1 == 0) = false := by rw [beq_eq_false_iff_ne]; omega
            have hjs : (j : Int) < (S.length : Int) := by omega
            clear hjc p0 p1 p2 t0 t1 t2 b0 b1 b2
            by_cases heq : S[j + 1] = S[j]
            · have q3 : ∀ w, (Op.equalIn 10000 61 (.agg #[.int .i64 S[j + 1].1, .int .i64 S[j + 1].2.1, .int .i64 S[j + 1].2.2]) (.agg #[.int .i64 S[j].1, .int .i64 S[j].2.1, .int .i64 S[j].2.2])).run Try.prog w = .ok true w := fun w => by rw [eqA3, heq]; simp
              have HE := Lib.hid (HN.out (by rw [M.newAt_succ hkl]; simpa using heq))
              clear heq
              refine wp_region_quiet_grown (by assumption) (by kernel_rfl) ?_
              repeat (first | go_big_quiet_step (fail) | quiet_step (fail))
              refine wpQuiet_nil ?_
              intro _ hw'
              obtain ⟨⟨nq, osq⟩, hw''⟩ := hw'
              obtain ⟨W8, hW8⟩ : ∃ W8, W8 = Sort.grow (W7.drewN nq) osq := ⟨_, rfl⟩
              have hb8 : Below W7.heap.size W7 W8 := by rw [hW8]; exact below_grown W7 nq osq
              subst hw''
              rw [← hW8]
              clear hW8
              have S8 := Lib.hid (S7.out.later hb8)
              have N8 := Lib.hid (N7.out.below hb8)
              have hz8 := hb8.size
              obtain ⟨z0, z1, z2⟩ := N8.out.cells
              clear hb8
              go_wp2_with fail
              go_roundw
              case rel => exact ⟨j + 1 + 1, va, vc, by omega, by go_num, by rw [HE.out], by rw [HE.out]; exact S8.out⟩
              case measure => simp [intOf]; omega
            · have q3 : ∀ w, (Op.equalIn 10000 61 (.agg #[.int .i64 S[j + 1].1, .int .i64 S[j + 1].2.1, .int .i64 S[j + 1].2.2]) (.agg #[.int .i64 S[j].1, .int .i64 S[j].2.1, .int .i64 S[j].2.2])).run Try.prog w = .ok false w := fun w => by
                rw [eqA3]
                congr 1
                rw [Bool.eq_false_iff]
                intro hh
                simp only [Bool.and_eq_true, beq_iff_eq] at hh
                exact heq (Prod.ext hh.1.1 (Prod.ext hh.1.2 hh.2))
              have HE := Lib.hid (HY.out (by rw [M.newAt_succ hkl]; simpa using heq))
              clear heq
              refine wp_region_quiet_grown (by assumption) (by kernel_rfl) ?_
              repeat (first | go_big_quiet_step (fail) | quiet_step (fail))
              refine wpQuiet_nil ?_
              intro _ hw'
              obtain ⟨⟨nq, osq⟩, hw''⟩ := hw'
              obtain ⟨W8, hW8⟩ : ∃ W8, W8 = Sort.grow (W7.drewN nq) osq := ⟨_, rfl⟩
              have hb8 : Below W7.heap.size W7 W8 := by rw [hW8]; exact below_grown W7 nq osq
              subst hw''
              rw [← hW8]
              clear hW8
              have S8 := Lib.hid (S7.out.later hb8)
              have N8 := Lib.hid (N7.out.below hb8)
              have hz8 := hb8.size
              obtain ⟨z0, z1, z2⟩ := N8.out.cells
              clear hb8
              have HNB := Lib.hid (own_ne_box S8.out.row S8.out.out (by decide))
              have HNR := Lib.hid (own_ne_box S8.out.row S8.out.res (by decide))
              go_wp2_with (at_builtin; refine wpList_append_own _ rfl _ _ 24 rfl (w3.heap.size + 1) 61 i0 (.agg #[.int .i64 0, .int .i64 0, .int .i64 0]) 3 24 Try.underlying24 hi0 hz0 hz1 hzb rfl (by decide) _ _ _ rfl (S8.out.row.alloc _) ⟨W8.heap.size, 0, none⟩ 1 1 (M.encD S[(j + 1)]) rfl rfl (news3 (Box3.new _ _ _ _ rfl)) (encD_one _) (by unfold maxLen; omega) (by omega) (by simp; omega) ?_; intro v' w9 hown' hgrow9 hnil9)
              obtain ⟨va2, vc2, hva2, _, _, _⟩ := own_slice hown'
              subst hva2
              have hnn : (M.ddTo S (j + 1) ++ [S[(j + 1)]]).length = (M.ddTo S (j + 1)).length + 1 := by rw [List.length_append]; rfl
              have hnew : FSt w (w.heap.size + 1 + 1) w1.heap.size w3.heap.size R S (some ⟨db, off, none⟩) cb cc cd w9 va2 vc2 (M.ddTo S (j + 1) ++ [S[(j + 1)]]) :=
                ⟨by rw [hnn, M.encDs_append, encDs_single]; exact hown', (S8.out.res.alloc _).grown hgrow9 HNR.out, (S8.out.out.alloc _).grown hgrow9 HNB.out, (S8.out.doors.below (below_alloc _ _) (by omega)).grownFar (S8.out.row.alloc _) (by omega) hgrow9, (S8.out.keys.below (below_alloc _ _) (by omega)).grownFar (S8.out.row.alloc _) (by omega) hgrow9,
                  (S8.out.low.alloc (by have := S8.out.low.size; omega) _).grown hgrow9 (by have := S8.out.low.size; simp; omega) (fun g hg => by have := own_base S8.out.row g hg; have := S8.out.low.size; omega)⟩
              refine ⟨⟨(j + 1) + 1, va2, vc2, by omega, by go_num, by rw [HE.out, hnn], by rw [HE.out]; exact hnew⟩, by simp [intOf]; omega⟩
        · obtain rfl : k = S.length := by omega
          have hks : ¬ (S.length : Int) < (S.length : Int) := by omega
          have hfin := SR.out
          have hlen := M.ddTo_len S S.length
          generalize hD : M.ddTo S S.length = D at *
          have HDE := HFD
          have hne4 : w.heap.size + 1 + 1 ≠ w3.heap.size := by omega
          obtain ⟨va', vc', hve, hv1, hv2, _⟩ := own_slice hfin.row
          injection hve with hva _ hvc
          rw [← hvc] at hv1 hv2
          have t6 := hfin.out.set1 (.slice va D.length vc)
          have y6 := hfin.res.other hne4 1 (.slice va D.length vc)
          have r6 := own_setBox hfin.row hfin.out (by decide) 1 (.slice va D.length vc)
          have tt := Turned.setCell wr w3.heap.size 1 (.slice va D.length vc) (Nat.le_refl _) (Nat.lt_succ_self _)
          have k6 := hfin.keys.turned tt (by omega) (.inl (Nat.le_refl _))
          have hmo : MzOwn w1.heap.size (wr.setCell ⟨w3.heap.size, 1, none⟩ (.slice va D.length vc)).heap.size (wr.setCell ⟨w3.heap.size, 1, none⟩ (.slice va D.length vc)) (M.freeOf m x) va vc cb cd :=
            ⟨by rw [← HDE.out]; exact (OwnAt.of_own r6).mono (by omega) (Nat.le_refl _), by rw [← HFK.out]; exact k6.mono (Nat.le_refl _) (by have := tt.size; omega), by rw [← HDE.out]; exact hv1, hv2, by rw [← HFK.out]; exact O4.out.d1, O4.out.d2⟩
          have HMO := Lib.hid hmo
          have HB6 := Lib.hid (hfin.low.setCell (p := ⟨w3.heap.size, 1, none⟩) (by show w.heap.size ≤ w3.heap.size; omega) (.slice va D.length vc))
          obtain ⟨c0, c1, c2⟩ := hfin.out.cells
          obtain ⟨g0, g1, g2⟩ := hfin.out.free
          obtain ⟨r0, r1, r2⟩ := t6.cells
          obtain ⟨k0, k1, k2⟩ := y6.cells
          obtain ⟨f0, f1, f2⟩ := y6.free
          obtain ⟨q0, q1, q2⟩ := (y6.setAll (.int .i64 R.size) (.slice va D.length vc) (.slice cb R.keys.length cd)).cells
          have hs6 : wr.heap.size ≤ (wr.setCell ⟨w3.heap.size, 1, none⟩ (.slice va D.length vc)).heap.size := by simp [World.setCell]
          clear hst hfin hmo t6 y6 r6 tt k6 hva hvc hD
          go_wp2_with fail
          refine bodyPost_ret (v := .tuple #[.agg #[.int .i64 R.size, .slice va D.length vc, .slice cb R.keys.length cd], .bool true]) (by simp [results, Try.results40, go_sem, q0, q1, q2]) rfl ?_
          rw [HF.out, HV.out, HFS.out]
          exact mzYes_endAt (m := M.freeOf m x) (lo := w1.heap.size) HB6.out HMO.out (.inl (by omega)) (by omega) (by omega) (Nat.le_refl _) (by rw [← HDE.out]) (by rw [← HFK.out])
end C
end Go.Proofs.Ytcaaookecgdbdaa
