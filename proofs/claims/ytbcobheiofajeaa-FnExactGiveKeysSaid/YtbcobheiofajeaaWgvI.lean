/-
  CONTRACT of impl.GiveKeys: the keys of a node given to an owner. Condition: the worlds read so, at most 1048576 mazes, doors, keys and owners in all.
-/
import Derived.Test.YtbcobheiofajeaaWgvM
import Derived.Test.YtbcobheiofajeaaWwoI
import Derived.Test.YtbcobheiofajeaaWlI
namespace Go.Proofs.Ytbcobheiofajeaa
open Go.RowKit
namespace C
set_option linter.unusedVariables false
set_option maxHeartbeats 3200000
set_option maxRecDepth 20000
theorem node_in {n x : Int} : M.nodeB n x = M.inB x 0 (n - 1) := by unfold M.nodeB M.inB; congr 1; apply propext; omega
theorem implGive_lw (w : World) (lo hi : Nat) (m : M.Wl) (a b : Option Addr) (c d : Nat) (h : WlIn lo hi w m a c b d) (hz : hi ≤ w.heap.size) (h1 : M.szW m ≤ 1048576) (i : Int) (_i1 : -9223372036854775808 ≤ i) (_i2 : i ≤ 9223372036854775807) (x : Int) (_x1 : -9223372036854775808 ≤ x) (_x2 : x ≤ 9223372036854775807) (o : Int) (_o1 : -9223372036854775808 ≤ o) (_o2 : o ≤ 9223372036854775807) :
    Calls Try.prog 54 #[.agg #[.slice a m.mazes.length c, .slice b m.owners.length d], .int .i64 i, .int .i64 x, .int .i64 o] w (WlOkPost w (M.gvW m i x o) (M.giveB m i x o)) := by
  have HH := Lib.hid h
  have hm9 := Nat.le_trans h.c1 h.c2
  have CW := Lib.hid (fun W (hB : Below w.heap.size w W) => implWorlds_any W lo hi m a b c d (HH.out.below hB hz) (Nat.le_trans hz hB.size) h1)
  have CH := Lib.hid (fun W z => hasWorld_any W a b c d m.mazes.length m.owners.length z hm9)
  have WY := Lib.hid (M.worldIn_yes (m := m) (i := i))
  have WN := Lib.hid (M.worldIn_no (m := m) (i := i))
  have G1 := Lib.hid (M.give_off1 (m := m) (i := i) (x := x) (o := o))
  have G2 := Lib.hid (M.give_off2 (m := m) (i := i) (x := x) (o := o))
  have G3 := Lib.hid (M.give_off3 (m := m) (i := i) (x := x) (o := o))
  have G4 := Lib.hid (M.give_on (m := m) (i := i) (x := x) (o := o))
  have CB := Lib.hid (fun (hq : M.worldIn m i = true) => show M.worldsB m = true ∧ M.inB i 0 ((m.mazes.length : Int) - 1) = true from by unfold M.worldIn at hq; rwa [Bool.and_eq_true] at hq)
  have WOK := Lib.hid (fun hq : M.worldsB m = true => M.worlds_ok.1 hq)
  have HWW := Lib.hid (fun OK : M.WlOK m => OK.world)
  have HN3 := Lib.hid (fun OK : M.WlOK m => OK.n3)
  have HSM := Lib.hid (fun OK : M.WlOK m => OK.same)
  have OWN := Lib.hid (fun (OK : M.WlOK m) W (hB : Below w.heap.size w W) => cloneW_any W lo hi m a b c d (HH.out.below hB hz) (Nat.le_trans hz hB.size) h1 OK.same)
  obtain ⟨⟨L, O, r⟩, q1, q2, q3, q4⟩ := h
  have R := Lib.hid r
  have HL1 := Lib.hid r.lenM
  clear r
  have GL := Lib.hid (fun (i x : Nat) (o : Int) => show (M.giveW m i x o).mazes.length = m.mazes.length ∧ (M.giveW m i x o).owners.length = m.owners.length from ⟨rfl, List.length_set ..⟩)
  generalize hnm : m.mazes.length = n at *
  generalize hno : m.owners.length = no at *
  have HNM := Lib.hid hnm
  have HNO := Lib.hid hno
  clear hnm hno
  go_enter Try.func54, Try.ntmps54
  go_wp2_with fail
  refine named ?_
  intro W hW
  have hb : Below w.heap.size w W := by rw [hW]; exact ((Below.refl _ _).alloc (Nat.le_refl _) _).alloc (by simp) _
  have x1 : Box2 W w.heap.size 30 (.slice a n c) (.slice b no d) := by rw [hW]; exact (Box2.new _ _ _ rfl).alloc _
  have r1 : Box2 W (w.heap.size + 1) 30 (.slice none 0 0) (.slice none 0 0) := by rw [hW]; exact Box2.new _ _ _ (by simp)
  clear hW
  have HBs := Lib.hid hb
  have Xs := Lib.hid x1
  have Rs := Lib.hid r1
  clear hb x1 r1
  refine (CW.out W HBs.out).mono ?_
  rintro e w1 ⟨rfl, hb1⟩
  have HB1 := Lib.hid (HBs.out.trans (hb1.mono HBs.out.size))
  have X1 := Lib.hid (Xs.out.below hb1)
  have R1 := Lib.hid (Rs.out.below hb1)
  clear hb1
  have hz1 := HB1.out.size
  have hxl1 := X1.out.lt
  have hrl1 := R1.out.lt
  obtain ⟨c01, c11⟩ := X1.out.cells
  obtain ⟨rf01, rf11⟩ := R1.out.free
  obtain ⟨rc01, rc11⟩ := R1.out.cells
  cases qs : M.worldsB m with
  | false =>
    have GG := Lib.hid (G1.out (WN.out qs))
    clear qs
    go_wp2_with fail
    refine bodyPost_ret (v := .tuple #[.agg #[.slice none 0 0, .slice none 0 0], .bool false]) (by simp [results, Try.results54, go_sem, rc01, rc11]) rfl ?_
    rw [GG.out.1, GG.out.2]
    exact ⟨none, 0, none, 0, rfl, WlOwn.zero _ _ _, Below.thenTurned (lo := w.heap.size + 1) (hi := w.heap.size + 1 + 1) HB1.out ((Turned.setCell _ _ _ _ (by omega) (by omega)).trans (Turned.setCell _ _ _ _ (by omega) (by omega))) (by omega) (by omega)⟩
  | true =>
    have QS := Lib.hid qs
    clear qs
    cases qi : M.inB i 0 ((n : Int) - 1) with
    | false =>
      have CH2 := Lib.hid (fun W => CH.out W i)
      rw [qi] at CH2
      have GG := Lib.hid (G1.out ((WY.out QS.out).trans qi))
      clear qi
      go_wp2_with fail
      refine (CH2.out _).mono ?_
      rintro e w2 ⟨rfl, hb2⟩
      have HB2 := Lib.hid (HB1.out.trans (hb2.mono HB1.out.size))
      have X2 := Lib.hid (X1.out.below hb2)
      have R2 := Lib.hid (R1.out.below hb2)
      clear hb2
      clear c01 c11 rf01 rf11 rc01 rc11
      have hz2 := HB2.out.size
      have hxl2 := X2.out.lt
      have hrl2 := R2.out.lt
      obtain ⟨c02, c12⟩ := X2.out.cells
      obtain ⟨rf02, rf12⟩ := R2.out.free
      obtain ⟨rc02, rc12⟩ := R2.out.cells
      go_wp2_with fail
      refine bodyPost_ret (v := .tuple #[.agg #[.slice none 0 0, .slice none 0 0], .bool false]) (by simp [results, Try.results54, go_sem, rc02, rc12]) rfl ?_
      rw [GG.out.1, GG.out.2]
      exact ⟨none, 0, none, 0, rfl, WlOwn.zero _ _ _, Below.thenTurned (lo := w.heap.size + 1) (hi := w.heap.size + 1 + 1) HB2.out ((Turned.setCell _ _ _ _ (by omega) (by omega)).trans (Turned.setCell _ _ _ _ (by omega) (by omega))) (by omega) (by omega)⟩
    | true =>
      have QW := Lib.hid ((WY.out QS.out).trans qi)
      have CH2 := Lib.hid (fun W => CH.out W i)
      rw [qi] at CH2
      clear qi
      go_wp2_with fail
      refine (CH2.out _).mono ?_
      rintro e w2 ⟨rfl, hb2⟩
      have HB2 := Lib.hid (HB1.out.trans (hb2.mono HB1.out.size))
      have X2 := Lib.hid (X1.out.below hb2)
      have R2 := Lib.hid (R1.out.below hb2)
      clear hb2
      clear c01 c11 rf01 rf11 rc01 rc11
      have hz2 := HB2.out.size
      have hxl2 := X2.out.lt
      have hrl2 := R2.out.lt
      obtain ⟨c02, c12⟩ := X2.out.cells
      obtain ⟨rf02, rf12⟩ := R2.out.free
      obtain ⟨rc02, rc12⟩ := R2.out.cells
      have QB := Lib.hid (CB.out QW.out)
      have OK := Lib.hid (WOK.out QB.out.1)
      have hn3 := HN3.out OK.out
      have hsame := HSM.out OK.out
      have hir : 0 ≤ i ∧ i ≤ (n : Int) - 1 := by have := QB.out.2; unfold M.inB at this; exact of_decide_eq_true this
      obtain ⟨ii, rfl⟩ : ∃ ii : Nat, i = (ii : Int) := ⟨i.toNat, by omega⟩
      have hin : ii < n := by omega
      rw [Int.toNat_natCast] at G2 G4
      have hkl : ii < L.length := by rw [HL1.out]; exact hin
      have hwm : M.wm m ii = L[ii].1 := R.out.wm hkl
      have hwj := HWW.out OK.out ii hin
      have hwl := hwj.2.1
      rw [hwm] at hwj G2 G4 hwl
      have V := M.valid_of hwj.1
      have v1 := V.size1
      have v12 := V.size12
      have hsame' := hsame
      subst hsame
      obtain ⟨mb, mo, ea, _, hmb, hc0⟩ := (R.out.mazes.turned (Turned.of_below HB2.out 0 0) hz (.inr (Nat.zero_le _))).at_ (k := ii * 3) (by rw [encMs_len]; omega)
      have d0 := hc0 _ _ (encMs_at0 hkl)
      have d1 : w2.cell? ⟨mb, mo + ii * 3 + 1, none⟩ = some (.slice L[ii].2.1 L[ii].1.doors.length L[ii].2.2.1) := hc0 _ _ (encMs_at1 hkl)
      have d2 : w2.cell? ⟨mb, mo + ii * 3 + 2, none⟩ = some (.slice L[ii].2.2.2.1 L[ii].1.keys.length L[ii].2.2.2.2) := hc0 _ _ (encMs_at2 hkl)
      have hw1 : IntKind.i64.wrap (L[ii].1.size - 1) = L[ii].1.size - 1 := IntWalk.i64_in _ (by omega)
      have hw2 : IntKind.i64.wrap ((no : Int) - 1) = (no : Int) - 1 := IntWalk.i64_in _ (by omega)
      have HWL := Lib.hid hwl
      have HV1 := Lib.hid v1
      clear hc0 hwj hwm V hir hwl
      generalize L[ii].1 = mk at *
      generalize L[ii].2.1 = y1 at *
      generalize L[ii].2.2.1 = y2 at *
      generalize L[ii].2.2.2.1 = y3 at *
      generalize L[ii].2.2.2.2 = y4 at *
      subst ea
      cases qx : M.inB x 0 (mk.size - 1) with
      | false =>
        have GG := Lib.hid (G2.out qx)
        have CX := Lib.hid (fun W => hasNode_any mk y1 y3 y2 y4 x W)
        rw [node_in, qx] at CX
        clear qx
        go_wp2_with fail
        refine (CX.out _).mono ?_
        rintro e w3 ⟨rfl, hW3⟩
        have hb3 : Below w2.heap.size w2 w3 := by rw [← hW3]; exact below_alloc _ _
        clear hW3
        have HB3 := Lib.hid (HB2.out.trans (hb3.mono HB2.out.size))
        have X3 := Lib.hid (X2.out.below hb3)
        have R3 := Lib.hid (R2.out.below hb3)
        clear hb3
        clear c02 c12 rf02 rf12 rc02 rc12
        have hz3 := HB3.out.size
        have hxl3 := X3.out.lt
        have hrl3 := R3.out.lt
        obtain ⟨c03, c13⟩ := X3.out.cells
        obtain ⟨rf03, rf13⟩ := R3.out.free
        obtain ⟨rc03, rc13⟩ := R3.out.cells
        go_wp2_with fail
        refine bodyPost_ret (v := .tuple #[.agg #[.slice none 0 0, .slice none 0 0], .bool false]) (by simp [results, Try.results54, go_sem, rc03, rc13]) rfl ?_
        rw [GG.out.1, GG.out.2]
        exact ⟨none, 0, none, 0, rfl, WlOwn.zero _ _ _, Below.thenTurned (lo := w.heap.size + 1) (hi := w.heap.size + 1 + 1) HB3.out ((Turned.setCell _ _ _ _ (by omega) (by omega)).trans (Turned.setCell _ _ _ _ (by omega) (by omega))) (by omega) (by omega)⟩
      | true =>
        have QX := Lib.hid qx
        clear qx
        cases qo : M.inB o 0 ((no : Int) - 1) with
        | false =>
          have GG := Lib.hid (G3.out qo)
          have CX := Lib.hid (fun W => hasNode_any mk y1 y3 y2 y4 x W)
          rw [node_in, QX.out] at CX
          have CY := Lib.hid (fun W => CH.out W o)
          rw [qo] at CY
          clear qo
          go_wp2_with fail
          refine (CX.out _).mono ?_
          rintro e w3 ⟨rfl, hW3⟩
          have hb3 : Below w2.heap.size w2 w3 := by rw [← hW3]; exact below_alloc _ _
          clear hW3
          have HB3 := Lib.hid (HB2.out.trans (hb3.mono HB2.out.size))
          have X3 := Lib.hid (X2.out.below hb3)
          have R3 := Lib.hid (R2.out.below hb3)
          clear hb3
          clear c02 c12 rf02 rf12 rc02 rc12
          have hz3 := HB3.out.size
          have hxl3 := X3.out.lt
          have hrl3 := R3.out.lt
          obtain ⟨c03, c13⟩ := X3.out.cells
          obtain ⟨rf03, rf13⟩ := R3.out.free
          obtain ⟨rc03, rc13⟩ := R3.out.cells
          go_wp2_with fail
          refine (CY.out _).mono ?_
          rintro e w4 ⟨rfl, hb4⟩
          have HB4 := Lib.hid (HB3.out.trans (hb4.mono HB3.out.size))
          have X4 := Lib.hid (X3.out.below hb4)
          have R4 := Lib.hid (R3.out.below hb4)
          clear hb4
          clear c03 c13 rf03 rf13 rc03 rc13
          have hz4 := HB4.out.size
          have hxl4 := X4.out.lt
          have hrl4 := R4.out.lt
          obtain ⟨c04, c14⟩ := X4.out.cells
          obtain ⟨rf04, rf14⟩ := R4.out.free
          obtain ⟨rc04, rc14⟩ := R4.out.cells
          go_wp2_with fail
          refine bodyPost_ret (v := .tuple #[.agg #[.slice none 0 0, .slice none 0 0], .bool false]) (by simp [results, Try.results54, go_sem, rc04, rc14]) rfl ?_
          rw [GG.out.1, GG.out.2]
          exact ⟨none, 0, none, 0, rfl, WlOwn.zero _ _ _, Below.thenTurned (lo := w.heap.size + 1) (hi := w.heap.size + 1 + 1) HB4.out ((Turned.setCell _ _ _ _ (by omega) (by omega)).trans (Turned.setCell _ _ _ _ (by omega) (by omega))) (by omega) (by omega)⟩
        | true =>
          have QO := Lib.hid qo
          have CX := Lib.hid (fun W => hasNode_any mk y1 y3 y2 y4 x W)
          rw [node_in, QX.out] at CX
          have CY := Lib.hid (fun W => CH.out W o)
          rw [qo] at CY
          clear qo
          go_wp2_with fail
          refine (CX.out _).mono ?_
          rintro e w3 ⟨rfl, hW3⟩
          have hb3 : Below w2.heap.size w2 w3 := by rw [← hW3]; exact below_alloc _ _
          clear hW3
          have HB3 := Lib.hid (HB2.out.trans (hb3.mono HB2.out.size))
          have X3 := Lib.hid (X2.out.below hb3)
          have R3 := Lib.hid (R2.out.below hb3)
          clear hb3
          clear c02 c12 rf02 rf12 rc02 rc12
          have hz3 := HB3.out.size
          have hxl3 := X3.out.lt
          have hrl3 := R3.out.lt
          obtain ⟨c03, c13⟩ := X3.out.cells
          obtain ⟨rf03, rf13⟩ := R3.out.free
          obtain ⟨rc03, rc13⟩ := R3.out.cells
          go_wp2_with fail
          refine (CY.out _).mono ?_
          rintro e w4 ⟨rfl, hb4⟩
          have HB4 := Lib.hid (HB3.out.trans (hb4.mono HB3.out.size))
          have X4 := Lib.hid (X3.out.below hb4)
          have R4 := Lib.hid (R3.out.below hb4)
          clear hb4
          clear c03 c13 rf03 rf13 rc03 rc13
          have hz4 := HB4.out.size
          have hxl4 := X4.out.lt
          have hrl4 := R4.out.lt
          obtain ⟨c04, c14⟩ := X4.out.cells
          obtain ⟨rf04, rf14⟩ := R4.out.free
          obtain ⟨rc04, rc14⟩ := R4.out.cells
          go_wp2_with fail
          have HG := Lib.hid (G4.out QW.out QX.out QO.out)
          have hxr : 0 ≤ x ∧ x ≤ mk.size - 1 := by have := QX.out; unfold M.inB at this; exact of_decide_eq_true this
          obtain ⟨xx, rfl⟩ : ∃ xx : Nat, x = (xx : Int) := ⟨x.toNat, by omega⟩
          rw [Int.toNat_natCast] at HG
          refine (OWN.out OK.out w4 HB4.out).mono ?_
          rintro e w5 ⟨ra, rc, rb, rd, he, hwo, hb5⟩
          rw [HNM.out, HNO.out] at he
          subst he
          obtain ⟨⟨L', O', RM, RO, r'⟩, p1, p2, p3, p4⟩ := hwo
          rw [HNM.out] at p1
          rw [HNO.out] at p3
          have HB5 := Lib.hid (HB4.out.trans (hb5.mono HB4.out.size))
          have R5 := Lib.hid (R4.out.below hb5)
          have hz5 := hb5.size
          have RR := Lib.hid r'
          clear hb5 r' c04 c14 rf04 rf14 rc04 rc14 d0 d1 d2
          go_upto_region 4 with fail
          refine wp_named ?_
          intro W6 hW
          have hbW : Below w5.heap.size w5 W6 := by
            rw [hW]
            refine ⟨rfl, rfl, rfl, by simp, fun i hi => ?_⟩
            exact Below.heap_alloc w5 _ i hi
          have OX := Lib.hid (show Box2 W6 w5.heap.size 30 (.slice ra no rc) (.slice rb no rd) from by rw [hW]; exact Box2.new _ _ _ rfl)
          clear hW
          have HB6 := Lib.hid (HB5.out.trans (hbW.mono HB5.out.size))
          have R6 := Lib.hid (R5.out.below hbW)
          have RR6 := Lib.hid (RR.out.turned (Turned.of_below hbW 0 0) (Nat.le_refl _) (.inr (Nat.zero_le _)))
          have hz6 := hbW.size
          clear hbW
          have hOl : O'.length = no := by rw [RR6.out.row.lenO, HNO.out]
          have hio : ii < O'.length := by rw [hOl]; exact hin
          have hoE : O'[ii].1.length = mk.size.toNat := by
            have h9 := HWL.out
            rw [RR6.out.row.wo hio] at h9
            omega
          have hxo : xx < O'[ii].1.length := by rw [hoE]; omega
          obtain ⟨ob, oo, eb, _, hob, hd0⟩ := RR6.out.owners.row.at_ (k := ii) (by rw [encOs_len]; exact hio)
          have e0 := hd0 _ _ (encOs_at hio)
          have hrow := (RR6.out.ws.owner ii _ (List.getElem?_eq_getElem hio)).1.row
          obtain ⟨g, off, eg, hg1, hg2, hg0⟩ := hrow.row.at_ (k := xx) (by rw [M.encIs_len]; exact hxo)
          have u0 := hg0 _ _ (M.encIs_at hxo)
          have fr := hrow.free eg (k := xx) (by rw [M.encIs_len]; exact hxo) (off + xx)
          have hset := RR6.out.setOwner hio hxo eg o
          have HSET := Lib.hid hset
          have hlo := (RR6.out.ws.owner ii _ (List.getElem?_eq_getElem hio)).2
          have HOE := Lib.hid hoE
          obtain ⟨ox0, ox1⟩ := OX.out.cells
          have hol := OX.out.lt
          clear hd0 hg0 hset hrow hoE
          rw [eg] at e0
          generalize O'[ii].1[xx] = old at u0
          generalize O'[ii].1.length = lo1 at *
          generalize O'[ii].2.2 = lc1 at *
          subst eb
          go_upto_region 5 with fail
          refine wp_named ?_
          intro W7 hW
          have r7 : WlRowW w4.heap.size w5.heap.size W7 (M.giveW m ii xx o) ra (some ⟨ob, oo, none⟩) L' (O'.set ii (O'[ii].1.set xx o, O'[ii].2)) RM RO := by rw [hW]; exact HSET.out.1
          have t7 : Turned w4.heap.size w5.heap.size W6 W7 := by rw [hW]; exact HSET.out.2
          clear hW
          have RR7 := Lib.hid r7
          have OX7 := Lib.hid (OX.out.turned t7 (.inr (Nat.le_refl _)))
          have R7 := Lib.hid (R6.out.turned t7 (.inl (by omega)))
          have HB7 := Lib.hid (Below.thenTurned HB6.out t7 (by omega) (by omega))
          have hz7 := t7.size
          obtain ⟨o70, o71⟩ := OX7.out.cells
          obtain ⟨rf0, rf1⟩ := R7.out.free
          obtain ⟨rc0, rc1⟩ := R7.out.cells
          have hrl7 := R7.out.lt
          have hol7 := OX7.out.lt
          clear r7 t7 ox0 ox1 e0 u0 fr
          go_wp2_with fail
          refine bodyPost_ret (v := .tuple #[.agg #[.slice ra no rc, .slice (some ⟨ob, oo, none⟩) no rd], .bool true]) (by simp [results, Try.results54, go_sem, rc0, rc1]) rfl ?_
          rw [HG.out.1, HG.out.2]
          have hT : ∀ u0 u1, Turned (w.heap.size + 1) (w.heap.size + 1 + 1) W7 ((W7.setCell ⟨w.heap.size + 1, 0, none⟩ u0).setCell ⟨w.heap.size + 1, 1, none⟩ u1) := fun u0 u1 => (Turned.setCell _ _ _ _ (by omega) (by omega)).trans (Turned.setCell _ _ _ _ (by omega) (by omega))
          have hT1 := hT (.slice ra no rc) (.slice (some ⟨ob, oo, none⟩) no rd)
          have hsT := hT1.size
          refine ⟨_, _, _, _, by rw [(GL.out ii xx o).1, (GL.out ii xx o).2], ⟨⟨L', _, RM, RO, (RR7.out.turned hT1 (by omega) (by omega)).mono (by omega) (Nat.le_trans (by omega) hsT)⟩, by rw [(GL.out ii xx o).1]; exact p1, p2, by rw [(GL.out ii xx o).2]; exact p3, p4⟩, Below.thenTurned HB7.out hT1 (by omega) (by omega)⟩
end C
end Go.Proofs.Ytbcobheiofajeaa
