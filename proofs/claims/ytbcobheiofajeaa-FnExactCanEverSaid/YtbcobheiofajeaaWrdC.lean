/-
  CONTRACT of impl.CanEver; what lay in memory stays. Condition: the worlds read so, at most 1048576 mazes, doors, keys and owners in all.
-/
import Derived.Test.YtbcobheiofajeaaWrdJ
import Derived.Test.YtbcobheiofajeaaWlB
import Derived.Test.YtbcobheiofajeaaWlI
namespace Go.Proofs.Ytbcobheiofajeaa
open Go.RowKit
namespace M
theorem allL_len (m : Wl) : (allL m).length = m.mazes.length := by unfold allL; rw [List.length_map, List.length_range]
theorem allL_take {m : Wl} {j : Nat} (hj : j < m.mazes.length) : (allL m).take (j + 1) = (allL m).take j ++ [((allW (wm m j) : Nat) : Int)] := by
  rw [List.take_succ_eq_append_getElem (by rw [allL_len]; exact hj)]
  congr 2
  unfold allL
  rw [List.getElem_map, List.getElem_range]
theorem allL_rng {m : Wl} (W : WlOK m) : ∀ z ∈ allL m, 0 ≤ z ∧ z < 4096 := fun z hz => by
  unfold allL at hz
  obtain ⟨j, hj, rfl⟩ := List.mem_map.1 hz
  have := allW_lt (valid_of (W.world j (List.mem_range.1 hj)).1)
  omega
theorem allL_dig {m : Wl} (W : WlOK m) (j : Nat) (hj : j < m.mazes.length) : ∀ x ∈ digsTo ((allL m).getD j 0).toNat 12, x < (wm m j).size := fun x hx => by
  rw [allL_at m hj] at hx
  obtain ⟨p, rfl, _, hp⟩ := mem_digsTo.1 hx
  rw [digB_allW (valid_of (W.world j hj).1), decide_eq_true_iff] at hp
  exact hp
theorem can_in {m : Wl} (W : WlOK m) {ii : Nat} (hw : worldsB m = true) (hi : inB (ii : Int) 0 ((m.mazes.length : Int) - 1) = true) : worldIn m ii = true ∧ canEver m ii = digB (mk (reachOf (wm m ii) 0 (orF 0 (keysL m ii (allL m) m.mazes.length)))) ((wm m ii).size - 1).toNat := by
  have h1 : worldIn m ii = true := by rw [worldIn_yes hw]; exact hi
  have hlt : ii < m.mazes.length := by unfold inB at hi; have := of_decide_eq_true hi; omega
  have V := valid_of (W.world ii hlt).1
  have v1 := V.size1
  refine ⟨h1, ?_⟩
  unfold canEver
  rw [h1, Bool.true_and, Int.toNat_natCast, own_all W _ _ (Nat.le_refl _), Bool.eq_iff_iff]
  unfold memB
  rw [reach_rng V, List.contains_iff_mem]
  rw [show (((((wm m ii).size - 1).toNat : Nat)) : Int) = (wm m ii).size - 1 by omega]
theorem can_out {m : Wl} {i : Int} (h : worldIn m i = false) : canEver m i = false := by unfold canEver; rw [h]; rfl
end M
namespace C
set_option linter.unusedVariables false
set_option maxHeartbeats 3200000
set_option maxRecDepth 20000
theorem implCan_lw (w : World) (lo hi : Nat) (m : M.Wl) (a b : Option Addr) (c d : Nat) (h : WlIn lo hi w m a c b d) (hz : hi ≤ w.heap.size) (h1 : M.szW m ≤ 1048576) (i : Int) (_i1 : -9223372036854775808 ≤ i) (_i2 : i ≤ 9223372036854775807) :
    Calls Try.prog 40 #[.agg #[.slice a m.mazes.length c, .slice b m.owners.length d], .int .i64 i] w fun e w' => e = .returned (.tuple #[.bool (M.canEver m i), .bool (M.worldIn m i)]) ∧ Below w.heap.size w w' := by
  obtain ⟨i0, hi0, hz0, hzz1, hz2⟩ := info_parts infoI
  have HH := Lib.hid h
  have hm9 := Nat.le_trans h.c1 h.c2
  have CW := Lib.hid (fun W (hB : Below w.heap.size w W) => implWorlds_any W lo hi m a b c d (HH.out.below hB hz) (Nat.le_trans hz hB.size) h1)
  have CH := Lib.hid (fun W => hasWorld_any W a b c d m.mazes.length m.owners.length i hm9)
  have WY := Lib.hid (M.worldIn_yes (m := m) (i := i))
  have WN := Lib.hid (M.worldIn_no (m := m) (i := i))
  have CO := Lib.hid (M.can_out (m := m) (i := i))
  have CI := Lib.hid (fun (W : M.WlOK m) (ii : Nat) => M.can_in W (ii := ii))
  have KF := Lib.hid (fun W (hB : Below w.heap.size w W) (OK : M.WlOK m) (ii : Int) => keysFor_any W lo hi m a b c d (HH.out.below hB hz) (Nat.le_trans hz hB.size) OK ii)
  have AT := Lib.hid (fun j => M.allL_take (m := m) (j := j))
  have AL := Lib.hid (M.allL_len m)
  have AR := Lib.hid (fun OK : M.WlOK m => M.allL_rng OK)
  have AD := Lib.hid (fun OK : M.WlOK m => M.allL_dig OK)
  have WOK := Lib.hid (fun hq : M.worldsB m = true => M.worlds_ok.1 hq)
  obtain ⟨⟨L, O, r⟩, q1, q2, q3, q4⟩ := h
  have R := Lib.hid r
  have HL1 := Lib.hid r.lenM
  have HWW := Lib.hid (fun OK : M.WlOK m => OK.world)
  have HN3 := Lib.hid (fun OK : M.WlOK m => OK.n3)
  clear r
  generalize hnm : m.mazes.length = n at *
  generalize hno : m.owners.length = no at *
  have HNM := Lib.hid hnm
  have HNO := Lib.hid hno
  clear hnm hno
  go_enter Try.func40, Try.ntmps40
  go_wp2_with fail
  refine named ?_
  intro W hW
  have hb : Below w.heap.size w W := by rw [hW]; exact below_alloc _ _
  have x1 : Box2 W w.heap.size 30 (.slice a n c) (.slice b no d) := by rw [hW]; exact Box2.new _ _ _ rfl
  clear hW
  refine (CW.out W hb).mono ?_
  rintro e w1 ⟨rfl, hb1⟩
  have HB1 := Lib.hid (C.Below.more hb hb1)
  have X1 := Lib.hid (x1.below hb1)
  have hz1 := HB1.out.size
  have hxl := X1.out.lt
  obtain ⟨c0, c1⟩ := X1.out.cells
  clear x1 hb hb1
  cases qw : M.worldsB m with
  | false =>
    have WN2 := Lib.hid (WN.out qw)
    have CO2 := Lib.hid (CO.out WN2.out)
    clear qw
    go_wp2_with fail
    go_ret2
    rw [WN2.out, CO2.out]
    exact ⟨rfl, HB1.out⟩
  | true =>
    have WY2 := Lib.hid (WY.out qw)
    have QW := Lib.hid qw
    have OK := Lib.hid (WOK.out qw)
    have hn3 := HN3.out OK.out
    clear qw
    cases qi : M.inB i 0 ((n : Int) - 1) with
    | false =>
      have CH2 := Lib.hid (fun W => CH.out W)
      rw [qi] at CH2
      have WY3 := Lib.hid (WY2.out.trans qi)
      have CO2 := Lib.hid (CO.out WY3.out)
      clear qi
      go_wp2_with fail
      refine (CH2.out _).mono ?_
      rintro e w2 ⟨rfl, hb2⟩
      have HB2 := Lib.hid (HB1.out.trans (hb2.mono hz1))
      clear hb2
      go_wp2_with fail
      go_ret2
      rw [WY3.out, CO2.out]
      exact ⟨rfl, HB2.out⟩
    | true =>
      have CH2 := Lib.hid (fun W => CH.out W)
      rw [qi] at CH2
      have hir : 0 ≤ i ∧ i ≤ (n : Int) - 1 := by unfold M.inB at qi; exact of_decide_eq_true qi
      obtain ⟨ii, rfl⟩ : ∃ ii : Nat, i = (ii : Int) := ⟨i.toNat, by omega⟩
      have hin : ii < n := by omega
      have CI2 := Lib.hid (CI.out OK.out ii QW.out qi)
      clear qi hir
      go_wp2_with fail
      refine (CH2.out _).mono ?_
      rintro e w2 ⟨rfl, hb2⟩
      have HB2 := Lib.hid (HB1.out.trans (hb2.mono hz1))
      have X2 := Lib.hid (X1.out.below hb2)
      have hz2' := HB2.out.size
      have hxl2 := X2.out.lt
      clear hb2 c0 c1
      obtain ⟨c0, c1⟩ := X2.out.cells
      go_wp2_with fail
      go_loopw [6, 8, 23] (fun v6 _ v23 wr => ∃ (j : Nat), j ≤ n ∧ v23 = .int .i64 (j : Int) ∧ wr.ownsRow w.heap.size 3 1 v6 j (M.encIs ((M.allL m).take j)) ∧ Box2 wr w.heap.size 30 (.slice a n c) (.slice b no d) ∧ Below w.heap.size w wr) (fun _ _ v23 _ => n - (intOf v23).toNat)
      case atStart => exact ⟨0, Nat.zero_le _, rfl, ownsRow_empty _ _ _ _ (by omega), X2.out.alloc _, HB2.out.alloc hz2' _⟩
      case round =>
        obtain ⟨wo, rfl⟩ : ∃ W, W = wr := ⟨_, rfl⟩
        obtain ⟨j, hj, rfl, hown, hbox, hnx⟩ := hrel
        have HO := Lib.hid hown
        have HN := Lib.hid hnx
        have HBX := Lib.hid hbox
        have hzr := hnx.size
        have hbl := hbox.lt
        obtain ⟨bx0, bx1⟩ := hbox.cells
        clear hown hnx hbox c0 c1
        by_cases hjn : j < n
        · have hkl : j < L.length := by rw [HL1.out]; exact hjn
          obtain ⟨mb, mo, ea, _, hmb, hc0⟩ := (R.out.mazes.turned (Turned.of_below HN.out 0 0) hz (.inr (Nat.zero_le _))).at_ (k := j * 3) (by rw [encMs_len]; omega)
          have c0 := hc0 _ _ (encMs_at0 hkl)
          have c1 : wo.cell? ⟨mb, mo + j * 3 + 1, none⟩ = some (.slice L[j].2.1 L[j].1.doors.length L[j].2.2.1) := hc0 _ _ (encMs_at1 hkl)
          have c2 : wo.cell? ⟨mb, mo + j * 3 + 2, none⟩ = some (.slice L[j].2.2.2.1 L[j].1.keys.length L[j].2.2.2.2) := hc0 _ _ (encMs_at2 hkl)
          have hwm : M.wm m j = L[j].1 := R.out.wm hkl
          have hwj := HWW.out OK.out j hjn
          rw [hwm] at hwj
          have CA := Lib.hid (fun W => allW_any W L[j].1 L[j].2.1 L[j].2.2.2.1 L[j].2.2.1 L[j].2.2.2.2 (M.valid_of hwj.1))
          have ATJ := Lib.hid (AT.out j (by first | exact hjn | (rw [HNM.out]; exact hjn)))
          rw [hwm] at ATJ
          subst ea
          clear hc0 hwj hwm
          generalize L[j].1 = mk at *
          generalize L[j].2.1 = x1 at *
          generalize L[j].2.2.1 = x2 at *
          generalize L[j].2.2.2.1 = x3 at *
          generalize L[j].2.2.2.2 = x4 at *
          go_upto_region 7 with fail
          refine wp_named ?_
          intro W1 hW
          have hbW : Below wo.heap.size wo W1 := by
            rw [hW]
            refine ⟨rfl, rfl, rfl, by simp, fun i hi => ?_⟩
            exact Below.heap_alloc wo _ i hi
          have y3 := Lib.hid (show Box3 W1 wo.heap.size 55 (.int .i64 mk.size) (.slice x1 mk.doors.length x2) (.slice x3 mk.keys.length x4) from by rw [hW]; exact Box3.new _ _ _ _ rfl)
          clear hW
          have HBW := Lib.hid (HN.out.trans (hbW.mono hzr))
          have hbox2 := Lib.hid (HBX.out.below hbW)
          have HO1 := Lib.hid (own_below HO.out hbW)
          have hzW := HBW.out.size
          obtain ⟨z0, z1, z2⟩ := y3.out.cells
          have hyl := y3.out.lt
          clear bx0 bx1 c0 c1 c2 hbW
          go_wp2_with fail
          refine (CA.out W1).mono ?_
          rintro e w5 ⟨rfl, hb5⟩
          have HB5 := Lib.hid (HBW.out.trans (hb5.mono hzW))
          have hbox5 := Lib.hid (hbox2.out.below hb5)
          have HO5 := Lib.hid (own_below HO1.out hb5)
          have hz5 := HB5.out.size
          generalize M.allW mk = nA at *
          clear hb5 z0 z1 z2
          go_wp2_with (at_builtin; refine wpList_append_own_at _ rfl _ _ 39 rfl w.heap.size 3 i0 (.int .i64 0) 1 8 Try.underlying39 hi0 hz0 hzz1 hz2 rfl (by decide) _ _ _ rfl (HO5.out.alloc _) ⟨w5.heap.size, 0, none⟩ 1 1 [.int .i64 (nA : Int)] rfl rfl (cell_one_new _ _ _) (fun x hx => by simp at hx; subst hx; rfl) (by unfold maxLen; omega) (by omega) (by simp; omega) ?_; intro v' w8 hown' hgrow8 hnil8 hblk8)
          go_roundw
          case rel =>
            have hb8 : Below w.heap.size w w8 := (HB5.out.alloc (by omega) _).grown hgrow8 (by simp; omega) (own_base HO5.out)
            refine ⟨j + 1, by omega, by go_num, ?_, (hbox5.out.alloc (.cells #[.int .i64 (nA : Int)] 3)).grown hgrow8 (own_ne_b2 (HO5.out.alloc (.cells #[.int .i64 (nA : Int)] 3)) (hbox5.out.alloc (.cells #[.int .i64 (nA : Int)] 3)) (by decide)), hb8⟩
            rw [ATJ.out]
            simpa [M.encIs] using hown'
          case measure => simp [intOf]; omega
        · obtain rfl : j = n := by omega
          have hkl : ii < L.length := by rw [HL1.out]; exact hin
          have HTA := Lib.hid (show (M.allL m).take j = M.allL m from List.take_of_length_le (by rw [AL.out]; first | exact Nat.le_refl _ | (rw [HNM.out]; exact Nat.le_refl _)))
          obtain ⟨ra, rc, rfl, ho1, ho2, hoo⟩ := own_slice HO.out
          rw [HTA.out] at hoo
          have HOO := Lib.hid hoo
          obtain ⟨mb, mo, ea, _, hmb, hc0⟩ := (R.out.mazes.turned (Turned.of_below HN.out 0 0) hz (.inr (Nat.zero_le _))).at_ (k := ii * 3) (by rw [encMs_len]; omega)
          have c0 := hc0 _ _ (encMs_at0 hkl)
          have c1 : wo.cell? ⟨mb, mo + ii * 3 + 1, none⟩ = some (.slice L[ii].2.1 L[ii].1.doors.length L[ii].2.2.1) := hc0 _ _ (encMs_at1 hkl)
          have c2 : wo.cell? ⟨mb, mo + ii * 3 + 2, none⟩ = some (.slice L[ii].2.2.2.1 L[ii].1.keys.length L[ii].2.2.2.2) := hc0 _ _ (encMs_at2 hkl)
          have hwm : M.wm m ii = L[ii].1 := R.out.wm hkl
          have hwj := HWW.out OK.out ii hin
          rw [hwm] at hwj
          have HV := Lib.hid (M.valid_of hwj.1)
          have HMZ := Lib.hid (fun W (hB : Below w.heap.size w W) => show MzIn lo hi W L[ii].1 L[ii].2.1 L[ii].2.2.1 L[ii].2.2.2.1 L[ii].2.2.2.2 from (R.out.maze _ (List.getElem_mem hkl)).turned (Turned.of_below hB 0 0) hz (.inr (Nat.zero_le _)))
          have CI3 := Lib.hid CI2.out
          rw [hwm] at CI3
          clear CI2 HO hoo hc0 hwj hwm
          generalize L[ii].1 = mk at *
          generalize L[ii].2.1 = x1 at *
          generalize L[ii].2.2.1 = x2 at *
          generalize L[ii].2.2.2.1 = x3 at *
          generalize L[ii].2.2.2.2 = x4 at *
          subst ea
          go_upto_region 10 with fail
          refine wp_named ?_
          intro W1 hW
          have hbW : Below wo.heap.size wo W1 := by
            rw [hW]
            refine ⟨rfl, rfl, rfl, by simp, fun i hi => ?_⟩
            exact Below.heap_alloc wo _ i hi
          have y3 := Lib.hid (show Box3 W1 wo.heap.size 55 (.int .i64 mk.size) (.slice x1 mk.doors.length x2) (.slice x3 mk.keys.length x4) from by rw [hW]; exact Box3.new _ _ _ _ rfl)
          clear hW
          have HBW := Lib.hid (HN.out.trans (hbW.mono hzr))
          have hbox2 := Lib.hid (HBX.out.below hbW)
          have HOO1 := Lib.hid (HOO.out.row.below hbW (Nat.le_refl _))
          have hzW := HBW.out.size
          have hzWo := hbW.size
          clear bx0 bx1 c0 c1 c2 hbW
          have FX := Lib.hid (fun W2 (hB : Below W1.drew.heap.size W1.drew W2) => show (W2.cell? ⟨w.heap.size, 0, none⟩ = some (.slice (some ⟨mb, mo, none⟩) j c) ∧ W2.cell? ⟨w.heap.size, 1, none⟩ = some (.slice b no d)) ∧ (W2.cell? ⟨wo.heap.size, 0, none⟩ = some (.int .i64 mk.size) ∧ W2.cell? ⟨wo.heap.size, 1, none⟩ = some (.slice x1 mk.doors.length x2) ∧ W2.cell? ⟨wo.heap.size, 2, none⟩ = some (.slice x3 mk.keys.length x4)) from
            ⟨(Box2.below (w := W1.drew) hbox2.out hB).cells, (Box3.below (w := W1.drew) y3.out hB).cells⟩)
          have KF2 := Lib.hid (KF.out W1.drew HBW.out.drew OK.out (ii : Int) w.heap.size wo.heap.size ra rc (M.allL m) (RowIn.turned HOO1.out (Turned.of_below (Below.refl _ _).drew 0 0) (by omega) (.inr (Nat.zero_le _))) (show wo.heap.size ≤ W1.heap.size by omega) AL.out (AR.out OK.out) (AD.out OK.out))
          generalize M.orF 0 (M.keysL m (ii : Int) (M.allL m) j) = ks at *
          refine wp_region_late2 (fun (W2 : World) => (W2.cell? ⟨w.heap.size, 0, none⟩ = some (.slice (some ⟨mb, mo, none⟩) j c) ∧ W2.cell? ⟨w.heap.size, 1, none⟩ = some (.slice b no d)) ∧ (W2.cell? ⟨wo.heap.size, 0, none⟩ = some (.int .i64 mk.size) ∧ W2.cell? ⟨wo.heap.size, 1, none⟩ = some (.slice x1 mk.doors.length x2) ∧ W2.cell? ⟨wo.heap.size, 2, none⟩ = some (.slice x3 mk.keys.length x4))) [] 10 #[false, false, false, false, false, false, false, false, false, false] rfl rfl (by kernel_rfl) ?_
          have hS : (fun (W2 : World) => (W2.cell? ⟨w.heap.size, 0, none⟩ = some (.slice (some ⟨mb, mo, none⟩) j c) ∧ W2.cell? ⟨w.heap.size, 1, none⟩ = some (.slice b no d)) ∧ (W2.cell? ⟨wo.heap.size, 0, none⟩ = some (.int .i64 mk.size) ∧ W2.cell? ⟨wo.heap.size, 1, none⟩ = some (.slice x1 mk.doors.length x2) ∧ W2.cell? ⟨wo.heap.size, 2, none⟩ = some (.slice x3 mk.keys.length x4))) W1.drew := FX.out _ (Below.refl _ _)
          refine wpAnyL_take (i := 0) (oi := { dst := some 38, op := Go.Op.load 55 (Go.Operand.tmp 9), type := 55, pos := "l10_worlds.go:188", after := #[], guard := none }) (v := ?qv0) rfl (by kernel_rfl) (by kernel_rfl) (by kernel_rfl) (by kernel_rfl) (fun _ _ _ h => h) (Or.inl ⟨by rfl, ?qh0⟩) hS ?qr0
          case qh0 => (intro wS hSw; (try dsimp only at hSw); go_split_ands; go_simp; try with_reducible rfl)
          try simp only [Act.put, List.setIfInBounds_toArray, List.set_cons_zero, List.set_cons_succ]
          refine wpAnyL_take (i := 1) (oi := { dst := some 39, op := Go.Op.load 55 (Go.Operand.tmp 9), type := 55, pos := "l10_worlds.go:188", after := #[], guard := none }) (v := ?qv1) rfl (by kernel_rfl) (by kernel_rfl) (by kernel_rfl) (by kernel_rfl) (fun _ _ _ h => h) (Or.inl ⟨by rfl, ?qh1⟩) hS ?qr1
          case qh1 => (intro wS hSw; (try dsimp only at hSw); go_split_ands; go_simp; try with_reducible rfl)
          try simp only [Act.put, List.setIfInBounds_toArray, List.set_cons_zero, List.set_cons_succ]
          refine wpAnyL_take (i := 2) (oi := { dst := some 40, op := Go.Op.load 30 (Go.Operand.tmp 2), type := 30, pos := "l10_worlds.go:188", after := #[], guard := none }) (v := ?qv2) rfl (by kernel_rfl) (by kernel_rfl) (by kernel_rfl) (by kernel_rfl) (fun _ _ _ h => h) (Or.inl ⟨by rfl, ?qh2⟩) hS ?qr2
          case qh2 => (intro wS hSw; (try dsimp only at hSw); go_split_ands; go_simp; try with_reducible rfl)
          try simp only [Act.put, List.setIfInBounds_toArray, List.set_cons_zero, List.set_cons_succ]
          refine wpAnyL_take (i := 3) (oi := { dst := some 41, op := Go.Op.move (Go.Operand.tmp 1), type := 3, pos := "l10_worlds.go:188", after := #[], guard := none }) (v := ?qv3) rfl (by kernel_rfl) (by kernel_rfl) (by kernel_rfl) (by kernel_rfl) (fun _ _ _ h => h) (Or.inl ⟨by rfl, ?qh3⟩) hS ?qr3
          case qh3 => (intro wS hSw; (try dsimp only at hSw); go_split_ands; go_simp; try with_reducible rfl)
          try simp only [Act.put, List.setIfInBounds_toArray, List.set_cons_zero, List.set_cons_succ]
          refine wpAnyL_take (i := 4) (oi := { dst := some 42, op := Go.Op.move (Go.Operand.tmp 6), type := 39, pos := "l10_worlds.go:188", after := #[], guard := none }) (v := ?qv4) rfl (by kernel_rfl) (by kernel_rfl) (by kernel_rfl) (by kernel_rfl) (fun _ _ _ h => h) (Or.inl ⟨by rfl, ?qh4⟩) hS ?qr4
          case qh4 => (intro wS hSw; (try dsimp only at hSw); go_split_ands; go_simp; try with_reducible rfl)
          try simp only [Act.put, List.setIfInBounds_toArray, List.set_cons_zero, List.set_cons_succ]
          refine wpAnyL_one (i := 5) (oi := { dst := some 43, op := Go.Op.call { callee := Go.Callee.value (Go.Operand.func 79), args := #[Go.Operand.tmp 40, Go.Operand.tmp 41, Go.Operand.tmp 42], argTypes := #[30, 3, 39] }, type := 3, pos := "l10_worlds.go:188", after := #[{ on := 2, ground := Go.Ground.data }, { on := 3, ground := Go.Ground.data }, { on := 4, ground := Go.Ground.data }], guard := none }) (by kernel_rfl) rfl (fun Kq5 hKq5 => ?_)
          refine step_call (by rfl) 79 #[.agg #[.slice (some ⟨mb, mo, none⟩) j c, .slice b no d], .int .i64 (ii : Int), .slice ra j rc] (by go_simp; try rfl) (KF2.out) ?_
          rintro e w2 ⟨rfl, hb2⟩
          refine ⟨_, rfl, ?_⟩
          have hSs : (fun (W2 : World) => (W2.cell? ⟨w.heap.size, 0, none⟩ = some (.slice (some ⟨mb, mo, none⟩) j c) ∧ W2.cell? ⟨w.heap.size, 1, none⟩ = some (.slice b no d)) ∧ (W2.cell? ⟨wo.heap.size, 0, none⟩ = some (.int .i64 mk.size) ∧ W2.cell? ⟨wo.heap.size, 1, none⟩ = some (.slice x1 mk.doors.length x2) ∧ W2.cell? ⟨wo.heap.size, 2, none⟩ = some (.slice x3 mk.keys.length x4))) w2 := FX.out _ hb2
          refine hKq5 _ _ (fun _ => hSs) ?_
          clear hS
          have hS := hSs
          try simp only [Act.put, List.setIfInBounds_toArray, List.set_cons_zero, List.set_cons_succ]
          refine wpAnyL_one (i := 6) (oi := { dst := some 44, op := Go.Op.call { callee := Go.Callee.value (Go.Operand.func 78), args := #[Go.Operand.tmp 39, Go.Operand.const (Go.Value.int Go.IntKind.i64 1), Go.Operand.tmp 43], argTypes := #[55, 3, 3] }, type := 3, pos := "l10_worlds.go:188", after := #[{ on := 1, ground := Go.Ground.data }, { on := 5, ground := Go.Ground.data }, { on := 5, ground := Go.Ground.chain }], guard := none }) (by kernel_rfl) rfl (fun Kq6 hKq6 => ?_)
          refine step_call (by rfl) 78 #[.agg #[.int .i64 mk.size, .slice x1 mk.doors.length x2, .slice x3 mk.keys.length x4], .int .i64 1, .int .i64 ks] (by go_simp; try rfl) (reachMk_any w2 lo hi mk x1 x3 x2 x4 (HMZ.out _ (HBW.out.drew.trans (hb2.mono hzW))) (Nat.le_trans (Nat.le_trans hz hzW) hb2.size) HV.out ks) ?_
          rintro e w3 ⟨rfl, hb3⟩
          refine ⟨_, rfl, ?_⟩
          have hSs : (fun (W2 : World) => (W2.cell? ⟨w.heap.size, 0, none⟩ = some (.slice (some ⟨mb, mo, none⟩) j c) ∧ W2.cell? ⟨w.heap.size, 1, none⟩ = some (.slice b no d)) ∧ (W2.cell? ⟨wo.heap.size, 0, none⟩ = some (.int .i64 mk.size) ∧ W2.cell? ⟨wo.heap.size, 1, none⟩ = some (.slice x1 mk.doors.length x2) ∧ W2.cell? ⟨wo.heap.size, 2, none⟩ = some (.slice x3 mk.keys.length x4))) w3 := FX.out _ (hb2.trans (hb3.mono hb2.size))
          refine hKq6 _ _ (fun _ => hSs) ?_
          clear hS
          have hS := hSs
          try simp only [Act.put, List.setIfInBounds_toArray, List.set_cons_zero, List.set_cons_succ]
          refine wpAnyL_one (i := 7) (oi := { dst := some 45, op := Go.Op.call { callee := Go.Callee.value (Go.Operand.func 77), args := #[Go.Operand.tmp 38, Go.Operand.tmp 44], argTypes := #[55, 3] }, type := 4, pos := "l10_worlds.go:188", after := #[{ on := 0, ground := Go.Ground.data }, { on := 6, ground := Go.Ground.data }, { on := 6, ground := Go.Ground.chain }], guard := none }) (by kernel_rfl) rfl (fun Kq7 hKq7 => ?_)
          refine step_call (by rfl) 77 #[.agg #[.int .i64 mk.size, .slice x1 mk.doors.length x2, .slice x3 mk.keys.length x4], .int .i64 ((M.mk (M.reachOf mk 0 ks) : Nat) : Int)] (by go_simp; try rfl) (hasGoal_any w3 mk x1 x3 x2 x4 HV.out _ (M.mk_lt9 HV.out ks)) ?_
          rintro e w4 ⟨rfl, hb4⟩
          refine ⟨_, rfl, ?_⟩
          have hSs : (fun (W2 : World) => (W2.cell? ⟨w.heap.size, 0, none⟩ = some (.slice (some ⟨mb, mo, none⟩) j c) ∧ W2.cell? ⟨w.heap.size, 1, none⟩ = some (.slice b no d)) ∧ (W2.cell? ⟨wo.heap.size, 0, none⟩ = some (.int .i64 mk.size) ∧ W2.cell? ⟨wo.heap.size, 1, none⟩ = some (.slice x1 mk.doors.length x2) ∧ W2.cell? ⟨wo.heap.size, 2, none⟩ = some (.slice x3 mk.keys.length x4))) w4 := FX.out _ ((hb2.trans (hb3.mono hb2.size)).trans (hb4.mono (Nat.le_trans hb2.size hb3.size)))
          refine hKq7 _ _ (fun _ => hSs) ?_
          clear hS
          have hS := hSs
          try simp only [Act.put, List.setIfInBounds_toArray, List.set_cons_zero, List.set_cons_succ]
          refine wpAnyL_take (i := 8) (oi := { dst := some 4, op := Go.Op.assign (Go.Operand.tmp 45), type := 4, pos := "l10_worlds.go:188", after := #[{ on := 7, ground := Go.Ground.data }, { on := 7, ground := Go.Ground.chain }, { on := 0, ground := Go.Ground.phase }, { on := 1, ground := Go.Ground.phase }, { on := 2, ground := Go.Ground.phase }, { on := 3, ground := Go.Ground.phase }, { on := 4, ground := Go.Ground.phase }, { on := 5, ground := Go.Ground.phase }, { on := 6, ground := Go.Ground.phase }, { on := 7, ground := Go.Ground.phase }], guard := none }) (v := ?qv8) rfl (by kernel_rfl) (by kernel_rfl) (by kernel_rfl) (by kernel_rfl) (fun _ _ _ h => h) (Or.inl ⟨by rfl, ?qh8⟩) hS ?qr8
          case qh8 => (intro wS hSw; (try dsimp only at hSw); go_split_ands; go_simp; try with_reducible rfl)
          try simp only [Act.put, List.setIfInBounds_toArray, List.set_cons_zero, List.set_cons_succ]
          refine wpAnyL_take (i := 9) (oi := { dst := some 5, op := Go.Op.assign (Go.Operand.const (Go.Value.bool true)), type := 4, pos := "l10_worlds.go:188", after := #[{ on := 8, ground := Go.Ground.chain }, { on := 0, ground := Go.Ground.phase }, { on := 1, ground := Go.Ground.phase }, { on := 2, ground := Go.Ground.phase }, { on := 3, ground := Go.Ground.phase }, { on := 4, ground := Go.Ground.phase }, { on := 5, ground := Go.Ground.phase }, { on := 6, ground := Go.Ground.phase }, { on := 7, ground := Go.Ground.phase }, { on := 8, ground := Go.Ground.phase }], guard := none }) (v := ?qv9) rfl (by kernel_rfl) (by kernel_rfl) (by kernel_rfl) (by kernel_rfl) (fun _ _ _ h => h) (Or.inl ⟨by rfl, ?qh9⟩) hS ?qr9
          case qh9 => (intro wS hSw; (try dsimp only at hSw); go_split_ands; go_simp; try with_reducible rfl)
          try simp only [Act.put, List.setIfInBounds_toArray, List.set_cons_zero, List.set_cons_succ]
          refine wpAnyL_done (by kernel_rfl) ?_ _
          · have HN2 := Lib.hid (((HBW.out.drew.trans (hb2.mono hzW)).trans (hb3.mono (Nat.le_trans hzW hb2.size))).trans (hb4.mono (Nat.le_trans hzW (Nat.le_trans hb2.size hb3.size))))
            clear hb2 hb3 hb4
            go_wp2_with fail
            go_ret2
            rw [CI3.out.1, CI3.out.2, show (mk.size - 1).toNat = mk.size.toNat - 1 by omega]
            exact ⟨rfl, HN2.out⟩
end C
end Go.Proofs.Ytbcobheiofajeaa
