/-
  CONTRACT of the model's l4Remain: for each node and set, by the number of both, the least number of steps in which one can win from there, or -1, in a new list; what lay in memory stays. Condition: a valid maze.
  CONTRACT of the model's FewestFrom; what lay in memory stays. No condition but that the maze reads so.
  CONTRACT of the model's RemainTable; what lay in memory stays. No condition but that the maze reads so.
-/
import Derived.Test.YtbpinhfjfjfbdaaQMath
import Derived.StillTailTactics
import Derived.Test.YtbpinhfjfjfbdaaLate
import Derived.Test.YtbpinhfjfjfbdaaStep
import Derived.IntWalk
import Derived.Test.YtbpinhfjfjfbdaaDoorsAt
import Derived.Test.YtbpinhfjfjfbdaaQTab
import Derived.Test.YtbpinhfjfjfbdaaCopy
namespace Go.Proofs.Ytbpinhfjfjfbdaa
open Go.RowKit
namespace C
set_option maxHeartbeats 6400000
set_option maxRecDepth 200000
theorem l4Remain_any (w : World) (lo hi : Nat) (m : M.Mz) (a b : Option Addr) (c d : Nat) (h : MzIn lo hi w m a c b d) (hz : hi ≤ w.heap.size) (V : M.Valid m) :
    Calls Try.prog 65 #[.agg #[.int .i64 m.size, .slice a m.doors.length c, .slice b m.keys.length d]] w (IntsPost w (M.remainL m)) := by
  obtain ⟨ii0, hi0, hz0, hzz1, hz2⟩ := info_parts infoI
  have H := Lib.hid h
  have HVA := Lib.hid V
  have v12 := V.size12
  have v1 := V.size1
  have vk := V.keysLen
  obtain ⟨sz, hsz'⟩ : ∃ n : Nat, n = M.size64 m := ⟨_, rfl⟩
  have HSZ := Lib.hid hsz'
  have hszi : (sz : Int) = m.size * 64 := by rw [hsz']; unfold M.size64; omega
  have hszb : sz ≤ 768 ∧ 64 ≤ sz := by omega
  have HIDL := Lib.hid (fun t (ht : M.StOk m t) => show M.idN t < sz by rw [hsz']; exact M.idN_lt ht)
  have HOKI := Lib.hid (fun i (hi : i < sz) => show M.StOk m (M.unid i) from M.unid_ok (by rw [← hsz']; exact hi))
  have HALL : Hid (M.tblN sz (M.midG m sz 0) = M.remainL m) := Lib.hid (by rw [hsz']; exact M.remain_all V)
  have HSAME := Lib.hid (fun n k (hnk : n ≤ k) (hh : ∀ i, i < sz → M.remO m (M.unid i) ≠ some n) => show M.tblN sz (M.midG m k 0) = M.remainL m by rw [hsz']; exact M.remain_same V hnk (by rw [← hsz']; exact hh))
  have HEND := Lib.hid (fun n => show M.tblN sz (M.midG m n sz) = M.tblN sz (M.midG m (n + 1) 0) by rw [hsz']; exact M.midG_end m n)
  have HNO := Lib.hid (fun i n (hi : i < sz) hh => M.mid_no V (i := i) (n := n) (by rw [← hsz']; exact hi) hh)
  have HYES := Lib.hid (fun i n (hi : i < sz) hc u (hu : u ∈ M.nexts m (M.stAt m (M.unid i).1 (M.unid i).2)) hr => M.rem_yes V (i := i) (n := n) (by rw [← hsz']; exact hi) hc (u := u) hu hr)
  have HSI := Lib.hid hszi
  clear h V hsz'
  go_enter Try.func65, Try.ntmps65
  go_upto_region 1 with fail
  refine wp_named ?_
  intro W hW
  have hb : Below w.heap.size w W := by rw [hW]; exact below_alloc _ _
  have x1 : Box3 W w.heap.size 29 (.int .i64 m.size) (.slice a m.doors.length c) (.slice b m.keys.length d) := by rw [hW]; exact Box3.new _ _ _ _ rfl
  have hws : W.heap.size = w.heap.size + 1 := by rw [hW]; simp
  clear hW
  obtain ⟨c0, c1, c2⟩ := x1.cells
  have X1 := Lib.hid x1
  have HB := Lib.hid hb
  clear x1 hb hszi
  go_wp2_with (at_make; refine wpList_make_full _ rfl _ _ 23 rfl W.heap.size 3 ii0 (.int .i64 0) 1 Try.underlying23 hi0 hz0 hzz1 .i64 .i64 _ _ sz rfl rfl HSI.out.symm HSI.out.symm (by rw [hz2]; omega) (by unfold maxLen; omega) (Nat.le_refl _) ?_; intro w1 hown1 hgrow1)
  rw [hws] at hown1
  have hb1 : Below W.heap.size W w1 := (Below.refl _ _).grown hgrow1 (Nat.le_refl _) (fun k e => by cases e)
  have HO1 : Hid (∃ xs : List Value, w1.ownsRow (w.heap.size + 1) 3 1 (.slice (some ⟨w.heap.size + 1, 0, none⟩) sz sz) sz xs) := Lib.hid ⟨_, hown1⟩
  have X2 := Lib.hid (X1.out.below hb1)
  have HB2 := Lib.hid (HB.out.trans (hb1.mono (by omega)))
  clear hown1 hgrow1 hb1 c0 c1 c2
  clear hws
  go_wp2_with fail
  go_loopw [4] (fun v4 wr => ∃ (k : Nat) (xs : List Value), k ≤ sz ∧ v4 = .int .i64 (k : Int) ∧ xs.take k = (M.encIs (M.tblN sz (M.midG m 1 0))).take k ∧ wr.ownsRow (w.heap.size + 1) 3 1 (.slice (some ⟨w.heap.size + 1, 0, none⟩) sz sz) sz xs ∧ Box3 wr w.heap.size 29 (.int .i64 m.size) (.slice a m.doors.length c) (.slice b m.keys.length d) ∧ Below w.heap.size w wr) (fun v4 _ => sz - (intOf v4).toNat)
  case atStart =>
    obtain ⟨xs, hx⟩ := HO1.out
    exact ⟨0, xs, Nat.zero_le _, rfl, by simp, hx, X2.out, HB2.out⟩
  case round =>
    obtain ⟨k, xs, hk, rfl, ht, hown, hbx, hlow⟩ := hrel
    have HT := Lib.hid ht
    have HO := Lib.hid hown
    have BX := Lib.hid hbx
    have LO := Lib.hid hlow
    have hzr := hlow.size
    have HXL := Lib.hid (show xs.length = sz by have := hown.1; omega)
    have hol := (hown.lt _ rfl).2
    clear ht hown hbx hlow
    by_cases hlt : k < sz
    · obtain ⟨u, hu⟩ : ∃ u, xs[k]? = some u := ⟨_, List.getElem?_eq_getElem (by have := HXL.out; omega)⟩
      have hdst : wr.cell? ⟨w.heap.size + 1, k, none⟩ = some u := by rw [HO.out.cellAt k (by omega), hu]
      have hfr : wr.frozen? ⟨w.heap.size + 1, k, none⟩ = false := HO.out.frozenAt k
      have HS := Lib.hid (HO.out.stored k (.int .i64 (-1)))
      have HTA := Lib.hid (M.tblN_at (g := M.midG m 1 0) hlt)
      have HST : Hid (M.midG m 1 0 k = if ((k / 64 : Nat) : Int) = m.size - 1 then some 0 else none) := Lib.hid (by
        rw [M.midG_zero]
        show M.cutO 1 (M.remO m (M.unid k)) = _
        rw [M.remain_start]
        unfold M.wonB M.unid
        simp only [beq_iff_eq])
      have hq : (k : Int).tdiv 64 = ((k / 64 : Nat) : Int) := by rw [Int.tdiv_eq_ediv_of_nonneg (by omega)]; omega
      have hwq : IntKind.i64.wrap ((k / 64 : Nat) : Int) = ((k / 64 : Nat) : Int) := IntWalk.i64_in _ (by omega)
      have hws : IntKind.i64.wrap (m.size - 1) = m.size - 1 := IntWalk.i64_in _ (by omega)
      clear hu
      go_upto_region 6 with fail
      refine wp_named ?_
      intro W5 hW5
      have O5 : Hid (W5.ownsRow (w.heap.size + 1) 3 1 (.slice (some ⟨w.heap.size + 1, 0, none⟩) sz sz) sz (xs.set k (.int .i64 (-1)))) := Lib.hid (by rw [hW5]; exact HS.out.1)
      have B5 : Hid (Box3 W5 w.heap.size 29 (.int .i64 m.size) (.slice a m.doors.length c) (.slice b m.keys.length d)) := Lib.hid (by rw [hW5]; exact BX.out.turned (Turned.setCell _ _ _ _ (Nat.le_refl _) (Nat.lt_succ_self _)) (.inl (by omega)))
      have L5 : Hid (Below w.heap.size w W5) := Lib.hid (by rw [hW5]; exact LO.out.setCell (p := ⟨w.heap.size + 1, k, none⟩) (by show w.heap.size ≤ w.heap.size + 1; omega) _)
      have XL5 : Hid ((xs.set k (.int .i64 (-1))).length = sz) := Lib.hid (by rw [List.length_set]; exact HXL.out)
      have HT5 : Hid ((xs.set k (.int .i64 (-1))).take k = (M.encIs (M.tblN sz (M.midG m 1 0))).take k) := Lib.hid (by rw [List.take_set_of_le (Nat.le_refl _)]; exact HT.out)
      have HG5 : Hid ((xs.set k (.int .i64 (-1)))[k]? = some (.int .i64 (-1))) := Lib.hid (by rw [List.getElem?_set_self (by have := HXL.out; omega)])
      have hol5 := (O5.out.lt _ rfl).2
      obtain ⟨c0, c1, c2⟩ := B5.out.cells
      clear hW5 HS hdst hfr HT HO BX LO HXL
      generalize xs.set k (.int .i64 (-1)) = ys at *
      by_cases hw : ((k / 64 : Nat) : Int) = m.size - 1
      · have hdst : W5.cell? ⟨w.heap.size + 1, k, none⟩ = some (.int .i64 (-1)) := by rw [O5.out.cellAt k (by omega)]; exact HG5.out
        have hfr : W5.frozen? ⟨w.heap.size + 1, k, none⟩ = false := O5.out.frozenAt k
        have HS := Lib.hid (O5.out.stored k (.int .i64 0))
        have HV : Hid (M.optI (M.midG m 1 0 k) = 0) := Lib.hid (by rw [HST.out, if_pos hw]; rfl)
        rw [hw] at hq hwq
        go_wp2_with fail
        go_roundw
        case rel =>
          refine ⟨k + 1, ys.set k (.int .i64 0), by omega, by go_num, ?_, HS.out.1, B5.out.turned (Turned.setCell _ _ _ _ (Nat.le_refl _) (Nat.lt_succ_self _)) (.inl (by omega)), L5.out.setCell (p := ⟨w.heap.size + 1, k, none⟩) (by show w.heap.size ≤ w.heap.size + 1; omega) _⟩
          have h1 : k < ys.length := by have := XL5.out; omega
          rw [List.take_add_one, List.take_add_one, List.take_set_of_le (Nat.le_refl _), HT5.out, List.getElem?_set_self h1, HTA.out, HV.out]
        case measure => simp [intOf]; omega
      · have HV : Hid (M.optI (M.midG m 1 0 k) = -1) := Lib.hid (by rw [HST.out, if_neg hw]; rfl)
        go_wp2_with fail
        go_roundw
        case rel =>
          refine ⟨k + 1, ys, by omega, by go_num, ?_, O5.out, B5.out, L5.out⟩
          rw [List.take_add_one, List.take_add_one, HT5.out, HG5.out, HTA.out, HV.out]
        case measure => simp [intOf]; omega
    · obtain rfl : sz = k := by omega
      have hall : xs = M.encIs (M.tblN sz (M.midG m 1 0)) := by
        have := HT.out
        rw [List.take_of_length_le (by have := HXL.out; omega), List.take_of_length_le (by rw [M.encIs_len, M.tblN_len]; exact Nat.le_refl _)] at this
        exact this
      subst hall
      have HLN := Lib.hid (fun g => M.tblN_len sz g)
      clear HT HXL X2 HO1 HB2
      go_wp2_with fail
      go_loopw [5, 6, 7, 8, 9] (fun v5 _ _ _ _ wr => ∃ (n : Nat), n < sz ∧ v5 = .int .i64 ((n : Int) + 1) ∧ wr.ownsRow (w.heap.size + 1) 3 1 (.slice (some ⟨w.heap.size + 1, 0, none⟩) sz sz) sz (M.encIs (M.tblN sz (M.midG m (n + 1) 0))) ∧ Box3 wr w.heap.size 29 (.int .i64 m.size) (.slice a m.doors.length c) (.slice b m.keys.length d) ∧ Below w.heap.size w wr) (fun v5 _ _ _ _ _ => sz - (intOf v5).toNat)
      case atStart => exact ⟨0, by omega, rfl, HO.out, BX.out, LO.out⟩
      case round =>
        obtain ⟨n, hn, rfl, hou, hbx, hlow⟩ := hrel
        have OU := Lib.hid hou
        have BX := Lib.hid hbx
        have LO := Lib.hid hlow
        have hzr := hlow.size
        have hob : w.heap.size + 1 < wr.heap.size := (hou.lt _ rfl).2
        clear hou hbx hlow
        by_cases hnl : n + 1 < sz
        · have hnli : (n : Int) + 1 < (sz : Int) := by omega
          go_wp2_with fail
          go_loopw [6, 7, 8, 9] (fun v6 v7 _ _ wr => ∃ (i : Nat) (ch : Bool), i ≤ sz ∧ v7 = .int .i64 (i : Int) ∧ v6 = .bool ch ∧ (ch = false → ∀ j, j < i → M.remO m (M.unid j) ≠ some (n + 1)) ∧ wr.ownsRow (w.heap.size + 1) 3 1 (.slice (some ⟨w.heap.size + 1, 0, none⟩) sz sz) sz (M.encIs (M.tblN sz (M.midG m (n + 1) i))) ∧
            Box3 wr w.heap.size 29 (.int .i64 m.size) (.slice a m.doors.length c) (.slice b m.keys.length d) ∧ Below w.heap.size w wr) (fun _ v7 _ _ _ => sz - (intOf v7).toNat)
          case atStart => exact ⟨0, false, Nat.zero_le _, rfl, rfl, fun _ j hj => absurd hj (Nat.not_lt_zero _), OU.out, BX.out, LO.out⟩
          case round =>
            obtain ⟨i, ch, hi', rfl, rfl, hch, hou, hbx, hlow⟩ := hrel
            have CH := Lib.hid hch
            have OU := Lib.hid hou
            have BX := Lib.hid hbx
            have LO := Lib.hid hlow
            have hzr := hlow.size
            have hob : w.heap.size + 1 < wr.heap.size := (hou.lt _ rfl).2
            clear hch hou hbx hlow
            by_cases hil : i < sz
            · have hqi : ((i / 64 : Nat) : Int) < m.size := by have := HSI.out; omega
              have HUI : Hid (M.unid i = (((i / 64 : Nat) : Int), ((i % 64 : Nat) : Int))) := Lib.hid rfl
              have hq : (i : Int).tdiv 64 = ((i / 64 : Nat) : Int) := by rw [Int.tdiv_eq_ediv_of_nonneg (by omega)]; omega
              have hr : (i : Int).tmod 64 = ((i % 64 : Nat) : Int) := by rw [Int.tmod_eq_emod_of_nonneg (by omega)]; omega
              have hr64 : ((i % 64 : Nat) : Int) < 64 := by omega
              have hwq : IntKind.i64.wrap ((i / 64 : Nat) : Int) = ((i / 64 : Nat) : Int) := IntWalk.i64_in _ (by omega)
              have hwr : IntKind.i64.wrap ((i % 64 : Nat) : Int) = ((i % 64 : Nat) : Int) := IntWalk.i64_in _ (by omega)
              generalize i / 64 = q at *
              generalize i % 64 = r at *
              have hkk : q < m.keys.length := by omega
              obtain ⟨kb, koff, hkb, _, hkbl, hkc⟩ := (H.out.below LO.out hz).keys.at_ (k := q) (by rw [M.encIs_len]; omega)
              subst hkb
              have kx := hkc _ _ (M.encIs_at hkk)
              rw [← M.keyAt_eq hkk] at kx
              have hkd : q < d := by have := H.out.d1; omega
              have hkbw : kb < wr.heap.size := by omega
              have HSx := Lib.hid (M.stAt_ok HVA.out (x := (q : Int)) (set := (r : Int)) (by omega) (by omega) (by omega) (by omega))
              have CS : Hid (Calls Try.prog 67 #[.agg #[.int .i64 m.size, .slice a m.doors.length c, .slice (some ⟨kb, koff, none⟩) m.keys.length d], .int .i64 (q : Int), .int .i64 (bits .or .i64 (r : Int) (M.keyAt m (q : Int)))] wr.drew (IntsPost wr.drew (M.ids (M.nexts m (M.stAt m (q : Int) (r : Int)))))) := Lib.hid (l4Step_any wr.drew lo hi m a (some ⟨kb, koff, none⟩) c d (H.out.below (Below.drawnN LO.out 1) hz) (by show hi ≤ wr.heap.size; omega) HVA.out (M.stAt m (q : Int) (r : Int)) HSx.out)
              have HNO1 := Lib.hid (HNO.out i n hil)
              have HYES1 := Lib.hid (HYES.out i n hil)
              have HNX : Hid (M.nexts m (M.stAt m (M.unid i).1 (M.unid i).2) = M.nexts m (M.stAt m (q : Int) (r : Int))) := Lib.hid (by rw [HUI.out])
              rw [HNX.out] at HNO1 HYES1
              have HIN := Lib.hid (fun t (ht : t ∈ M.nexts m (M.stAt m (q : Int) (r : Int))) => M.nexts_ok HVA.out HSx.out ht)
              have HTL := Lib.hid (M.ids_len (M.nexts m (M.stAt m (q : Int) (r : Int))))
              have hTl := M.nextsTo_len m (M.stAt m (q : Int) (r : Int)) m.size.toNat
              have hTl' : (M.nexts m (M.stAt m (q : Int) (r : Int))).length ≤ 12 := by show (M.nextsTo m (M.stAt m (q : Int) (r : Int)) m.size.toNat).length ≤ 12; omega
              clear hTl hkc
              clear HNX
              generalize M.nexts m (M.stAt m (q : Int) (r : Int)) = T at *
              generalize M.keyAt m (q : Int) = ky at *
              go_wp2_with fail
              refine wp_region_late2 (fun (wq : World) => wq.cell? ⟨w.heap.size, 0, none⟩ = some (.int .i64 m.size) ∧ wq.cell? ⟨w.heap.size, 1, none⟩ = some (.slice a m.doors.length c) ∧ wq.cell? ⟨w.heap.size, 2, none⟩ = some (.slice (some ⟨kb, koff, none⟩) m.keys.length d) ∧ wq.cell? ⟨kb, koff + q, none⟩ = some (.int .i64 ky)) [] 14 #[false, false, false, false, false, false, false, false, false, false, false, false, false, false] rfl rfl (by kernel_rfl) ?_
              have hS : (fun (wq : World) => wq.cell? ⟨w.heap.size, 0, none⟩ = some (.int .i64 m.size) ∧ wq.cell? ⟨w.heap.size, 1, none⟩ = some (.slice a m.doors.length c) ∧ wq.cell? ⟨w.heap.size, 2, none⟩ = some (.slice (some ⟨kb, koff, none⟩) m.keys.length d) ∧ wq.cell? ⟨kb, koff + q, none⟩ = some (.int .i64 ky)) wr.drew := ⟨BX.out.cells.1, BX.out.cells.2.1, BX.out.cells.2.2, kx⟩
              refine wpAnyL_take (i := 0) (oi := { dst := some 44, op := Go.Op.load 29 (Go.Operand.tmp 1), type := 29, pos := "l4_ways.go:87", after := #[], guard := none }) (v := ?sv0) rfl (by kernel_rfl) (by kernel_rfl) (by kernel_rfl) (by kernel_rfl) (fun _ _ _ h => h) (Or.inl ⟨by rfl, ?sh0⟩) hS ?sr0
              case sh0 => (intro wS hSw; (try dsimp only at hSw); go_split_ands; go_simp; try with_reducible rfl)
              try simp only [Act.put, List.setIfInBounds_toArray, List.set_cons_zero, List.set_cons_succ]
              refine wpAnyL_take (i := 1) (oi := { dst := some 45, op := Go.Op.move (Go.Operand.tmp 7), type := 3, pos := "l4_ways.go:87", after := #[], guard := none }) (v := ?sv1) rfl (by kernel_rfl) (by kernel_rfl) (by kernel_rfl) (by kernel_rfl) (fun _ _ _ h => h) (Or.inl ⟨by rfl, ?sh1⟩) hS ?sr1
              case sh1 => (intro wS hSw; (try dsimp only at hSw); go_split_ands; go_simp; try with_reducible rfl)
              try simp only [Act.put, List.setIfInBounds_toArray, List.set_cons_zero, List.set_cons_succ]
              refine wpAnyL_take (i := 2) (oi := { dst := some 46, op := Go.Op.binOp Go.BinOp.quo 3 (Go.Operand.tmp 45) (Go.Operand.const (Go.Value.int Go.IntKind.i64 64)) 3, type := 3, pos := "l4_ways.go:87", after := #[{ on := 1, ground := Go.Ground.data }], guard := none }) (v := ?sv2) rfl (by kernel_rfl) (by kernel_rfl) (by kernel_rfl) (by kernel_rfl) (fun _ _ _ h => h) (Or.inl ⟨by rfl, ?sh2⟩) hS ?sr2
              case sh2 => (intro wS hSw; (try dsimp only at hSw); go_split_ands; go_simp; try with_reducible rfl)
              try simp only [Act.put, List.setIfInBounds_toArray, List.set_cons_zero, List.set_cons_succ]
              refine wpAnyL_take (i := 3) (oi := { dst := some 47, op := Go.Op.move (Go.Operand.tmp 7), type := 3, pos := "l4_ways.go:87", after := #[], guard := none }) (v := ?sv3) rfl (by kernel_rfl) (by kernel_rfl) (by kernel_rfl) (by kernel_rfl) (fun _ _ _ h => h) (Or.inl ⟨by rfl, ?sh3⟩) hS ?sr3
              case sh3 => (intro wS hSw; (try dsimp only at hSw); go_split_ands; go_simp; try with_reducible rfl)
              try simp only [Act.put, List.setIfInBounds_toArray, List.set_cons_zero, List.set_cons_succ]
              refine wpAnyL_take (i := 4) (oi := { dst := some 48, op := Go.Op.binOp Go.BinOp.rem 3 (Go.Operand.tmp 47) (Go.Operand.const (Go.Value.int Go.IntKind.i64 64)) 3, type := 3, pos := "l4_ways.go:87", after := #[{ on := 3, ground := Go.Ground.data }], guard := none }) (v := ?sv4) rfl (by kernel_rfl) (by kernel_rfl) (by kernel_rfl) (by kernel_rfl) (fun _ _ _ h => h) (Or.inl ⟨by rfl, ?sh4⟩) hS ?sr4
              case sh4 => (intro wS hSw; (try dsimp only at hSw); go_split_ands; go_simp; try with_reducible rfl)
              try simp only [Act.put, List.setIfInBounds_toArray, List.set_cons_zero, List.set_cons_succ]
              refine wpAnyL_take (i := 5) (oi := { dst := some 49, op := Go.Op.fieldAddr 29 (Go.Operand.tmp 1) 2, type := 0, pos := "l4_ways.go:87", after := #[], guard := none }) (v := ?sv5) rfl (by kernel_rfl) (by kernel_rfl) (by kernel_rfl) (by kernel_rfl) (fun _ _ _ h => h) (Or.inl ⟨by rfl, ?sh5⟩) hS ?sr5
              case sh5 => (intro wS hSw; (try dsimp only at hSw); go_split_ands; go_simp; try with_reducible rfl)
              try simp only [Act.put, List.setIfInBounds_toArray, List.set_cons_zero, List.set_cons_succ]
              refine wpAnyL_take (i := 6) (oi := { dst := some 50, op := Go.Op.load 23 (Go.Operand.tmp 49), type := 23, pos := "l4_ways.go:87", after := #[{ on := 5, ground := Go.Ground.data }], guard := none }) (v := ?sv6) rfl (by kernel_rfl) (by kernel_rfl) (by kernel_rfl) (by kernel_rfl) (fun _ _ _ h => h) (Or.inl ⟨by rfl, ?sh6⟩) hS ?sr6
              case sh6 => (intro wS hSw; (try dsimp only at hSw); go_split_ands; go_simp; try with_reducible rfl)
              try simp only [Act.put, List.setIfInBounds_toArray, List.set_cons_zero, List.set_cons_succ]
              refine wpAnyL_take (i := 7) (oi := { dst := some 51, op := Go.Op.move (Go.Operand.tmp 7), type := 3, pos := "l4_ways.go:87", after := #[], guard := none }) (v := ?sv7) rfl (by kernel_rfl) (by kernel_rfl) (by kernel_rfl) (by kernel_rfl) (fun _ _ _ h => h) (Or.inl ⟨by rfl, ?sh7⟩) hS ?sr7
              case sh7 => (intro wS hSw; (try dsimp only at hSw); go_split_ands; go_simp; try with_reducible rfl)
              try simp only [Act.put, List.setIfInBounds_toArray, List.set_cons_zero, List.set_cons_succ]
              refine wpAnyL_take (i := 8) (oi := { dst := some 52, op := Go.Op.binOp Go.BinOp.quo 3 (Go.Operand.tmp 51) (Go.Operand.const (Go.Value.int Go.IntKind.i64 64)) 3, type := 3, pos := "l4_ways.go:87", after := #[{ on := 7, ground := Go.Ground.data }], guard := none }) (v := ?sv8) rfl (by kernel_rfl) (by kernel_rfl) (by kernel_rfl) (by kernel_rfl) (fun _ _ _ h => h) (Or.inl ⟨by rfl, ?sh8⟩) hS ?sr8
              case sh8 => (intro wS hSw; (try dsimp only at hSw); go_split_ands; go_simp; try with_reducible rfl)
              try simp only [Act.put, List.setIfInBounds_toArray, List.set_cons_zero, List.set_cons_succ]
              refine wpAnyL_take (i := 9) (oi := { dst := some 53, op := Go.Op.indexAddr 23 (Go.Operand.tmp 50) (Go.Operand.tmp 52), type := 0, pos := "l4_ways.go:87", after := #[{ on := 6, ground := Go.Ground.data }, { on := 8, ground := Go.Ground.data }], guard := none }) (v := ?sv9) rfl (by kernel_rfl) (by kernel_rfl) (by kernel_rfl) (by kernel_rfl) (fun _ _ _ h => h) (Or.inl ⟨by rfl, ?sh9⟩) hS ?sr9
              case sh9 => (intro wS hSw; (try dsimp only at hSw); go_split_ands; go_simp; try with_reducible rfl)
              try simp only [Act.put, List.setIfInBounds_toArray, List.set_cons_zero, List.set_cons_succ]
              refine wpAnyL_take (i := 10) (oi := { dst := some 54, op := Go.Op.load 3 (Go.Operand.tmp 53), type := 3, pos := "l4_ways.go:87", after := #[{ on := 9, ground := Go.Ground.data }], guard := none }) (v := ?sv10) rfl (by kernel_rfl) (by kernel_rfl) (by kernel_rfl) (by kernel_rfl) (fun _ _ _ h => h) (Or.inl ⟨by rfl, ?sh10⟩) hS ?sr10
              case sh10 => (intro wS hSw; (try dsimp only at hSw); go_split_ands; go_simp; try with_reducible rfl)
              try simp only [Act.put, List.setIfInBounds_toArray, List.set_cons_zero, List.set_cons_succ]
              refine wpAnyL_take (i := 11) (oi := { dst := some 55, op := Go.Op.binOp Go.BinOp.or 3 (Go.Operand.tmp 48) (Go.Operand.tmp 54) 3, type := 3, pos := "l4_ways.go:87", after := #[{ on := 4, ground := Go.Ground.data }, { on := 10, ground := Go.Ground.data }], guard := none }) (v := ?sv11) rfl (by kernel_rfl) (by kernel_rfl) (by kernel_rfl) (by kernel_rfl) (fun _ _ _ h => h) (Or.inl ⟨by rfl, ?sh11⟩) hS ?sr11
              case sh11 => (intro wS hSw; (try dsimp only at hSw); go_split_ands; go_simp; try with_reducible rfl)
              try simp only [Act.put, List.setIfInBounds_toArray, List.set_cons_zero, List.set_cons_succ]
              refine wpAnyL_one (i := 12) (oi := { dst := some 56, op := Go.Op.call { callee := Go.Callee.value (Go.Operand.func 67), args := #[Go.Operand.tmp 44, Go.Operand.tmp 46, Go.Operand.tmp 55], argTypes := #[29, 3, 3] }, type := 23, pos := "l4_ways.go:87", after := #[{ on := 0, ground := Go.Ground.data }, { on := 2, ground := Go.Ground.data }, { on := 11, ground := Go.Ground.data }], guard := none }) (by kernel_rfl) rfl (fun Ks12 hKs12 => ?_)
              refine step_call (by rfl) 67 #[.agg #[.int .i64 m.size, .slice a m.doors.length c, .slice (some ⟨kb, koff, none⟩) m.keys.length d], .int .i64 (q : Int), .int .i64 (bits .or .i64 (r : Int) ky)] (by go_simp; try rfl) (CS.out) ?_
              rintro e w5 ⟨a5, c5, rfl, hr5, hq5, hq6, hb5⟩
              refine ⟨_, rfl, ?_⟩
              have hb5x : Below wr.heap.size wr w5 := (Below.refl wr.heap.size wr).drew.trans hb5
              have X5 := Lib.hid (BX.out.below hb5x)
              have LO5 := Lib.hid (LO.out.trans (hb5x.mono hzr))
              have hsz5 := hb5x.size
              have hSs : (fun (wq : World) => wq.cell? ⟨w.heap.size, 0, none⟩ = some (.int .i64 m.size) ∧ wq.cell? ⟨w.heap.size, 1, none⟩ = some (.slice a m.doors.length c) ∧ wq.cell? ⟨w.heap.size, 2, none⟩ = some (.slice (some ⟨kb, koff, none⟩) m.keys.length d) ∧ wq.cell? ⟨kb, koff + q, none⟩ = some (.int .i64 ky)) w5 := ⟨X5.out.cells.1, X5.out.cells.2.1, X5.out.cells.2.2, (hb5x.cell (p := ⟨kb, koff + q, none⟩) hkbw).trans kx⟩
              refine hKs12 _ _ (fun _ => hSs) ?_
              clear hS
              have hS := hSs
              try simp only [Act.put, List.setIfInBounds_toArray, List.set_cons_zero, List.set_cons_succ]
              refine wpAnyL_take (i := 13) (oi := { dst := some 8, op := Go.Op.assign (Go.Operand.tmp 56), type := 23, pos := "l4_ways.go:87", after := #[{ on := 12, ground := Go.Ground.data }, { on := 12, ground := Go.Ground.chain }, { on := 0, ground := Go.Ground.phase }, { on := 1, ground := Go.Ground.phase }, { on := 2, ground := Go.Ground.phase }, { on := 3, ground := Go.Ground.phase }, { on := 4, ground := Go.Ground.phase }, { on := 5, ground := Go.Ground.phase }, { on := 6, ground := Go.Ground.phase }, { on := 7, ground := Go.Ground.phase }, { on := 8, ground := Go.Ground.phase }, { on := 9, ground := Go.Ground.phase }, { on := 10, ground := Go.Ground.phase }, { on := 11, ground := Go.Ground.phase }, { on := 12, ground := Go.Ground.phase }], guard := none }) (v := ?sv13) rfl (by kernel_rfl) (by kernel_rfl) (by kernel_rfl) (by kernel_rfl) (fun _ _ _ h => h) (Or.inl ⟨by rfl, ?sh13⟩) hS ?sr13
              case sh13 => (intro wS hSw; (try dsimp only at hSw); go_split_ands; go_simp; try with_reducible rfl)
              try simp only [Act.put, List.setIfInBounds_toArray, List.set_cons_zero, List.set_cons_succ]
              refine wpAnyL_done (by kernel_rfl) ?_ _
              have R6 : Hid (RowIn wr.heap.size w5.heap.size w5 a5 (M.encIs (M.ids T))) := Lib.hid hr5.row
              have OU5 := Lib.hid (own_below OU.out hb5x)
              rw [HTL.out]
              have hob5 : w.heap.size + 1 < wr.heap.size := hob
              clear hr5 hb5 hb5x hq hr hSs hwq hwr kx hr64 CS BX OU
              generalize wr.heap.size = g9 at *
              go_wp2_with fail
              go_loopw [6, 9] (fun v6 v9 wr => ∃ (j : Nat) (fd : Bool), j ≤ T.length ∧ v9 = .int .i64 (j : Int) ∧ v6 = .bool (ch || fd) ∧ (fd = true → M.remO m (M.unid i) = some (n + 1)) ∧ (fd = false → ∀ u ∈ T.take j, M.remO m u ≠ some n) ∧
                wr.ownsRow (w.heap.size + 1) 3 1 (.slice (some ⟨w.heap.size + 1, 0, none⟩) sz sz) sz (M.encIs (M.tblN sz (M.midG m (n + 1) (if fd = true then i + 1 else i)))) ∧ Box3 wr w.heap.size 29 (.int .i64 m.size) (.slice a m.doors.length c) (.slice (some ⟨kb, koff, none⟩) m.keys.length d) ∧ RowIn g9 w5.heap.size wr a5 (M.encIs (M.ids T)) ∧ Below w.heap.size w wr ∧ w5.heap.size ≤ wr.heap.size) (fun _ v9 _ => T.length - (intOf v9).toNat)
              case atStart => exact ⟨0, false, Nat.zero_le _, rfl, by cases ch <;> rfl, fun h => (by cases h), fun _ u hu => (by simp at hu), OU5.out, X5.out, R6.out, LO5.out, Nat.le_refl _⟩
              case round =>
                obtain ⟨j, fd, hj, rfl, rfl, hfd, hnf, hoj, hbx, hrow, hlow, hszw⟩ := hrel
                have OJ := Lib.hid hoj
                have BJ := Lib.hid hbx
                have RJ := Lib.hid hrow
                have WJ := Lib.hid hlow
                have hoj2 : w.heap.size + 1 < wr.heap.size := (hoj.lt _ rfl).2
                have hzj := hlow.size
                clear hoj hbx hrow hlow
                cases fd with
                | true =>
                  have HF := Lib.hid (hfd rfl)
                  have z0 : wr.cell? ⟨w.heap.size + 1, i, none⟩ = some (.int .i64 ((n : Int) + 1)) := by
                    have := OJ.out.cellAt i (by omega)
                    rw [if_pos rfl, M.tblN_at hil, ← M.mid_yes HF.out] at this
                    simp only [if_true] at this
                    exact this
                  have OJ1 : Hid (wr.ownsRow (w.heap.size + 1) 3 1 (.slice (some ⟨w.heap.size + 1, 0, none⟩) sz sz) sz (M.encIs (M.tblN sz (M.midG m (n + 1) (i + 1))))) := Lib.hid OJ.out
                  rw [Bool.or_true]
                  have hn1 : ¬ (n : Int) + 1 < 0 := by omega
                  clear hfd hnf
                  by_cases hjl : j < T.length
                  · go_wp2_with fail
                    go_roundw
                    case rel => exact ⟨i + 1, true, by omega, by go_num, rfl, fun h => (by cases h), OJ1.out, BJ.out, WJ.out⟩
                    case measure => simp [intOf]; omega
                  · obtain rfl : j = T.length := by omega
                    go_wp2_with fail
                    go_roundw
                    case rel => exact ⟨i + 1, true, by omega, by go_num, rfl, fun h => (by cases h), OJ1.out, BJ.out, WJ.out⟩
                    case measure => simp [intOf]; omega
                | false =>
                  have NF := Lib.hid (hnf rfl)
                  have OJ1 : Hid (wr.ownsRow (w.heap.size + 1) 3 1 (.slice (some ⟨w.heap.size + 1, 0, none⟩) sz sz) sz (M.encIs (M.tblN sz (M.midG m (n + 1) i)))) := Lib.hid OJ.out
                  have z0 : wr.cell? ⟨w.heap.size + 1, i, none⟩ = some (.int .i64 (M.optI (M.cutO (n + 1) (M.remO m (M.unid i))))) := by rw [OJ1.out.cellAt i (by omega), M.tblN_at hil, M.midG_at]
                  rw [Bool.or_false]
                  clear hfd hnf OJ
                  by_cases hjl : j < T.length
                  · cases hcut : M.cutO (n + 1) (M.remO m (M.unid i)) with
                    | some v =>
                      have HX := Lib.hid (HNO1.out fun h => by rw [hcut] at h; cases h)
                      rw [hcut, M.optI_some] at z0
                      have hv0 : ¬ (v : Int) < 0 := by omega
                      go_wp2_with fail
                      go_roundw
                      case rel =>
                        have OX := OJ1.out
                        rw [HX.out.1] at OX
                        refine ⟨i + 1, ch, by omega, by go_num, rfl, fun hc j' hj' => ?_, OX, BJ.out, WJ.out⟩
                        rcases Nat.lt_or_ge j' i with h1 | h1
                        · exact CH.out hc j' h1
                        · obtain rfl : j' = i := by omega
                          exact HX.out.2
                      case measure => simp [intOf]; omega
                    | none =>
                      rw [hcut, M.optI_none] at z0
                      have HC := Lib.hid hcut
                      obtain ⟨rb, roff, hra, hrb1, hrb2, hrc⟩ := RJ.out.at_ (k := j) (by rw [M.encIs_len, M.ids_len]; exact hjl)
                      subst hra
                      have y0 := hrc _ _ (M.ids_at hjl)
                      have HSt := Lib.hid (HIN.out _ (List.getElem_mem hjl))
                      have HTT := Lib.hid (show T.take (j + 1) = T.take j ++ [T[j]] from List.take_succ_eq_append_getElem hjl)
                      have HYT := Lib.hid (fun (hrr : M.remO m T[j] = some n) => HYES1.out hcut T[j] (List.getElem_mem hjl) hrr)
                      have hrbl : rb < wr.heap.size := by omega
                      clear hrc hcut
                      generalize T[j] = t at *
                      have hti := HIDL.out t HSt.out
                      have z1 : wr.cell? ⟨w.heap.size + 1, M.idN t, none⟩ = some (.int .i64 (M.optI (M.midG m (n + 1) i (M.idN t)))) := by rw [OJ1.out.cellAt _ (by omega), M.tblN_at hti]
                      have hwn : IntKind.i64.wrap ((n : Int) + 1 - 1) = (n : Int) := by rw [show (n : Int) + 1 - 1 = (n : Int) by omega]; exact IntWalk.i64_in _ (by omega)
                      by_cases hrt : M.remO m t = some n
                      · have HF := Lib.hid (HYT.out hrt)
                        rw [(M.mid_next m n i HSt.out).2 hrt, M.optI_some] at z1
                        have hfr : wr.frozen? ⟨w.heap.size + 1, i, none⟩ = false := OJ1.out.frozenAt _
                        have HSET := Lib.hid (M.tblN_set (n := sz) (M.midG m (n + 1) i) i (n + 1))
                        have HMY := Lib.hid (M.mid_yes HF.out)
                        have OS := Lib.hid (OJ1.out.stored i (.int .i64 ((n : Int) + 1)))
                        generalize M.idN t = it at *
                        go_wp2_with fail
                        go_roundw
                        case rel =>
                          refine ⟨j + 1, true, by omega, by go_num, by rw [Bool.or_true], fun _ => HF.out, fun h => (by cases h), ?_, BJ.out.turned (Turned.setCell _ _ _ _ (Nat.le_refl _) (Nat.lt_succ_self _)) (.inl (by omega)), RJ.out.turned (Turned.setCell _ _ _ _ (Nat.le_refl _) (Nat.lt_succ_self _)) (by omega) (.inr (by omega)), WJ.out.setCell (p := ⟨w.heap.size + 1, i, none⟩) (by show w.heap.size ≤ w.heap.size + 1; omega) _, by simp; omega⟩
                          rw [if_pos rfl, ← HMY.out, ← HSET.out]
                          exact OS.out.1
                        case measure => simp [intOf]; omega
                      · have hne : ¬ M.optI (M.midG m (n + 1) i (M.idN t)) = (n : Int) := fun e => hrt ((M.mid_next m n i HSt.out).1 (M.optI_eq.1 e))
                        have NF2 : Hid (∀ u ∈ T.take (j + 1), M.remO m u ≠ some n) := Lib.hid (fun u hu => by
                          rw [HTT.out, List.mem_append, List.mem_singleton] at hu
                          rcases hu with hu | rfl
                          · exact NF.out u hu
                          · exact hrt)
                        generalize M.optI (M.midG m (n + 1) i (M.idN t)) = vt at *
                        generalize M.idN t = it at *
                        go_wp2_with fail
                        go_roundw
                        case rel => exact ⟨j + 1, false, by omega, by go_num, by rw [Bool.or_false], fun h => (by cases h), fun _ => NF2.out, OJ1.out, BJ.out, RJ.out, WJ.out, hszw⟩
                        case measure => simp [intOf]; omega
                  · obtain rfl : j = T.length := by omega
                    have HX := Lib.hid (HNO1.out fun _ u hu => NF.out u (by rw [List.take_length]; exact hu))
                    clear z0
                    go_wp2_with fail
                    go_roundw
                    case rel =>
                      have OX := OJ1.out
                      rw [HX.out.1] at OX
                      refine ⟨i + 1, ch, by omega, by go_num, rfl, fun hc j' hj' => ?_, OX, BJ.out, WJ.out⟩
                      rcases Nat.lt_or_ge j' i with h1 | h1
                      · exact CH.out hc j' h1
                      · obtain rfl : j' = i := by omega
                        exact HX.out.2
                    case measure => simp [intOf]; omega
            · obtain rfl : i = sz := by omega
              have OE := Lib.hid (show wr.ownsRow (w.heap.size + 1) 3 1 (.slice (some ⟨w.heap.size + 1, 0, none⟩) i i) i (M.encIs (M.tblN i (M.midG m (n + 1 + 1) 0))) by rw [← HEND.out]; exact OU.out)
              cases ch with
              | true =>
                go_wp2_with fail
                go_roundw
                case rel => exact ⟨n + 1, by omega, by go_num, OE.out, BX.out, LO.out⟩
                case measure => simp [intOf]; omega
              | false =>
                have HR := Lib.hid (HSAME.out (n + 1) (n + 1 + 1) (Nat.le_succ _) (CH.out rfl))
                go_wp2_with fail
                go_ret
                rw [← HR.out]
                exact ints_end (by rw [HLN.out]; exact own_weak OE.out (by omega)) LO.out
        · obtain rfl : sz = n + 1 := by omega
          go_wp2_with fail
          go_ret
          rw [← HALL.out]
          exact ints_end (by rw [HLN.out]; exact own_weak OU.out (by omega)) LO.out
end C
end Go.Proofs.Ytbpinhfjfjfbdaa
namespace Go.Proofs.Ytbpinhfjfjfbdaa
open Go.RowKit
namespace M
theorem ffO_no {m : Mz} {x set : Int} (h : mzNodeB m x = false) : ffO m x set = none := by
  unfold ffO
  unfold mzNodeB at h
  rw [if_neg]
  intro e
  rw [Bool.and_eq_true, Bool.and_eq_true] at e
  rw [e.1, e.2.1] at h
  cases h
theorem ffO_no2 {m : Mz} {x set : Int} (h : setB set = false) : ffO m x set = none := by
  unfold ffO
  rw [h, Bool.and_false, Bool.and_false]
  rfl
theorem ffO_yes {m : Mz} {x set : Int} (h : mzNodeB m x = true) (h2 : setB set = true) : mazeB m = true ∧ 0 ≤ x ∧ x < m.size ∧ 0 ≤ set ∧ set < 64 ∧ ffO m x set = remO m (x, set) := by
  unfold mzNodeB at h
  rw [Bool.and_eq_true] at h
  have h3 : 0 ≤ x ∧ x < m.size := by have := h.2; unfold nodeB at this; have := of_decide_eq_true this; omega
  have h4 : 0 ≤ set ∧ set < 64 := by unfold setB at h2; exact of_decide_eq_true h2
  refine ⟨h.1, h3.1, h3.2, h4.1, h4.2, ?_⟩
  unfold ffO remO
  rw [h.1, h.2, h2]
  rfl
end M
namespace C
set_option maxHeartbeats 3200000
set_option maxRecDepth 20000
def RemPost (w : World) (m : M.Mz) (e : Ending) (w' : World) : Prop :=
  ∃ a c, e = .returned (.slice a (M.size64 m) c) ∧ OwnAt w.heap.size w'.heap.size w' 3 a (M.encIs (M.tblL (M.size64 m) (M.remO m))) ∧ Below w.heap.size w w'
theorem remainT_any (w : World) (lo hi : Nat) (m : M.Mz) (a b : Option Addr) (c d : Nat) (h : MzIn lo hi w m a c b d) (hz : hi ≤ w.heap.size) (V : M.Valid m) :
    Calls Try.prog 65 #[.agg #[.int .i64 m.size, .slice a m.doors.length c, .slice b m.keys.length d]] w (RemPost w m) := by
  refine (l4Remain_any w lo hi m a b c d h hz V).mono ?_
  rintro e w1 ⟨ra, rc, rfl, ho, _, _, hb⟩
  have hl : (M.remainL m).length = M.size64 m := M.tblL_len _ _
  exact ⟨ra, rc, by rw [hl], ho, hb⟩
theorem specFewF_lw (w : World) (lo hi : Nat) (m : M.Mz) (a b : Option Addr) (c d : Nat) (h : MzIn lo hi w m a c b d) (hz : hi ≤ w.heap.size) (_h1 : m.doors.length ≤ 1048576) (_h2 : m.keys.length ≤ 1048576) (x : Int) (_x1 : -9223372036854775808 ≤ x) (_x2 : x ≤ 9223372036854775807) (set : Int) (_s1 : -9223372036854775808 ≤ set) (_s2 : set ≤ 9223372036854775807) :
    Calls Try.prog 37 #[.agg #[.int .i64 m.size, .slice a m.doors.length c, .slice b m.keys.length d], .int .i64 x, .int .i64 set] w (OptPost w (M.ffO m x set)) := by
  have H := Lib.hid h
  clear h
  go_enter Try.func37, Try.ntmps37
  go_upto_region 1 with fail
  refine wp_named ?_
  intro W hW
  have hb : Below w.heap.size w W := by rw [hW]; exact below_alloc _ _
  have x1 : Box3 W w.heap.size 29 (.int .i64 m.size) (.slice a m.doors.length c) (.slice b m.keys.length d) := by rw [hW]; exact Box3.new _ _ _ _ rfl
  clear hW
  have hzw := hb.size
  obtain ⟨c0, c1, c2⟩ := x1.cells
  have HIM := Lib.hid (l2Node_any W lo hi m a b c d x (H.out.below hb hz) (by omega))
  go_wp2_with fail
  refine (HIM.out).mono ?_
  rintro e w1 ⟨rfl, hb1⟩
  have X1 := Lib.hid (x1.below hb1)
  have HB1 := Lib.hid (hb.trans (hb1.mono hzw))
  have hz1 := hb1.size
  clear hb hb1 x1 c0 c1 c2 HIM
  cases q0 : M.mzNodeB m x with
  | false =>
    have HF : Hid (M.ffO m x set = none) := Lib.hid (M.ffO_no q0)
    clear q0
    go_wp2_with fail
    go_ret2
    rw [HF.out]
    exact ⟨rfl, HB1.out⟩
  | true =>
    have HM := Lib.hid q0
    clear q0
    go_wp2_with fail
    refine (l2Set_any _ _).mono ?_
    rintro e w9 ⟨rfl, rfl⟩
    cases q1 : M.setB set with
    | false =>
      have HF : Hid (M.ffO m x set = none) := Lib.hid (M.ffO_no2 q1)
      clear q1
      go_wp2_with fail
      go_ret2
      rw [HF.out]
      exact ⟨rfl, HB1.out⟩
    | true =>
      obtain ⟨hmz, hx0, hx1, hs0, hs1, hff⟩ := M.ffO_yes HM.out q1
      have HVA := Lib.hid (M.valid_of hmz)
      have HF := Lib.hid hff
      have HSO : Hid (M.StOk m (x, set)) := Lib.hid ⟨hx0, hx1, hs0, hs1⟩
      have v1 := HVA.out.size1
      have v12 := HVA.out.size12
      clear q1 hff hmz
      obtain ⟨c0, c1, c2⟩ := X1.out.cells
      have CR := Lib.hid (remainT_any w1 lo hi m a b c d (H.out.below HB1.out hz) (by omega) HVA.out)
      go_wp2_with fail
      refine (CR.out).mono ?_
      rintro e w2 ⟨ra, rc, rfl, ho2, hb2⟩
      have HB2 := Lib.hid (HB1.out.trans (hb2.mono HB1.out.size))
      have HID := Lib.hid (l4Id_any x set w2 hx0 (by omega) hs0 (by omega))
      have hil : M.idN (x, set) < M.size64 m := M.idN_lt HSO.out
      obtain ⟨sb, off, hsa, _, hsb, hcell⟩ := ho2.row.at_ (k := M.idN (x, set)) (by rw [M.encIs_len, M.tblL_len]; exact hil)
      subst hsa
      have y0 := hcell _ _ (M.tblL_at hil)
      rw [M.unid_idN HSO.out] at y0
      have hsz : M.size64 m ≤ 768 := by unfold M.size64; omega
      have HT := Lib.hid (l4Told_any (M.remO m (x, set)) w2)
      clear hcell ho2 hb2 c0 c1 c2 CR
      generalize M.idN (x, set) = i at *
      generalize M.size64 m = sz at *
      go_wp2_with fail
      refine (HID.out).mono ?_
      rintro e w3 ⟨rfl, rfl⟩
      go_wp2_with fail
      refine (HT.out).mono ?_
      rintro e w4 ⟨rfl, rfl⟩
      go_wp2_with fail
      go_ret2
      rw [HF.out]
      exact ⟨rfl, HB2.out⟩
end C
end Go.Proofs.Ytbpinhfjfjfbdaa
namespace Go.Proofs.Ytbpinhfjfjfbdaa
open Go.RowKit
namespace M
/-- a row of the table within the table of all states -/
theorem row_within {m : Mz} {k sz : Nat} (h : k * 64 + 64 ≤ sz) (j : Nat) (u : Value) (hu : (encIs (rowTo m k 64))[j]? = some u) : (encIs (tblL sz (remO m)))[k * 64 + j]? = some u := by
  have hj : j < 64 := by
    have := (List.getElem?_eq_some_iff.1 hu).1
    rw [encIs_len, rowTo_len] at this
    exact this
  rw [rowTo_at hj] at hu
  rw [tblL_at (by omega), ← hu]
  unfold unid
  rw [show (k * 64 + j) / 64 = k by omega, show (k * 64 + j) % 64 = j by omega]
end M
namespace C
set_option maxHeartbeats 3200000
set_option maxRecDepth 20000
/-- a copy of a row that is not empty -/
theorem l1Own_tab (w : World) (lo hi : Nat) (b off : Nat) (c : Nat) (l : List Int) (h : RowIn lo hi w (some ⟨b, off, none⟩) (M.encIs l)) (hz : hi ≤ w.heap.size) (hl : l.length ≤ 1048576) (h0 : 0 < l.length) :
    Calls Try.prog 71 #[.slice (some ⟨b, off, none⟩) l.length c] w (fun e w' => ∃ g c', e = .returned (slV (g, l.length, c')) ∧ w'.ownsRow w.heap.size 3 1 (slV (g, l.length, c')) l.length (M.encIs l) ∧ Below w.heap.size w w') := by
  obtain ⟨i0, hi0, hz0, hz1, hz2⟩ := info_parts infoI
  have ho := ownsRow_empty w w.heap.size 3 1 (Nat.le_refl _)
  have HO := Lib.hid ho
  have hcells : ∀ j u, (M.encIs l)[j]? = some u → (w.alloc (.cells #[] 3)).cell? ((⟨b, off, none⟩ : Addr).add j) = some u := by
    intro j u hu
    rcases h with h | ⟨b', off', e, _, hb, hc⟩
    · rw [h] at hu; simp at hu
    · injection e with e
      injection e with e1 e2 _
      subst e1; subst e2
      rw [Addr.add_lit]
      exact (World.cell?_alloc_lt w _ _ (show b < _ by omega)).trans (hc j u hu)
  have HC := Lib.hid hcells
  have HL9 := Lib.hid (M.encIs_len l)
  clear hcells ho h
  go_enter Try.func71, Try.ntmps71
  go_wp2_with (at_builtin; refine wpList_append_lies _ rfl _ _ 23 rfl w.heap.size 3 i0 (.int .i64 0) 1 8 Try.underlying23 hi0 hz0 hz1 hz2 rfl (by decide) (.slice (some ⟨w.heap.size, 0, none⟩) 0 0) _ _ rfl HO.out ⟨b, off, none⟩ l.length c (M.encIs l) rfl (by rw [M.encIs_len, Nat.mul_one]) HC.out (fun x hx => by unfold M.encIs at hx; obtain ⟨z, _, rfl⟩ := List.mem_map.1 hx; rfl) h0 (by unfold maxLen; omega) (by omega) (by simp) _ rfl ?_; intro g7 c7 w7 hown7 hgrow7 hat7 hlt7)
  go_ret
  rw [Nat.zero_add, List.nil_append] at hown7
  exact ⟨g7, c7, rfl, hown7, (below_alloc w _).grown hgrow7 (by simp) (own_base HO.out)⟩
theorem remainU_any (w : World) (lo hi : Nat) (m : M.Mz) (a b : Option Addr) (c d : Nat) (h : MzIn lo hi w m a c b d) (hz : hi ≤ w.heap.size) (V : M.Valid m) :
    Calls Try.prog 65 #[.agg #[.int .i64 m.size, .slice a m.doors.length c, .slice b m.keys.length d]] w (fun e w' => ∃ a c, e = .returned (.slice a (M.size64 m) c) ∧ OwnAt w.heap.size w'.heap.size w' 3 a (M.encIs (M.tblL (M.size64 m) (M.remO m))) ∧ M.size64 m ≤ c ∧ c ≤ 9223372036854775807 ∧ Below w.heap.size w w') := by
  refine (l4Remain_any w lo hi m a b c d h hz V).mono ?_
  rintro e w1 ⟨ra, rc, rfl, ho, h1, h2, hb⟩
  have hl : (M.remainL m).length = M.size64 m := M.tblL_len _ _
  exact ⟨ra, rc, by rw [hl], ho, by rw [← hl]; exact h1, h2, hb⟩
theorem specRemT_lw (w : World) (lo hi : Nat) (m : M.Mz) (a b : Option Addr) (c d : Nat) (h : MzIn lo hi w m a c b d) (hz : hi ≤ w.heap.size) (_h1 : m.doors.length ≤ 1048576) (_h2 : m.keys.length ≤ 1048576) :
    Calls Try.prog 32 #[.agg #[.int .i64 m.size, .slice a m.doors.length c, .slice b m.keys.length d]] w (IntssOkPost w (M.remTV m) (M.mazeB m)) := by
  obtain ⟨tt0, ti0, tz0, tzz1, tz2⟩ := info_parts infoII
  have H := Lib.hid h
  clear h
  go_enter Try.func32, Try.ntmps32
  go_upto_region 2 with fail
  refine wp_named ?_
  intro W hW
  have hb : Below w.heap.size w W := by rw [hW]; exact (below_alloc _ _).alloc (by simp) _
  have x1 : Box3 W w.heap.size 29 (.int .i64 m.size) (.slice a m.doors.length c) (.slice b m.keys.length d) := by rw [hW]; exact (Box3.new _ _ _ _ rfl).alloc _
  have o1 : W.ownsRow (w.heap.size + 1) 23 1 (.slice (some ⟨w.heap.size + 1, 0, none⟩) 0 0) 0 [] := by
    rw [hW]
    have := ownsRow_empty (w.alloc (.cells #[.int .i64 m.size, .slice a m.doors.length c, .slice b m.keys.length d] 29)) (w.heap.size + 1) 23 1 (by simp)
    rw [World.size_alloc] at this
    exact this
  clear hW
  have hzw := hb.size
  have O1 := Lib.hid o1
  have hol : w.heap.size + 1 < W.heap.size := (o1.lt _ rfl).2
  obtain ⟨c0, c1, c2⟩ := x1.cells
  have HIM := Lib.hid (specMaze_any W lo hi m a b c d (H.out.below hb hz) (by omega))
  go_wp2_with fail
  refine (HIM.out).mono ?_
  rintro e w1 ⟨rfl, hb1⟩
  have X1 := Lib.hid (x1.below hb1)
  have HB1 := Lib.hid (hb.trans (hb1.mono hzw))
  have O2 := Lib.hid (own_below O1.out hb1)
  have hz1 := hb1.size
  clear hb hb1 x1 c0 c1 c2 o1
  cases q0 : M.mazeB m with
  | false =>
    have HF : Hid (M.remTV m = []) := Lib.hid (by unfold M.remTV; rw [q0]; rfl)
    have HM := Lib.hid q0
    clear q0
    go_wp2_with fail
    go_ret2
    rw [HF.out, HM.out]
    exact intssOk_end (ll := []) (V := []) (RowsT.nil _ _) (own_weak O2.out (by omega)) (fun _ h => (by cases h)) HB1.out
  | true =>
    have HVA := Lib.hid (M.valid_of q0)
    have v1 := HVA.out.size1
    have v12 := HVA.out.size12
    obtain ⟨n, hn'⟩ : ∃ n : Nat, (n : Int) = m.size := ⟨m.size.toNat, by omega⟩
    have hn12 : n ≤ 12 := by omega
    have HF : Hid (M.remTV m = M.remTo m n) := Lib.hid (by unfold M.remTV; rw [if_pos q0]; congr 1; omega)
    have HM := Lib.hid q0
    have HN := Lib.hid hn'
    clear q0
    have CR := Lib.hid (remainU_any w1 lo hi m a b c d (H.out.below HB1.out hz) (by have := HB1.out.size; omega) HVA.out)
    obtain ⟨c0, c1, c2⟩ := X1.out.cells
    have hsz : M.size64 m = n * 64 := by unfold M.size64; omega
    clear hn'
    go_wp2_with fail
    refine (CR.out).mono ?_
    rintro e w2 ⟨ra, rc, rfl, ho2, hrc1, hrc2, hb2⟩
    rw [hsz] at ho2 hrc1 ⊢
    have hs2 := hb2.size
    have X2 := Lib.hid (X1.out.below hb2)
    have B2 := Lib.hid (HB1.out.trans (hb2.mono HB1.out.size))
    have O3 := Lib.hid (own_below O2.out hb2)
    have R2 : Hid (RowIn w1.heap.size w2.heap.size w2 ra (M.encIs (M.tblL (n * 64) (M.remO m)))) := Lib.hid ho2.row
    have hn0 : 0 < n := by have := HN.out; omega
    obtain ⟨sb, off, hsa, hsb1, hsb2, hcell⟩ := R2.out.at_ (k := 0) (by rw [M.encIs_len, M.tblL_len]; omega)
    subst hsa
    have hrc : Hid (n * 64 ≤ rc) := Lib.hid hrc1
    clear ho2 hb2 c0 c1 c2 hcell
    have h0l : w.heap.size + 1 < w1.heap.size := by omega
    generalize w1.heap.size = glo at *
    go_wp2_with fail
    go_loopw [4, 6] (fun v4 v6 wr => ∃ (k g5 c5 : Nat) (V : List Sl), k ≤ n ∧ v6 = .int .i64 (k : Int) ∧ v4 = .slice (some ⟨g5, 0, none⟩) k c5 ∧ wr.ownsRow (w.heap.size + 1) 23 1 v4 k (V.map slV) ∧ RowsT (w.heap.size + 1) wr V (M.remTo m k) ∧ (∀ u ∈ V, g5 ≠ u.1) ∧
      RowIn glo w2.heap.size wr (some ⟨sb, off, none⟩) (M.encIs (M.tblL (n * 64) (M.remO m))) ∧ (g5 < glo ∨ w2.heap.size ≤ g5) ∧ Box3 wr w.heap.size 29 (.int .i64 m.size) (.slice a m.doors.length c) (.slice b m.keys.length d) ∧ Below w.heap.size w wr ∧ w2.heap.size ≤ wr.heap.size) (fun _ v6 _ => n - (intOf v6).toNat)
    case atStart => exact ⟨0, w.heap.size + 1, 0, [], Nat.zero_le _, rfl, rfl, O3.out, RowsT.nil _ _, fun _ h => (by cases h), R2.out, .inl h0l, X2.out, B2.out, Nat.le_refl _⟩
    case round =>
      obtain ⟨k, g5, c5, V, hk, rfl, rfl, ho, hr, hd, hrow, hzn, hx, hlow, hsw⟩ := hrel
      have OO := Lib.hid ho
      have RR := Lib.hid hr
      have DD := Lib.hid hd
      have RW := Lib.hid hrow
      have XX := Lib.hid hx
      have LL := Lib.hid hlow
      have hzr := hlow.size
      have hxl9 := hx.lt
      obtain ⟨c0, c1, c2⟩ := hx.cells
      rw [← HN.out] at c0
      clear ho hr hd hrow hx hlow
      by_cases hkl : k < n
      · have ID1 := Lib.hid (l4Id_any (k : Int) 0 wr (by omega) (by omega) (by decide) (by decide))
        have ID2 := Lib.hid (l4Id_any ((k : Int) + 1) 0 wr (by omega) (by omega) (by decide) (by decide))
        have e1 : M.idN ((k : Int), 0) = k * 64 := by unfold M.idN; simp only; omega
        have e2 : M.idN ((k : Int) + 1, 0) = k * 64 + 64 := by unfold M.idN; simp only; omega
        rw [e1] at ID1
        rw [e2] at ID2
        have hwk : IntKind.i64.wrap ((k : Int) + 1) = (k : Int) + 1 := IntWalk.i64_in _ (by omega)
        have hrw : RowIn glo w2.heap.size wr (some ⟨sb, off + k * 64, none⟩) (M.encIs (M.rowTo m k 64)) := by
          rcases RW.out with h | ⟨b', off', e, h1, h2, hc⟩
          · have := congrArg List.length h
            rw [M.encIs_len, M.tblL_len] at this
            simp at this
            omega
          · injection e with e
            injection e with e3 e4 _
            subst e3; subst e4
            refine .inr ⟨sb, off + k * 64, rfl, h1, h2, fun j u hu => ?_⟩
            rw [Nat.add_assoc]
            exact hc _ _ (M.row_within (by omega) j u hu)
        have hle := M.rowTo_len m k 64
        have OWN := Lib.hid (fun cc => l1Own_tab wr glo w2.heap.size sb (off + k * 64) cc (M.rowTo m k 64) hrw hsw (by omega) (by omega))
        rw [hle] at OWN
        have HST := Lib.hid (M.remTo_succ m k)
        have HLE := Lib.hid hle
        have hrcs := hrc.out
        clear hrw e1 e2 hle c1 c2
        go_wp2_with fail
        refine (ID1.out).mono ?_
        rintro e w5 ⟨rfl, rfl⟩
        go_wp2_with fail
        refine (ID2.out).mono ?_
        rintro e w5 ⟨rfl, rfl⟩
        go_wp2_with fail
        refine (OWN.out _).mono ?_
        rintro e w6 ⟨g7, c7, rfl, ho7, hb7⟩
        have hs7 := hb7.size
        have O7 := Lib.hid ho7
        have O5 := Lib.hid (own_below OO.out hb7)
        have R5 := Lib.hid (RR.out.below hb7)
        have RW5 := Lib.hid (RW.out.turned (Turned.of_below hb7 0 0) hsw (.inr (Nat.zero_le _)))
        have X5 := Lib.hid (XX.out.below hb7)
        have L5 := Lib.hid (LL.out.trans (hb7.mono hzr))
        have UB := Lib.hid (fun u (hu : u ∈ V) => (RR.out.baseM hu).2)
        have hg5 : w.heap.size + 1 ≤ g5 ∧ g5 < wr.heap.size := OO.out.lt _ rfl
        have hg7 : wr.heap.size ≤ g7 ∧ g7 < w6.heap.size := ho7.lt _ rfl
        have HNX := Lib.hid (own_ne_box O5.out X5.out (by decide))
        clear ho7 hb7 OO RR RW XX LL
        unfold slV
        go_wp2_with (at_builtin; refine wpList_append_lies _ rfl _ _ 38 rfl (w.heap.size + 1) 23 tt0 (.slice none 0 0) 1 24 Try.underlying38 ti0 tz0 tzz1 tz2 rfl (by decide) (.slice (some ⟨g5, 0, none⟩) k c5) _ _ rfl (O5.out.alloc _) ⟨w6.heap.size, 0, none⟩ 1 1 [.slice (some ⟨g7, 0, none⟩) 64 c7] rfl rfl (cell_one_new _ _ _) (fun x hx => by simp at hx; subst hx; rfl) (by decide) (by unfold maxLen; omega) (by omega) (by simp; omega) _ rfl ?_; intro g8 c8 w8 hown8 hgrow8 hat8 hlt8)
        go_roundw
        case rel =>
          have hs8 := hgrow8.size
          rw [World.size_alloc] at hs8 hat8
          have hdd := DD.out
          have hub := UB.out
          have hob : (Value.slice (some ⟨g5, 0, none⟩) k c5).ownBlock = some g5 := rfl
          rw [hob] at hat8 hgrow8
          have h75 : g7 ≠ g5 := by omega
          have hg8 : ∀ u ∈ V, g8 ≠ u.1 := fun u hu => by
            rcases hat8 with e | e
            · have e' : g5 = g8 := by injection e
              rw [← e']
              exact hdd u hu
            · have := hub u hu
              omega
          have R8 := (R5.out.alloc (.cells #[.slice (some ⟨g7, 0, none⟩) 64 c7] 23)).grown hgrow8 (fun u hu e => hdd u hu (by injection e))
          have O8 := (O7.out.alloc (.cells #[.slice (some ⟨g7, 0, none⟩) 64 c7] 23)).kept hgrow8 (.inr (fun e => h75 (by injection e)))
          refine ⟨k + 1, g8, c8, V ++ [(g7, 64, c7)], by omega, by go_num, rfl, ?_, ?_, fun u hu => ?_, (RW5.out.turned (Turned.of_below (below_alloc w6 (.cells #[.slice (some ⟨g7, 0, none⟩) 64 c7] 23)) 0 0) (by omega) (.inr (Nat.zero_le _))).grown hgrow8 (by rw [World.size_alloc]; omega) (fun z hz => by injection hz with hz; omega), ?_, (X5.out.alloc _).grown hgrow8 HNX.out, (L5.out.alloc (by omega) _).grown hgrow8 (by simp; omega) (fun z hz => by injection hz with hz; omega), by omega⟩
          · rw [List.map_append]
            exact hown8
          · rw [HST.out]
            refine R8.push (by rw [HLE.out]) (by rw [HLE.out]; exact own_weak O8 (by omega)) (fun v hv e => by have := hub v hv; have e' : v.1 = g7 := e; omega)
          · rw [List.mem_append, List.mem_singleton] at hu
            rcases hu with hu | rfl
            · exact hg8 u hu
            · show g8 ≠ g7
              rcases hat8 with e | e
              · have e' : g5 = g8 := by injection e
                omega
              · omega
          · rcases hat8 with e | e
            · have e' : g5 = g8 := by injection e
              omega
            · omega
        case measure => simp [intOf]; omega
      · obtain rfl : k = n := by omega
        go_wp2_with fail
        go_ret2
        rw [HF.out, HM.out]
        refine intssOk_end (V := V) ?_ (by rw [M.remTo_len]; exact own_weak OO.out (by omega)) (fun u hu e => DD.out u hu (by injection e)) LL.out
        exact ⟨RR.out.len, fun i u l hu hl => ⟨(RR.out.row i u l hu hl).1, own_weak (RR.out.row i u l hu hl).2 (by omega)⟩, RR.out.apart⟩
end C
end Go.Proofs.Ytbpinhfjfjfbdaa
