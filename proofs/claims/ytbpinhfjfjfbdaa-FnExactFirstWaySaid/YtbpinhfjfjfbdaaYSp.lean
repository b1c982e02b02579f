/-
  CONTRACT of the model's l4Remain: for each node and set, by the number of both, the least number of steps in which one can win from there, or -1, in a new list; what lay in memory stays. Condition: a valid maze.
  CONTRACT of the model's FewestFrom; what lay in memory stays. No condition but that the maze reads so.
  CONTRACT of the model's FirstWay; what lay in memory stays. No condition but that the maze reads so.
-/
import Derived.Test.YtbpinhfjfjfbdaaYMath
import Derived.StillTailTactics
import Derived.Test.YtbpinhfjfjfbdaaLate
import Derived.Test.YtbpinhfjfjfbdaaStep
import Derived.IntWalk
import Derived.Test.YtbpinhfjfjfbdaaDoorsAt
import Derived.Deep.AppendLies
namespace Go.Proofs.Ytbpinhfjfjfbdaa
open Go.RowKit
namespace C
set_option maxHeartbeats 6400000
set_option maxRecDepth 200000
theorem l4Remain_any (w : World) (lo hi : Nat) (m : M.Mz) (a b : Option Addr) (c d : Nat) (h : MzIn lo hi w m a c b d) (hz : hi ≤ w.heap.size) (V : M.Valid m) :
    Calls Try.prog 65 #[.agg #[.int .i64 m.size, .slice a m.doors.length c, .slice b m.keys.length d]] w (IntsPost w (M.remainL m)) := by
  obtain ⟨ii0, hi0, hz0, hzz1, hz2⟩ := info_parts infoI
  have H := Lib.hid h
  have HVA := Lib.hid V
  have v12 := V.size12
  have v1 := V.size1
  have vk := V.keysLen
  obtain ⟨sz, hsz'⟩ : ∃ n : Nat, n = M.size64 m := ⟨_, rfl⟩
  have HSZ := Lib.hid hsz'
  have hszi : (sz : Int) = m.size * 64 := by rw [hsz']; unfold M.size64; omega
  have hszb : sz ≤ 768 ∧ 64 ≤ sz := by omega
  have HIDL := Lib.hid (fun t (ht : M.StOk m t) => show M.idN t < sz by rw [hsz']; exact M.idN_lt ht)
  have HOKI := Lib.hid (fun i (hi : i < sz) => show M.StOk m (M.unid i) from M.unid_ok (by rw [← hsz']; exact hi))
  have HALL : Hid (M.tblN sz (M.midG m sz 0) = M.remainL m) := Lib.hid (by rw [hsz']; exact M.remain_all V)
  have HSAME := Lib.hid (fun n k (hnk : n ≤ k) (hh : ∀ i, i < sz → M.remO m (M.unid i) ≠ some n) => show M.tblN sz (M.midG m k 0) = M.remainL m by rw [hsz']; exact M.remain_same V hnk (by rw [← hsz']; exact hh))
  have HEND := Lib.hid (fun n => show M.tblN sz (M.midG m n sz) = M.tblN sz (M.midG m (n + 1) 0) by rw [hsz']; exact M.midG_end m n)
  have HNO := Lib.hid (fun i n (hi : i < sz) hh => M.mid_no V (i := i) (n := n) (by rw [← hsz']; exact hi) hh)
  have HYES := Lib.hid (fun i n (hi : i < sz) hc u (hu : u ∈ M.nexts m (M.stAt m (M.unid i).1 (M.unid i).2)) hr => M.rem_yes V (i := i) (n := n) (by rw [← hsz']; exact hi) hc (u := u) hu hr)
  have HSI := Lib.hid hszi
  clear h V hsz'
  go_enter Try.func65, Try.ntmps65
  go_upto_region 1 with fail
  refine wp_named ?_
  intro W hW
  have hb : Below w.heap.size w W := by rw [hW]; exact below_alloc _ _
  have x1 : Box3 W w.heap.size 29 (.int .i64 m.size) (.slice a m.doors.length c) (.slice b m.keys.length d) := by rw [hW]; exact Box3.new _ _ _ _ rfl
  have hws : W.heap.size = w.heap.size + 1 := by rw [hW]; simp
  clear hW
  obtain ⟨c0, c1, c2⟩ := x1.cells
  have X1 := Lib.hid x1
  have HB := Lib.hid hb
  clear x1 hb hszi
  go_wp2_with (at_make; refine wpList_make_full _ rfl _ _ 23 rfl W.heap.size 3 ii0 (.int .i64 0) 1 Try.underlying23 hi0 hz0 hzz1 .i64 .i64 _ _ sz rfl rfl HSI.out.symm HSI.out.symm (by rw [hz2]; omega) (by unfold maxLen; omega) (Nat.le_refl _) ?_; intro w1 hown1 hgrow1)
  rw [hws] at hown1
  have hb1 : Below W.heap.size W w1 := (Below.refl _ _).grown hgrow1 (Nat.le_refl _) (fun k e => by cases e)
  have HO1 : Hid (∃ xs : List Value, w1.ownsRow (w.heap.size + 1) 3 1 (.slice (some ⟨w.heap.size + 1, 0, none⟩) sz sz) sz xs) := Lib.hid ⟨_, hown1⟩
  have X2 := Lib.hid (X1.out.below hb1)
  have HB2 := Lib.hid (HB.out.trans (hb1.mono (by omega)))
  clear hown1 hgrow1 hb1 c0 c1 c2
  clear hws
  go_wp2_with fail
  go_loopw [4] (fun v4 wr => ∃ (k : Nat) (xs : List Value), k ≤ sz ∧ v4 = .int .i64 (k : Int) ∧ xs.take k = (M.encIs (M.tblN sz (M.midG m 1 0))).take k ∧ wr.ownsRow (w.heap.size + 1) 3 1 (.slice (some ⟨w.heap.size + 1, 0, none⟩) sz sz) sz xs ∧ Box3 wr w.heap.size 29 (.int .i64 m.size) (.slice a m.doors.length c) (.slice b m.keys.length d) ∧ Below w.heap.size w wr) (fun v4 _ => sz - (intOf v4).toNat)
  case atStart =>
    obtain ⟨xs, hx⟩ := HO1.out
    exact ⟨0, xs, Nat.zero_le _, rfl, by simp, hx, X2.out, HB2.out⟩
  case round =>
    obtain ⟨k, xs, hk, rfl, ht, hown, hbx, hlow⟩ := hrel
    have HT := Lib.hid ht
    have HO := Lib.hid hown
    have BX := Lib.hid hbx
    have LO := Lib.hid hlow
    have hzr := hlow.size
    have HXL := Lib.hid (show xs.length = sz by have := hown.1; omega)
    have hol := (hown.lt _ rfl).2
    clear ht hown hbx hlow
    by_cases hlt : k < sz
    · obtain ⟨u, hu⟩ : ∃ u, xs[k]? = some u := ⟨_, List.getElem?_eq_getElem (by have := HXL.out; omega)⟩
      have hdst : wr.cell? ⟨w.heap.size + 1, k, none⟩ = some u := by rw [HO.out.cellAt k (by omega), hu]
      have hfr : wr.frozen? ⟨w.heap.size + 1, k, none⟩ = false := HO.out.frozenAt k
      have HS := Lib.hid (HO.out.stored k (.int .i64 (-1)))
      have HTA := Lib.hid (M.tblN_at (g := M.midG m 1 0) hlt)
      have HST : Hid (M.midG m 1 0 k = if ((k / 64 : Nat) : Int) = m.size - 1 then some 0 else none) := Lib.hid (by
        rw [M.midG_zero]
        show M.cutO 1 (M.remO m (M.unid k)) = _
        rw [M.remain_start]
        unfold M.wonB M.unid
        simp only [beq_iff_eq])
      have hq : (k : Int).tdiv 64 = ((k / 64 : Nat) : Int) := by rw [Int.tdiv_eq_ediv_of_nonneg (by omega)]; omega
      have hwq : IntKind.i64.wrap ((k / 64 : Nat) : Int) = ((k / 64 : Nat) : Int) := IntWalk.i64_in _ (by omega)
      have hws : IntKind.i64.wrap (m.size - 1) = m.size - 1 := IntWalk.i64_in _ (by omega)
      clear hu
      go_upto_region 6 with fail
      refine wp_named ?_
      intro W5 hW5
      have O5 : Hid (W5.ownsRow (w.heap.size + 1) 3 1 (.slice (some ⟨w.heap.size + 1, 0, none⟩) sz sz) sz (xs.set k (.int .i64 (-1)))) := Lib.hid (by rw [hW5]; exact HS.out.1)
      have B5 : Hid (Box3 W5 w.heap.size 29 (.int .i64 m.size) (.slice a m.doors.length c) (.slice b m.keys.length d)) := Lib.hid (by rw [hW5]; exact BX.out.turned (Turned.setCell _ _ _ _ (Nat.le_refl _) (Nat.lt_succ_self _)) (.inl (by omega)))
      have L5 : Hid (Below w.heap.size w W5) := Lib.hid (by rw [hW5]; exact LO.out.setCell (p := ⟨w.heap.size + 1, k, none⟩) (by show w.heap.size ≤ w.heap.size + 1; omega) _)
      have XL5 : Hid ((xs.set k (.int .i64 (-1))).length = sz) := Lib.hid (by rw [List.length_set]; exact HXL.out)
      have HT5 : Hid ((xs.set k (.int .i64 (-1))).take k = (M.encIs (M.tblN sz (M.midG m 1 0))).take k) := Lib.hid (by rw [List.take_set_of_le (Nat.le_refl _)]; exact HT.out)
      have HG5 : Hid ((xs.set k (.int .i64 (-1)))[k]? = some (.int .i64 (-1))) := Lib.hid (by rw [List.getElem?_set_self (by have := HXL.out; omega)])
      have hol5 := (O5.out.lt _ rfl).2
      obtain ⟨c0, c1, c2⟩ := B5.out.cells
      clear hW5 HS hdst hfr HT HO BX LO HXL
      generalize xs.set k (.int .i64 (-1)) = ys at *
      by_cases hw : ((k / 64 : Nat) : Int) = m.size - 1
      · have hdst : W5.cell? ⟨w.heap.size + 1, k, none⟩ = some (.int .i64 (-1)) := by rw [O5.out.cellAt k (by omega)]; exact HG5.out
        have hfr : W5.frozen? ⟨w.heap.size + 1, k, none⟩ = false := O5.out.frozenAt k
        have HS := Lib.hid (O5.out.stored k (.int .i64 0))
        have HV : Hid (M.optI (M.midG m 1 0 k) = 0) := Lib.hid (by rw [HST.out, if_pos hw]; rfl)
        rw [hw] at hq hwq
        go_wp2_with fail
        go_roundw
        case rel =>
          refine ⟨k + 1, ys.set k (.int .i64 0), by omega, by go_num, ?_, HS.out.1, B5.out.turned (Turned.setCell _ _ _ _ (Nat.le_refl _) (Nat.lt_succ_self _)) (.inl (by omega)), L5.out.setCell (p := ⟨w.heap.size + 1, k, none⟩) (by show w.heap.size ≤ w.heap.size + 1; omega) _⟩
          have h1 : k < ys.length := by have := XL5.out; omega
          rw [List.take_add_one, List.take_add_one, List.take_set_of_le (Nat.le_refl _), HT5.out, List.getElem?_set_self h1, HTA.out, HV.out]
        case measure => simp [intOf]; omega
      · have HV : Hid (M.optI (M.midG m 1 0 k) = -1) := Lib.hid (by rw [HST.out, if_neg hw]; rfl)
        go_wp2_with fail
        go_roundw
        case rel =>
          refine ⟨k + 1, ys, by omega, by go_num, ?_, O5.out, B5.out, L5.out⟩
          rw [List.take_add_one, List.take_add_one, HT5.out, HG5.out, HTA.out, HV.out]
        case measure => simp [intOf]; omega
    · obtain rfl : sz = k := by omega
      have hall : xs = M.encIs (M.tblN sz (M.midG m 1 0)) := by
        have := HT.out
        rw [List.take_of_length_le (by have := HXL.out; omega), List.take_of_length_le (by rw [M.encIs_len, M.tblN_len]; exact Nat.le_refl _)] at this
        exact this
      subst hall
      have HLN := Lib.hid (fun g => M.tblN_len sz g)
      clear HT HXL X2 HO1 HB2
      go_wp2_with fail
      go_loopw [5, 6, 7, 8, 9] (fun v5 _ _ _ _ wr => ∃ (n : Nat), n < sz ∧ v5 = .int .i64 ((n : Int) + 1) ∧ wr.ownsRow (w.heap.size + 1) 3 1 (.slice (some ⟨w.heap.size + 1, 0, none⟩) sz sz) sz (M.encIs (M.tblN sz (M.midG m (n + 1) 0))) ∧ Box3 wr w.heap.size 29 (.int .i64 m.size) (.slice a m.doors.length c) (.slice b m.keys.length d) ∧ Below w.heap.size w wr) (fun v5 _ _ _ _ _ => sz - (intOf v5).toNat)
      case atStart => exact ⟨0, by omega, rfl, HO.out, BX.out, LO.out⟩
      case round =>
        obtain ⟨n, hn, rfl, hou, hbx, hlow⟩ := hrel
        have OU := Lib.hid hou
        have BX := Lib.hid hbx
        have LO := Lib.hid hlow
        have hzr := hlow.size
        have hob : w.heap.size + 1 < wr.heap.size := (hou.lt _ rfl).2
        clear hou hbx hlow
        by_cases hnl : n + 1 < sz
        · have hnli : (n : Int) + 1 < (sz : Int) := by omega
          go_wp2_with fail
          go_loopw [6, 7, 8, 9] (fun v6 v7 _ _ wr => ∃ (i : Nat) (ch : Bool), i ≤ sz ∧ v7 = .int .i64 (i : Int) ∧ v6 = .bool ch ∧ (ch = false → ∀ j, j < i → M.remO m (M.unid j) ≠ some (n + 1)) ∧ wr.ownsRow (w.heap.size + 1) 3 1 (.slice (some ⟨w.heap.size + 1, 0, none⟩) sz sz) sz (M.encIs (M.tblN sz (M.midG m (n + 1) i))) ∧
            Box3 wr w.heap.size 29 (.int .i64 m.size) (.slice a m.doors.length c) (.slice b m.keys.length d) ∧ Below w.heap.size w wr) (fun _ v7 _ _ _ => sz - (intOf v7).toNat)
          case atStart => exact ⟨0, false, Nat.zero_le _, rfl, rfl, fun _ j hj => absurd hj (Nat.not_lt_zero _), OU.out, BX.out, LO.out⟩
          case round =>
            obtain ⟨i, ch, hi', rfl, rfl, hch, hou, hbx, hlow⟩ := hrel
            have CH := Lib.hid hch
            have OU := Lib.hid hou
            have BX := Lib.hid hbx
            have LO := Lib.hid hlow
            have hzr := hlow.size
            have hob : w.heap.size + 1 < wr.heap.size := (hou.lt _ rfl).2
            clear hch hou hbx hlow
            by_cases hil : i < sz
            · have hqi : ((i / 64 : Nat) : Int) < m.size := by have := HSI.out; omega
              have HUI : Hid (M.unid i = (((i / 64 : Nat) : Int), ((i % 64 : Nat) : Int))) := Lib.hid rfl
              have hq : (i : Int).tdiv 64 = ((i / 64 : Nat) : Int) := by rw [Int.tdiv_eq_ediv_of_nonneg (by omega)]; omega
              have hr : (i : Int).tmod 64 = ((i % 64 : Nat) : Int) := by rw [Int.tmod_eq_emod_of_nonneg (by omega)]; omega
              have hr64 : ((i % 64 : Nat) : Int) < 64 := by omega
              have hwq : IntKind.i64.wrap ((i / 64 : Nat) : Int) = ((i / 64 : Nat) : Int) := IntWalk.i64_in _ (by omega)
              have hwr : IntKind.i64.wrap ((i % 64 : Nat) : Int) = ((i % 64 : Nat) : Int) := IntWalk.i64_in _ (by omega)
              generalize i / 64 = q at *
              generalize i % 64 = r at *
              have hkk : q < m.keys.length := by omega
              obtain ⟨kb, koff, hkb, _, hkbl, hkc⟩ := (H.out.below LO.out hz).keys.at_ (k := q) (by rw [M.encIs_len]; omega)
              subst hkb
              have kx := hkc _ _ (M.encIs_at hkk)
              rw [← M.keyAt_eq hkk] at kx
              have hkd : q < d := by have := H.out.d1; omega
              have hkbw : kb < wr.heap.size := by omega
              have HSx := Lib.hid (M.stAt_ok HVA.out (x := (q : Int)) (set := (r : Int)) (by omega) (by omega) (by omega) (by omega))
              have CS : Hid (Calls Try.prog 67 #[.agg #[.int .i64 m.size, .slice a m.doors.length c, .slice (some ⟨kb, koff, none⟩) m.keys.length d], .int .i64 (q : Int), .int .i64 (bits .or .i64 (r : Int) (M.keyAt m (q : Int)))] wr.drew (IntsPost wr.drew (M.ids (M.nexts m (M.stAt m (q : Int) (r : Int)))))) := Lib.hid (l4Step_any wr.drew lo hi m a (some ⟨kb, koff, none⟩) c d (H.out.below (Below.drawnN LO.out 1) hz) (by show hi ≤ wr.heap.size; omega) HVA.out (M.stAt m (q : Int) (r : Int)) HSx.out)
              have HNO1 := Lib.hid (HNO.out i n hil)
              have HYES1 := Lib.hid (HYES.out i n hil)
              have HNX : Hid (M.nexts m (M.stAt m (M.unid i).1 (M.unid i).2) = M.nexts m (M.stAt m (q : Int) (r : Int))) := Lib.hid (by rw [HUI.out])
              rw [HNX.out] at HNO1 HYES1
              have HIN := Lib.hid (fun t (ht : t ∈ M.nexts m (M.stAt m (q : Int) (r : Int))) => M.nexts_ok HVA.out HSx.out ht)
              have HTL := Lib.hid (M.ids_len (M.nexts m (M.stAt m (q : Int) (r : Int))))
              have hTl := M.nextsTo_len m (M.stAt m (q : Int) (r : Int)) m.size.toNat
              have hTl' : (M.nexts m (M.stAt m (q : Int) (r : Int))).length ≤ 12 := by show (M.nextsTo m (M.stAt m (q : Int) (r : Int)) m.size.toNat).length ≤ 12; omega
              clear hTl hkc
              clear HNX
              generalize M.nexts m (M.stAt m (q : Int) (r : Int)) = T at *
              generalize M.keyAt m (q : Int) = ky at *
              go_wp2_with fail
              refine wp_region_late2 (fun (wq : World) => wq.cell? ⟨w.heap.size, 0, none⟩ = some (.int .i64 m.size) ∧ wq.cell? ⟨w.heap.size, 1, none⟩ = some (.slice a m.doors.length c) ∧ wq.cell? ⟨w.heap.size, 2, none⟩ = some (.slice (some ⟨kb, koff, none⟩) m.keys.length d) ∧ wq.cell? ⟨kb, koff + q, none⟩ = some (.int .i64 ky)) [] 14 #[false, false, false, false, false, false, false, false, false, false, false, false, false, false] rfl rfl (by kernel_rfl) ?_
              have hS : (fun (wq : World) => wq.cell? ⟨w.heap.size, 0, none⟩ = some (.int .i64 m.size) ∧ wq.cell? ⟨w.heap.size, 1, none⟩ = some (.slice a m.doors.length c) ∧ wq.cell? ⟨w.heap.size, 2, none⟩ = some (.slice (some ⟨kb, koff, none⟩) m.keys.length d) ∧ wq.cell? ⟨kb, koff + q, none⟩ = some (.int .i64 ky)) wr.drew := ⟨BX.out.cells.1, BX.out.cells.2.1, BX.out.cells.2.2, kx⟩
              refine wpAnyL_take (i := 0) (oi := { dst := some 44, op := Go.Op.load 29 (Go.Operand.tmp 1), type := 29, pos := "l4_ways.go:87", after := #[], guard := none }) (v := ?sv0) rfl (by kernel_rfl) (by kernel_rfl) (by kernel_rfl) (by kernel_rfl) (fun _ _ _ h => h) (Or.inl ⟨by rfl, ?sh0⟩) hS ?sr0
              case sh0 => (intro wS hSw; (try dsimp only at hSw); go_split_ands; go_simp; try with_reducible rfl)
              try simp only [Act.put, List.setIfInBounds_toArray, List.set_cons_zero, List.set_cons_succ]
              refine wpAnyL_take (i := 1) (oi := { dst := some 45, op := Go.Op.move (Go.Operand.tmp 7), type := 3, pos := "l4_ways.go:87", after := #[], guard := none }) (v := ?sv1) rfl (by kernel_rfl) (by kernel_rfl) (by kernel_rfl) (by kernel_rfl) (fun _ _ _ h => h) (Or.inl ⟨by rfl, ?sh1⟩) hS ?sr1
              case sh1 => (intro wS hSw; (try dsimp only at hSw); go_split_ands; go_simp; try with_reducible rfl)
              try simp only [Act.put, List.setIfInBounds_toArray, List.set_cons_zero, List.set_cons_succ]
              refine wpAnyL_take (i := 2) (oi := { dst := some 46, op := Go.Op.binOp Go.BinOp.quo 3 (Go.Operand.tmp 45) (Go.Operand.const (Go.Value.int Go.IntKind.i64 64)) 3, type := 3, pos := "l4_ways.go:87", after := #[{ on := 1, ground := Go.Ground.data }], guard := none }) (v := ?sv2) rfl (by kernel_rfl) (by kernel_rfl) (by kernel_rfl) (by kernel_rfl) (fun _ _ _ h => h) (Or.inl ⟨by rfl, ?sh2⟩) hS ?sr2
              case sh2 => (intro wS hSw; (try dsimp only at hSw); go_split_ands; go_simp; try with_reducible rfl)
              try simp only [Act.put, List.setIfInBounds_toArray, List.set_cons_zero, List.set_cons_succ]
              refine wpAnyL_take (i := 3) (oi := { dst := some 47, op := Go.Op.move (Go.Operand.tmp 7), type := 3, pos := "l4_ways.go:87", after := #[], guard := none }) (v := ?sv3) rfl (by kernel_rfl) (by kernel_rfl) (by kernel_rfl) (by kernel_rfl) (fun _ _ _ h => h) (Or.inl ⟨by rfl, ?sh3⟩) hS ?sr3
              case sh3 => (intro wS hSw; (try dsimp only at hSw); go_split_ands; go_simp; try with_reducible rfl)
              try simp only [Act.put, List.setIfInBounds_toArray, List.set_cons_zero, List.set_cons_succ]
              refine wpAnyL_take (i := 4) (oi := { dst := some 48, op := Go.Op.binOp Go.BinOp.rem 3 (Go.Operand.tmp 47) (Go.Operand.const (Go.Value.int Go.IntKind.i64 64)) 3, type := 3, pos := "l4_ways.go:87", after := #[{ on := 3, ground := Go.Ground.data }], guard := none }) (v := ?sv4) rfl (by kernel_rfl) (by kernel_rfl) (by kernel_rfl) (by kernel_rfl) (fun _ _ _ h => h) (Or.inl ⟨by rfl, ?sh4⟩) hS ?sr4
              case sh4 => (intro wS hSw; (try dsimp only at hSw); go_split_ands; go_simp; try with_reducible rfl)
              try simp only [Act.put, List.setIfInBounds_toArray, List.set_cons_zero, List.set_cons_succ]
              refine wpAnyL_take (i := 5) (oi := { dst := some 49, op := Go.Op.fieldAddr 29 (Go.Operand.tmp 1) 2, type := 0, pos := "l4_ways.go:87", after := #[], guard := none }) (v := ?sv5) rfl (by kernel_rfl) (by kernel_rfl) (by kernel_rfl) (by kernel_rfl) (fun _ _ _ h => h) (Or.inl ⟨by rfl, ?sh5⟩) hS ?sr5
              case sh5 => (intro wS hSw; (try dsimp only at hSw); go_split_ands; go_simp; try with_reducible rfl)
              try simp only [Act.put, List.setIfInBounds_toArray, List.set_cons_zero, List.set_cons_succ]
              refine wpAnyL_take (i := 6) (oi := { dst := some 50, op := Go.Op.load 23 (Go.Operand.tmp 49), type := 23, pos := "l4_ways.go:87", after := #[{ on := 5, ground := Go.Ground.data }], guard := none }) (v := ?sv6) rfl (by kernel_rfl) (by kernel_rfl) (by kernel_rfl) (by kernel_rfl) (fun _ _ _ h => h) (Or.inl ⟨by rfl, ?sh6⟩) hS ?sr6
              case sh6 => (intro wS hSw; (try dsimp only at hSw); go_split_ands; go_simp; try with_reducible rfl)
              try simp only [Act.put, List.setIfInBounds_toArray, List.set_cons_zero, List.set_cons_succ]
              refine wpAnyL_take (i := 7) (oi := { dst := some 51, op := Go.Op.move (Go.Operand.tmp 7), type := 3, pos := "l4_ways.go:87", after := #[], guard := none }) (v := ?sv7) rfl (by kernel_rfl) (by kernel_rfl) (by kernel_rfl) (by kernel_rfl) (fun _ _ _ h => h) (Or.inl ⟨by rfl, ?sh7⟩) hS ?sr7
              case sh7 => (intro wS hSw; (try dsimp only at hSw); go_split_ands; go_simp; try with_reducible rfl)
              try simp only [Act.put, List.setIfInBounds_toArray, List.set_cons_zero, List.set_cons_succ]
              refine wpAnyL_take (i := 8) (oi := { dst := some 52, op := Go.Op.binOp Go.BinOp.quo 3 (Go.Operand.tmp 51) (Go.Operand.const (Go.Value.int Go.IntKind.i64 64)) 3, type := 3, pos := "l4_ways.go:87", after := #[{ on := 7, ground := Go.Ground.data }], guard := none }) (v := ?sv8) rfl (by kernel_rfl) (by kernel_rfl) (by kernel_rfl) (by kernel_rfl) (fun _ _ _ h => h) (Or.inl ⟨by rfl, ?sh8⟩) hS ?sr8
              case sh8 => (intro wS hSw; (try dsimp only at hSw); go_split_ands; go_simp; try with_reducible rfl)
              try simp only [Act.put, List.setIfInBounds_toArray, List.set_cons_zero, List.set_cons_succ]
              refine wpAnyL_take (i := 9) (oi := { dst := some 53, op := Go.Op.indexAddr 23 (Go.Operand.tmp 50) (Go.Operand.tmp 52), type := 0, pos := "l4_ways.go:87", after := #[{ on := 6, ground := Go.Ground.data }, { on := 8, ground := Go.Ground.data }], guard := none }) (v := ?sv9) rfl (by kernel_rfl) (by kernel_rfl) (by kernel_rfl) (by kernel_rfl) (fun _ _ _ h => h) (Or.inl ⟨by rfl, ?sh9⟩) hS ?sr9
              case sh9 => (intro wS hSw; (try dsimp only at hSw); go_split_ands; go_simp; try with_reducible rfl)
              try simp only [Act.put, List.setIfInBounds_toArray, List.set_cons_zero, List.set_cons_succ]
              refine wpAnyL_take (i := 10) (oi := { dst := some 54, op := Go.Op.load 3 (Go.Operand.tmp 53), type := 3, pos := "l4_ways.go:87", after := #[{ on := 9, ground := Go.Ground.data }], guard := none }) (v := ?sv10) rfl (by kernel_rfl) (by kernel_rfl) (by kernel_rfl) (by kernel_rfl) (fun _ _ _ h => h) (Or.inl ⟨by rfl, ?sh10⟩) hS ?sr10
              case sh10 => (intro wS hSw; (try dsimp only at hSw); go_split_ands; go_simp; try with_reducible rfl)
              try simp only [Act.put, List.setIfInBounds_toArray, List.set_cons_zero, List.set_cons_succ]
              refine wpAnyL_take (i := 11) (oi := { dst := some 55, op := Go.Op.binOp Go.BinOp.or 3 (Go.Operand.tmp 48) (Go.Operand.tmp 54) 3, type := 3, pos := "l4_ways.go:87", after := #[{ on := 4, ground := Go.Ground.data }, { on := 10, ground := Go.Ground.data }], guard := none }) (v := ?sv11) rfl (by kernel_rfl) (by kernel_rfl) (by kernel_rfl) (by kernel_rfl) (fun _ _ _ h => h) (Or.inl ⟨by rfl, ?sh11⟩) hS ?sr11
              case sh11 => (intro wS hSw; (try dsimp only at hSw); go_split_ands; go_simp; try with_reducible rfl)
              try simp only [Act.put, List.setIfInBounds_toArray, List.set_cons_zero, List.set_cons_succ]
              refine wpAnyL_one (i := 12) (oi := { dst := some 56, op := Go.Op.call { callee := Go.Callee.value (Go.Operand.func 67), args := #[Go.Operand.tmp 44, Go.Operand.tmp 46, Go.Operand.tmp 55], argTypes := #[29, 3, 3] }, type := 23, pos := "l4_ways.go:87", after := #[{ on := 0, ground := Go.Ground.data }, { on := 2, ground := Go.Ground.data }, { on := 11, ground := Go.Ground.data }], guard := none }) (by kernel_rfl) rfl (fun Ks12 hKs12 => ?_)
              refine step_call (by rfl) 67 #[.agg #[.int .i64 m.size, .slice a m.doors.length c, .slice (some ⟨kb, koff, none⟩) m.keys.length d], .int .i64 (q : Int), .int .i64 (bits .or .i64 (r : Int) ky)] (by go_simp; try rfl) (CS.out) ?_
              rintro e w5 ⟨a5, c5, rfl, hr5, hq5, hq6, hb5⟩
              refine ⟨_, rfl, ?_⟩
              have hb5x : Below wr.heap.size wr w5 := (Below.refl wr.heap.size wr).drew.trans hb5
              have X5 := Lib.hid (BX.out.below hb5x)
              have LO5 := Lib.hid (LO.out.trans (hb5x.mono hzr))
              have hsz5 := hb5x.size
              have hSs : (fun (wq : World) => wq.cell? ⟨w.heap.size, 0, none⟩ = some (.int .i64 m.size) ∧ wq.cell? ⟨w.heap.size, 1, none⟩ = some (.slice a m.doors.length c) ∧ wq.cell? ⟨w.heap.size, 2, none⟩ = some (.slice (some ⟨kb, koff, none⟩) m.keys.length d) ∧ wq.cell? ⟨kb, koff + q, none⟩ = some (.int .i64 ky)) w5 := ⟨X5.out.cells.1, X5.out.cells.2.1, X5.out.cells.2.2, (hb5x.cell (p := ⟨kb, koff + q, none⟩) hkbw).trans kx⟩
              refine hKs12 _ _ (fun _ => hSs) ?_
              clear hS
              have hS := hSs
              try simp only [Act.put, List.setIfInBounds_toArray, List.set_cons_zero, List.set_cons_succ]
              refine wpAnyL_take (i := 13) (oi := { dst := some 8, op := Go.Op.assign (Go.Operand.tmp 56), type := 23, pos := "l4_ways.go:87", after := #[{ on := 12, ground := Go.Ground.data }, { on := 12, ground := Go.Ground.chain }, { on := 0, ground := Go.Ground.phase }, { on := 1, ground := Go.Ground.phase }, { on := 2, ground := Go.Ground.phase }, { on := 3, ground := Go.Ground.phase }, { on := 4, ground := Go.Ground.phase }, { on := 5, ground := Go.Ground.phase }, { on := 6, ground := Go.Ground.phase }, { on := 7, ground := Go.Ground.phase }, { on := 8, ground := Go.Ground.phase }, { on := 9, ground := Go.Ground.phase }, { on := 10, ground := Go.Ground.phase }, { on := 11, ground := Go.Ground.phase }, { on := 12, ground := Go.Ground.phase }], guard := none }) (v := ?sv13) rfl (by kernel_rfl) (by kernel_rfl) (by kernel_rfl) (by kernel_rfl) (fun _ _ _ h => h) (Or.inl ⟨by rfl, ?sh13⟩) hS ?sr13
              case sh13 => (intro wS hSw; (try dsimp only at hSw); go_split_ands; go_simp; try with_reducible rfl)
              try simp only [Act.put, List.setIfInBounds_toArray, List.set_cons_zero, List.set_cons_succ]
              refine wpAnyL_done (by kernel_rfl) ?_ _
              have R6 : Hid (RowIn wr.heap.size w5.heap.size w5 a5 (M.encIs (M.ids T))) := Lib.hid hr5.row
              have OU5 := Lib.hid (own_below OU.out hb5x)
              rw [HTL.out]
              have hob5 : w.heap.size + 1 < wr.heap.size := hob
              clear hr5 hb5 hb5x hq hr hSs hwq hwr kx hr64 CS BX OU
              generalize wr.heap.size = g9 at *
              go_wp2_with fail
              go_loopw [6, 9] (fun v6 v9 wr => ∃ (j : Nat) (fd : Bool), j ≤ T.length ∧ v9 = .int .i64 (j : Int) ∧ v6 = .bool (ch || fd) ∧ (fd = true → M.remO m (M.unid i) = some (n + 1)) ∧ (fd = false → ∀ u ∈ T.take j, M.remO m u ≠ some n) ∧
                wr.ownsRow (w.heap.size + 1) 3 1 (.slice (some ⟨w.heap.size + 1, 0, none⟩) sz sz) sz (M.encIs (M.tblN sz (M.midG m (n + 1) (if fd = true then i + 1 else i)))) ∧ Box3 wr w.heap.size 29 (.int .i64 m.size) (.slice a m.doors.length c) (.slice (some ⟨kb, koff, none⟩) m.keys.length d) ∧ RowIn g9 w5.heap.size wr a5 (M.encIs (M.ids T)) ∧ Below w.heap.size w wr ∧ w5.heap.size ≤ wr.heap.size) (fun _ v9 _ => T.length - (intOf v9).toNat)
              case atStart => exact ⟨0, false, Nat.zero_le _, rfl, by cases ch <;> rfl, fun h => (by cases h), fun _ u hu => (by simp at hu), OU5.out, X5.out, R6.out, LO5.out, Nat.le_refl _⟩
              case round =>
                obtain ⟨j, fd, hj, rfl, rfl, hfd, hnf, hoj, hbx, hrow, hlow, hszw⟩ := hrel
                have OJ := Lib.hid hoj
                have BJ := Lib.hid hbx
                have RJ := Lib.hid hrow
                have WJ := Lib.hid hlow
                have hoj2 : w.heap.size + 1 < wr.heap.size := (hoj.lt _ rfl).2
                have hzj := hlow.size
                clear hoj hbx hrow hlow
                cases fd with
                | true =>
                  have HF := Lib.hid (hfd rfl)
                  have z0 : wr.cell? ⟨w.heap.size + 1, i, none⟩ = some (.int .i64 ((n : Int) + 1)) := by
                    have := OJ.out.cellAt i (by omega)
                    rw [if_pos rfl, M.tblN_at hil, ← M.mid_yes HF.out] at this
                    simp only [if_true] at this
                    exact this
                  have OJ1 : Hid (wr.ownsRow (w.heap.size + 1) 3 1 (.slice (some ⟨w.heap.size + 1, 0, none⟩) sz sz) sz (M.encIs (M.tblN sz (M.midG m (n + 1) (i + 1))))) := Lib.hid OJ.out
                  rw [Bool.or_true]
                  have hn1 : ¬ (n : Int) + 1 < 0 := by omega
                  clear hfd hnf
                  by_cases hjl : j < T.length
                  · go_wp2_with fail
                    go_roundw
                    case rel => exact ⟨i + 1, true, by omega, by go_num, rfl, fun h => (by cases h), OJ1.out, BJ.out, WJ.out⟩
                    case measure => simp [intOf]; omega
                  · obtain rfl : j = T.length := by omega
                    go_wp2_with fail
                    go_roundw
                    case rel => exact ⟨i + 1, true, by omega, by go_num, rfl, fun h => (by cases h), OJ1.out, BJ.out, WJ.out⟩
                    case measure => simp [intOf]; omega
                | false =>
                  have NF := Lib.hid (hnf rfl)
                  have OJ1 : Hid (wr.ownsRow (w.heap.size + 1) 3 1 (.slice (some ⟨w.heap.size + 1, 0, none⟩) sz sz) sz (M.encIs (M.tblN sz (M.midG m (n + 1) i)))) := Lib.hid OJ.out
                  have z0 : wr.cell? ⟨w.heap.size + 1, i, none⟩ = some (.int .i64 (M.optI (M.cutO (n + 1) (M.remO m (M.unid i))))) := by rw [OJ1.out.cellAt i (by omega), M.tblN_at hil, M.midG_at]
                  rw [Bool.or_false]
                  clear hfd hnf OJ
                  by_cases hjl : j < T.length
                  · cases hcut : M.cutO (n + 1) (M.remO m (M.unid i)) with
                    | some v =>
                      have HX := Lib.hid (HNO1.out fun h => by rw [hcut] at h; cases h)
                      rw [hcut, M.optI_some] at z0
                      have hv0 : ¬ (v : Int) < 0 := by omega
                      go_wp2_with fail
                      go_roundw
                      case rel =>
                        have OX := OJ1.out
                        rw [HX.out.1] at OX
                        refine ⟨i + 1, ch, by omega, by go_num, rfl, fun hc j' hj' => ?_, OX, BJ.out, WJ.out⟩
                        rcases Nat.lt_or_ge j' i with h1 | h1
                        · exact CH.out hc j' h1
                        · obtain rfl : j' = i := by omega
                          exact HX.out.2
                      case measure => simp [intOf]; omega
                    | none =>
                      rw [hcut, M.optI_none] at z0
                      have HC := Lib.hid hcut
                      obtain ⟨rb, roff, hra, hrb1, hrb2, hrc⟩ := RJ.out.at_ (k := j) (by rw [M.encIs_len, M.ids_len]; exact hjl)
                      subst hra
                      have y0 := hrc _ _ (M.ids_at hjl)
                      have HSt := Lib.hid (HIN.out _ (List.getElem_mem hjl))
                      have HTT := Lib.hid (show T.take (j + 1) = T.take j ++ [T[j]] from List.take_succ_eq_append_getElem hjl)
                      have HYT := Lib.hid (fun (hrr : M.remO m T[j] = some n) => HYES1.out hcut T[j] (List.getElem_mem hjl) hrr)
                      have hrbl : rb < wr.heap.size := by omega
                      clear hrc hcut
                      generalize T[j] = t at *
                      have hti := HIDL.out t HSt.out
                      have z1 : wr.cell? ⟨w.heap.size + 1, M.idN t, none⟩ = some (.int .i64 (M.optI (M.midG m (n + 1) i (M.idN t)))) := by rw [OJ1.out.cellAt _ (by omega), M.tblN_at hti]
                      have hwn : IntKind.i64.wrap ((n : Int) + 1 - 1) = (n : Int) := by rw [show (n : Int) + 1 - 1 = (n : Int) by omega]; exact IntWalk.i64_in _ (by omega)
                      by_cases hrt : M.remO m t = some n
                      · have HF := Lib.hid (HYT.out hrt)
                        rw [(M.mid_next m n i HSt.out).2 hrt, M.optI_some] at z1
                        have hfr : wr.frozen? ⟨w.heap.size + 1, i, none⟩ = false := OJ1.out.frozenAt _
                        have HSET := Lib.hid (M.tblN_set (n := sz) (M.midG m (n + 1) i) i (n + 1))
                        have HMY := Lib.hid (M.mid_yes HF.out)
                        have OS := Lib.hid (OJ1.out.stored i (.int .i64 ((n : Int) + 1)))
                        generalize M.idN t = it at *
                        go_wp2_with fail
                        go_roundw
                        case rel =>
                          refine ⟨j + 1, true, by omega, by go_num, by rw [Bool.or_true], fun _ => HF.out, fun h => (by cases h), ?_, BJ.out.turned (Turned.setCell _ _ _ _ (Nat.le_refl _) (Nat.lt_succ_self _)) (.inl (by omega)), RJ.out.turned (Turned.setCell _ _ _ _ (Nat.le_refl _) (Nat.lt_succ_self _)) (by omega) (.inr (by omega)), WJ.out.setCell (p := ⟨w.heap.size + 1, i, none⟩) (by show w.heap.size ≤ w.heap.size + 1; omega) _, by simp; omega⟩
                          rw [if_pos rfl, ← HMY.out, ← HSET.out]
                          exact OS.out.1
                        case measure => simp [intOf]; omega
                      · have hne : ¬ M.optI (M.midG m (n + 1) i (M.idN t)) = (n : Int) := fun e => hrt ((M.mid_next m n i HSt.out).1 (M.optI_eq.1 e))
                        have NF2 : Hid (∀ u ∈ T.take (j + 1), M.remO m u ≠ some n) := Lib.hid (fun u hu => by
                          rw [HTT.out, List.mem_append, List.mem_singleton] at hu
                          rcases hu with hu | rfl
                          · exact NF.out u hu
                          · exact hrt)
                        generalize M.optI (M.midG m (n + 1) i (M.idN t)) = vt at *
                        generalize M.idN t = it at *
                        go_wp2_with fail
                        go_roundw
                        case rel => exact ⟨j + 1, false, by omega, by go_num, by rw [Bool.or_false], fun h => (by cases h), fun _ => NF2.out, OJ1.out, BJ.out, RJ.out, WJ.out, hszw⟩
                        case measure => simp [intOf]; omega
                  · obtain rfl : j = T.length := by omega
                    have HX := Lib.hid (HNO1.out fun _ u hu => NF.out u (by rw [List.take_length]; exact hu))
                    clear z0
                    go_wp2_with fail
                    go_roundw
                    case rel =>
                      have OX := OJ1.out
                      rw [HX.out.1] at OX
                      refine ⟨i + 1, ch, by omega, by go_num, rfl, fun hc j' hj' => ?_, OX, BJ.out, WJ.out⟩
                      rcases Nat.lt_or_ge j' i with h1 | h1
                      · exact CH.out hc j' h1
                      · obtain rfl : j' = i := by omega
                        exact HX.out.2
                    case measure => simp [intOf]; omega
            · obtain rfl : i = sz := by omega
              have OE := Lib.hid (show wr.ownsRow (w.heap.size + 1) 3 1 (.slice (some ⟨w.heap.size + 1, 0, none⟩) i i) i (M.encIs (M.tblN i (M.midG m (n + 1 + 1) 0))) by rw [← HEND.out]; exact OU.out)
              cases ch with
              | true =>
                go_wp2_with fail
                go_roundw
                case rel => exact ⟨n + 1, by omega, by go_num, OE.out, BX.out, LO.out⟩
                case measure => simp [intOf]; omega
              | false =>
                have HR := Lib.hid (HSAME.out (n + 1) (n + 1 + 1) (Nat.le_succ _) (CH.out rfl))
                go_wp2_with fail
                go_ret
                rw [← HR.out]
                exact ints_end (by rw [HLN.out]; exact own_weak OE.out (by omega)) LO.out
        · obtain rfl : sz = n + 1 := by omega
          go_wp2_with fail
          go_ret
          rw [← HALL.out]
          exact ints_end (by rw [HLN.out]; exact own_weak OU.out (by omega)) LO.out
end C
end Go.Proofs.Ytbpinhfjfjfbdaa
namespace Go.Proofs.Ytbpinhfjfjfbdaa
open Go.RowKit
namespace M
theorem ffO_no {m : Mz} {x set : Int} (h : mzNodeB m x = false) : ffO m x set = none := by
  unfold ffO
  unfold mzNodeB at h
  rw [if_neg]
  intro e
  rw [Bool.and_eq_true, Bool.and_eq_true] at e
  rw [e.1, e.2.1] at h
  cases h
theorem ffO_no2 {m : Mz} {x set : Int} (h : setB set = false) : ffO m x set = none := by
  unfold ffO
  rw [h, Bool.and_false, Bool.and_false]
  rfl
theorem ffO_yes {m : Mz} {x set : Int} (h : mzNodeB m x = true) (h2 : setB set = true) : mazeB m = true ∧ 0 ≤ x ∧ x < m.size ∧ 0 ≤ set ∧ set < 64 ∧ ffO m x set = remO m (x, set) := by
  unfold mzNodeB at h
  rw [Bool.and_eq_true] at h
  have h3 : 0 ≤ x ∧ x < m.size := by have := h.2; unfold nodeB at this; have := of_decide_eq_true this; omega
  have h4 : 0 ≤ set ∧ set < 64 := by unfold setB at h2; exact of_decide_eq_true h2
  refine ⟨h.1, h3.1, h3.2, h4.1, h4.2, ?_⟩
  unfold ffO remO
  rw [h.1, h.2, h2]
  rfl
end M
namespace C
set_option maxHeartbeats 3200000
set_option maxRecDepth 20000
def RemPost (w : World) (m : M.Mz) (e : Ending) (w' : World) : Prop :=
  ∃ a c, e = .returned (.slice a (M.size64 m) c) ∧ OwnAt w.heap.size w'.heap.size w' 3 a (M.encIs (M.tblL (M.size64 m) (M.remO m))) ∧ Below w.heap.size w w'
theorem remainT_any (w : World) (lo hi : Nat) (m : M.Mz) (a b : Option Addr) (c d : Nat) (h : MzIn lo hi w m a c b d) (hz : hi ≤ w.heap.size) (V : M.Valid m) :
    Calls Try.prog 65 #[.agg #[.int .i64 m.size, .slice a m.doors.length c, .slice b m.keys.length d]] w (RemPost w m) := by
  refine (l4Remain_any w lo hi m a b c d h hz V).mono ?_
  rintro e w1 ⟨ra, rc, rfl, ho, _, _, hb⟩
  have hl : (M.remainL m).length = M.size64 m := M.tblL_len _ _
  exact ⟨ra, rc, by rw [hl], ho, hb⟩
theorem specFewF_lw (w : World) (lo hi : Nat) (m : M.Mz) (a b : Option Addr) (c d : Nat) (h : MzIn lo hi w m a c b d) (hz : hi ≤ w.heap.size) (_h1 : m.doors.length ≤ 1048576) (_h2 : m.keys.length ≤ 1048576) (x : Int) (_x1 : -9223372036854775808 ≤ x) (_x2 : x ≤ 9223372036854775807) (set : Int) (_s1 : -9223372036854775808 ≤ set) (_s2 : set ≤ 9223372036854775807) :
    Calls Try.prog 37 #[.agg #[.int .i64 m.size, .slice a m.doors.length c, .slice b m.keys.length d], .int .i64 x, .int .i64 set] w (OptPost w (M.ffO m x set)) := by
  have H := Lib.hid h
  clear h
  go_enter Try.func37, Try.ntmps37
  go_upto_region 1 with fail
  refine wp_named ?_
  intro W hW
  have hb : Below w.heap.size w W := by rw [hW]; exact below_alloc _ _
  have x1 : Box3 W w.heap.size 29 (.int .i64 m.size) (.slice a m.doors.length c) (.slice b m.keys.length d) := by rw [hW]; exact Box3.new _ _ _ _ rfl
  clear hW
  have hzw := hb.size
  obtain ⟨c0, c1, c2⟩ := x1.cells
  have HIM := Lib.hid (l2Node_any W lo hi m a b c d x (H.out.below hb hz) (by omega))
  go_wp2_with fail
  refine (HIM.out).mono ?_
  rintro e w1 ⟨rfl, hb1⟩
  have X1 := Lib.hid (x1.below hb1)
  have HB1 := Lib.hid (hb.trans (hb1.mono hzw))
  have hz1 := hb1.size
  clear hb hb1 x1 c0 c1 c2 HIM
  cases q0 : M.mzNodeB m x with
  | false =>
    have HF : Hid (M.ffO m x set = none) := Lib.hid (M.ffO_no q0)
    clear q0
    go_wp2_with fail
    go_ret2
    rw [HF.out]
    exact ⟨rfl, HB1.out⟩
  | true =>
    have HM := Lib.hid q0
    clear q0
    go_wp2_with fail
    refine (l2Set_any _ _).mono ?_
    rintro e w9 ⟨rfl, rfl⟩
    cases q1 : M.setB set with
    | false =>
      have HF : Hid (M.ffO m x set = none) := Lib.hid (M.ffO_no2 q1)
      clear q1
      go_wp2_with fail
      go_ret2
      rw [HF.out]
      exact ⟨rfl, HB1.out⟩
    | true =>
      obtain ⟨hmz, hx0, hx1, hs0, hs1, hff⟩ := M.ffO_yes HM.out q1
      have HVA := Lib.hid (M.valid_of hmz)
      have HF := Lib.hid hff
      have HSO : Hid (M.StOk m (x, set)) := Lib.hid ⟨hx0, hx1, hs0, hs1⟩
      have v1 := HVA.out.size1
      have v12 := HVA.out.size12
      clear q1 hff hmz
      obtain ⟨c0, c1, c2⟩ := X1.out.cells
      have CR := Lib.hid (remainT_any w1 lo hi m a b c d (H.out.below HB1.out hz) (by omega) HVA.out)
      go_wp2_with fail
      refine (CR.out).mono ?_
      rintro e w2 ⟨ra, rc, rfl, ho2, hb2⟩
      have HB2 := Lib.hid (HB1.out.trans (hb2.mono HB1.out.size))
      have HID := Lib.hid (l4Id_any x set w2 hx0 (by omega) hs0 (by omega))
      have hil : M.idN (x, set) < M.size64 m := M.idN_lt HSO.out
      obtain ⟨sb, off, hsa, _, hsb, hcell⟩ := ho2.row.at_ (k := M.idN (x, set)) (by rw [M.encIs_len, M.tblL_len]; exact hil)
      subst hsa
      have y0 := hcell _ _ (M.tblL_at hil)
      rw [M.unid_idN HSO.out] at y0
      have hsz : M.size64 m ≤ 768 := by unfold M.size64; omega
      have HT := Lib.hid (l4Told_any (M.remO m (x, set)) w2)
      clear hcell ho2 hb2 c0 c1 c2 CR
      generalize M.idN (x, set) = i at *
      generalize M.size64 m = sz at *
      go_wp2_with fail
      refine (HID.out).mono ?_
      rintro e w3 ⟨rfl, rfl⟩
      go_wp2_with fail
      refine (HT.out).mono ?_
      rintro e w4 ⟨rfl, rfl⟩
      go_wp2_with fail
      go_ret2
      rw [HF.out]
      exact ⟨rfl, HB2.out⟩
end C
end Go.Proofs.Ytbpinhfjfjfbdaa
namespace Go.Proofs.Ytbpinhfjfjfbdaa
open Go.RowKit
namespace M
theorem rem_at {m : Mz} {u : St} (h : Met m u) : optI (remO m (unid (idN u))) = optI (wayO m u (wonB m)) := by rw [unid_idN h.1, remO_met h.2]
theorem nx_ex {m : Mz} {s : St} {n : Nat} (h : wayO m s (wonB m) = some (n + 1)) : ∃ k, ∃ hk : k < (nexts m s).length, wayO m (nexts m s)[k] (wonB m) = some n := by
  obtain ⟨u, hu, hn⟩ := rem_down (way_is m) h
  obtain ⟨k, hk, rfl⟩ := List.mem_iff_getElem.1 hu
  exact ⟨k, hk, hn⟩
end M
namespace C
set_option maxHeartbeats 3200000
set_option maxRecDepth 20000
theorem specFirst_lw (w : World) (lo hi : Nat) (m : M.Mz) (a b : Option Addr) (c d : Nat) (h : MzIn lo hi w m a c b d) (hz : hi ≤ w.heap.size) (_h1 : m.doors.length ≤ 1048576) (_h2 : m.keys.length ≤ 1048576) :
    Calls Try.prog 26 #[.agg #[.int .i64 m.size, .slice a m.doors.length c, .slice b m.keys.length d]] w (IntsOkPost w (M.fwV m) (M.fwB m)) := by
  obtain ⟨ii0, hi0, hz0, hzz1, hz2⟩ := info_parts infoI
  have H := Lib.hid h
  clear h
  go_enter Try.func26, Try.ntmps26
  go_upto_region 2 with fail
  refine wp_named ?_
  intro W hW
  have hb : Below w.heap.size w W := by rw [hW]; exact (below_alloc _ _).alloc (by simp) _
  have x1 : Box3 W w.heap.size 29 (.int .i64 m.size) (.slice a m.doors.length c) (.slice b m.keys.length d) := by rw [hW]; exact (Box3.new _ _ _ _ rfl).alloc _
  have o1 : W.ownsRow (w.heap.size + 1) 3 1 (.slice (some ⟨w.heap.size + 1, 0, none⟩) 0 0) 0 [] := by
    rw [hW]
    have := ownsRow_empty (w.alloc (.cells #[.int .i64 m.size, .slice a m.doors.length c, .slice b m.keys.length d] 29)) (w.heap.size + 1) 3 1 (by simp)
    rw [World.size_alloc] at this
    exact this
  clear hW
  have hzw := hb.size
  have O1 := Lib.hid o1
  have hol : w.heap.size + 1 < W.heap.size := (o1.lt _ rfl).2
  obtain ⟨c0, c1, c2⟩ := x1.cells
  have HIM := Lib.hid (specMaze_any W lo hi m a b c d (H.out.below hb hz) (by omega))
  go_wp2_with fail
  refine (HIM.out).mono ?_
  rintro e w1 ⟨rfl, hb1⟩
  have X1' := Lib.hid (x1.below hb1)
  have HB1 := Lib.hid (hb.trans (hb1.mono hzw))
  have O2 := Lib.hid (own_below O1.out hb1)
  have hz1 := hb1.size
  clear hb hb1 x1 c0 c1 c2 o1
  cases q0 : M.mazeB m with
  | false =>
    have HF : Hid (M.fwV m = []) := Lib.hid (by unfold M.fwV; rw [q0]; rfl)
    have HM : Hid (M.fwB m = false) := Lib.hid (by unfold M.fwB; rw [q0]; rfl)
    clear q0
    go_wp2_with fail
    go_ret2
    rw [HF.out, HM.out]
    exact intsOk_end (l := []) (own_weak O2.out (by omega)) HB1.out
  | true =>
    have HVA := Lib.hid (M.valid_of q0)
    have v1 := HVA.out.size1
    have v12 := HVA.out.size12
    have vk := HVA.out.keysLen
    have HF : Hid (M.fwV m = M.fwL m) := Lib.hid (by unfold M.fwV; rw [q0]; rfl)
    have HM : Hid (M.fwB m = (M.wayO m (M.st0 m) (M.wonB m)).isSome) := Lib.hid (by unfold M.fwB; rw [q0]; rfl)
    clear q0
    have hk0 : 0 < m.keys.length := by omega
    have HH1 := Lib.hid (H.out.below HB1.out hz)
    obtain ⟨kb, koff, hkb, _, hkbl, hkc⟩ := HH1.out.keys.at_ (k := 0) (by rw [M.encIs_len]; exact hk0)
    subst hkb
    have kx : w1.cell? ⟨kb, koff, none⟩ = some (.int .i64 (M.keyAt m 0)) := by
      have := hkc _ _ (M.encIs_at hk0)
      rw [← M.keyAt_eq hk0, Nat.add_zero] at this
      exact this
    have X1 : Hid (Box3 w1 w.heap.size 29 (.int .i64 m.size) (.slice a m.doors.length c) (.slice (some ⟨kb, koff, none⟩) m.keys.length d)) := Lib.hid X1'.out
    have HS0 := Lib.hid (M.st0_eq HVA.out)
    have hd0 : 0 < d := by have := H.out.d1; omega
    have hk64 := M.keyAt_set HVA.out 0
    have HSM := Lib.hid (M.st0_met HVA.out)
    have CR := Lib.hid (remainT_any w1.drew lo hi m a (some ⟨kb, koff, none⟩) c d (H.out.below (Below.drawnN HB1.out 1) hz) (by show hi ≤ w1.heap.size; omega) HVA.out)
    have hkbw : kb < w1.heap.size := by omega
    clear hkc X1' vk
    go_wp2_with fail
    refine wp_region_late2 (fun (wq : World) => wq.cell? ⟨w.heap.size, 0, none⟩ = some (.int .i64 m.size) ∧ wq.cell? ⟨w.heap.size, 1, none⟩ = some (.slice a m.doors.length c) ∧ wq.cell? ⟨w.heap.size, 2, none⟩ = some (.slice (some ⟨kb, koff, none⟩) m.keys.length d) ∧ wq.cell? ⟨kb, koff, none⟩ = some (.int .i64 (M.keyAt m 0))) [] 9 #[false, false, false, false, false, false, false, false, false] rfl rfl (by kernel_rfl) ?_
    have hS : (fun (wq : World) => wq.cell? ⟨w.heap.size, 0, none⟩ = some (.int .i64 m.size) ∧ wq.cell? ⟨w.heap.size, 1, none⟩ = some (.slice a m.doors.length c) ∧ wq.cell? ⟨w.heap.size, 2, none⟩ = some (.slice (some ⟨kb, koff, none⟩) m.keys.length d) ∧ wq.cell? ⟨kb, koff, none⟩ = some (.int .i64 (M.keyAt m 0))) w1.drew := ⟨X1.out.cells.1, X1.out.cells.2.1, X1.out.cells.2.2, kx⟩
    refine wpAnyL_take (i := 0) (oi := { dst := some 14, op := Go.Op.load 29 (Go.Operand.tmp 1), type := 29, pos := "l4_ways.go:126", after := #[], guard := none }) (v := ?qv0) rfl (by kernel_rfl) (by kernel_rfl) (by kernel_rfl) (by kernel_rfl) (fun _ _ _ h => h) (Or.inl ⟨by rfl, ?qh0⟩) hS ?qr0
    case qh0 => (intro wS hSw; (try dsimp only at hSw); go_split_ands; go_simp; try with_reducible rfl)
    try simp only [Act.put, List.setIfInBounds_toArray, List.set_cons_zero, List.set_cons_succ]
    refine wpAnyL_take (i := 2) (oi := { dst := some 16, op := Go.Op.fieldAddr 29 (Go.Operand.tmp 1) 2, type := 0, pos := "l4_ways.go:126", after := #[], guard := none }) (v := ?qv2) rfl (by kernel_rfl) (by kernel_rfl) (by kernel_rfl) (by kernel_rfl) (fun _ _ _ h => h) (Or.inl ⟨by rfl, ?qh2⟩) hS ?qr2
    case qh2 => (intro wS hSw; (try dsimp only at hSw); go_split_ands; go_simp; try with_reducible rfl)
    try simp only [Act.put, List.setIfInBounds_toArray, List.set_cons_zero, List.set_cons_succ]
    refine wpAnyL_take (i := 3) (oi := { dst := some 17, op := Go.Op.load 23 (Go.Operand.tmp 16), type := 23, pos := "l4_ways.go:126", after := #[{ on := 2, ground := Go.Ground.data }], guard := none }) (v := ?qv3) rfl (by kernel_rfl) (by kernel_rfl) (by kernel_rfl) (by kernel_rfl) (fun _ _ _ h => h) (Or.inl ⟨by rfl, ?qh3⟩) hS ?qr3
    case qh3 => (intro wS hSw; (try dsimp only at hSw); go_split_ands; go_simp; try with_reducible rfl)
    try simp only [Act.put, List.setIfInBounds_toArray, List.set_cons_zero, List.set_cons_succ]
    refine wpAnyL_take (i := 4) (oi := { dst := some 18, op := Go.Op.indexAddr 23 (Go.Operand.tmp 17) (Go.Operand.const (Go.Value.int Go.IntKind.i64 0)), type := 0, pos := "l4_ways.go:126", after := #[{ on := 3, ground := Go.Ground.data }], guard := none }) (v := ?qv4) rfl (by kernel_rfl) (by kernel_rfl) (by kernel_rfl) (by kernel_rfl) (fun _ _ _ h => h) (Or.inl ⟨by rfl, ?qh4⟩) hS ?qr4
    case qh4 => (intro wS hSw; (try dsimp only at hSw); go_split_ands; go_simp; try with_reducible rfl)
    try simp only [Act.put, List.setIfInBounds_toArray, List.set_cons_zero, List.set_cons_succ]
    refine wpAnyL_take (i := 5) (oi := { dst := some 19, op := Go.Op.load 3 (Go.Operand.tmp 18), type := 3, pos := "l4_ways.go:126", after := #[{ on := 4, ground := Go.Ground.data }], guard := none }) (v := ?qv5) rfl (by kernel_rfl) (by kernel_rfl) (by kernel_rfl) (by kernel_rfl) (fun _ _ _ h => h) (Or.inl ⟨by rfl, ?qh5⟩) hS ?qr5
    case qh5 => (intro wS hSw; (try dsimp only at hSw); go_split_ands; go_simp; try with_reducible rfl)
    try simp only [Act.put, List.setIfInBounds_toArray, List.set_cons_zero, List.set_cons_succ]
    refine wpAnyL_one (i := 1) (oi := { dst := some 15, op := Go.Op.call { callee := Go.Callee.value (Go.Operand.func 65), args := #[Go.Operand.tmp 14], argTypes := #[29] }, type := 23, pos := "l4_ways.go:126", after := #[{ on := 0, ground := Go.Ground.data }], guard := none }) (by kernel_rfl) rfl (fun Kq1 hKq1 => ?_)
    refine step_call (by rfl) 65 #[.agg #[.int .i64 m.size, .slice a m.doors.length c, .slice (some ⟨kb, koff, none⟩) m.keys.length d]] (by go_simp; try rfl) (CR.out) ?_
    rintro e w2 ⟨ra, rc, rfl, ho2, hb2⟩
    refine ⟨_, rfl, ?_⟩
    have hb2x : Below w1.heap.size w1 w2 := (Below.refl w1.heap.size w1).drew.trans hb2
    have X2 := Lib.hid (X1.out.below hb2x)
    have HB6 := Lib.hid (HB1.out.trans (hb2x.mono HB1.out.size))
    have hSs : (fun (wq : World) => wq.cell? ⟨w.heap.size, 0, none⟩ = some (.int .i64 m.size) ∧ wq.cell? ⟨w.heap.size, 1, none⟩ = some (.slice a m.doors.length c) ∧ wq.cell? ⟨w.heap.size, 2, none⟩ = some (.slice (some ⟨kb, koff, none⟩) m.keys.length d) ∧ wq.cell? ⟨kb, koff, none⟩ = some (.int .i64 (M.keyAt m 0))) w2 := ⟨X2.out.cells.1, X2.out.cells.2.1, X2.out.cells.2.2, (hb2x.cell (p := ⟨kb, koff, none⟩) hkbw).trans kx⟩
    refine hKq1 _ _ (fun _ => hSs) ?_
    clear hS
    have hS := hSs
    try simp only [Act.put, List.setIfInBounds_toArray, List.set_cons_zero, List.set_cons_succ]
    refine wpAnyL_one (i := 6) (oi := { dst := some 20, op := Go.Op.call { callee := Go.Callee.value (Go.Operand.func 66), args := #[Go.Operand.const (Go.Value.int Go.IntKind.i64 0), Go.Operand.tmp 19], argTypes := #[3, 3] }, type := 3, pos := "l4_ways.go:126", after := #[{ on := 5, ground := Go.Ground.data }, { on := 1, ground := Go.Ground.chain }], guard := none }) (by kernel_rfl) rfl (fun Kq6 hKq6 => ?_)
    refine step_call (by rfl) 66 #[.int .i64 0, .int .i64 (M.keyAt m 0)] (by go_simp; try rfl) (l4Id_any 0 (M.keyAt m 0) w2 (by omega) (by omega) hk64.1 (by omega)) ?_
    rintro e w3 ⟨rfl, rfl⟩
    refine ⟨_, rfl, ?_⟩
    have hSs2 := hS
    refine hKq6 _ _ (fun _ => hSs2) ?_
    clear hS
    have hS := hSs2
    try simp only [Act.put, List.setIfInBounds_toArray, List.set_cons_zero, List.set_cons_succ]
    refine wpAnyL_take (i := 7) (oi := { dst := some 5, op := Go.Op.assign (Go.Operand.tmp 15), type := 23, pos := "l4_ways.go:126", after := #[{ on := 1, ground := Go.Ground.data }, { on := 6, ground := Go.Ground.chain }, { on := 0, ground := Go.Ground.phase }, { on := 1, ground := Go.Ground.phase }, { on := 2, ground := Go.Ground.textOnly Go.Departure.lateStores }, { on := 3, ground := Go.Ground.textOnly Go.Departure.lateStores }, { on := 4, ground := Go.Ground.textOnly Go.Departure.lateStores }, { on := 5, ground := Go.Ground.textOnly Go.Departure.lateStores }, { on := 6, ground := Go.Ground.textOnly Go.Departure.lateStoresUnsure }], guard := none }) (v := ?qv7) rfl (by kernel_rfl) (by kernel_rfl) (by kernel_rfl) (by kernel_rfl) (fun _ _ _ h => h) (Or.inl ⟨by rfl, ?qh7⟩) hS ?qr7
    case qh7 => (intro wS hSw; (try dsimp only at hSw); go_split_ands; go_simp; try with_reducible rfl)
    try simp only [Act.put, List.setIfInBounds_toArray, List.set_cons_zero, List.set_cons_succ]
    refine wpAnyL_take (i := 8) (oi := { dst := some 6, op := Go.Op.assign (Go.Operand.tmp 20), type := 3, pos := "l4_ways.go:126", after := #[{ on := 6, ground := Go.Ground.data }, { on := 7, ground := Go.Ground.chain }, { on := 0, ground := Go.Ground.phase }, { on := 1, ground := Go.Ground.phase }, { on := 2, ground := Go.Ground.phase }, { on := 3, ground := Go.Ground.phase }, { on := 4, ground := Go.Ground.phase }, { on := 5, ground := Go.Ground.phase }, { on := 6, ground := Go.Ground.phase }, { on := 7, ground := Go.Ground.phase }], guard := none }) (v := ?qv8) rfl (by kernel_rfl) (by kernel_rfl) (by kernel_rfl) (by kernel_rfl) (fun _ _ _ h => h) (Or.inl ⟨by rfl, ?qh8⟩) hS ?qr8
    case qh8 => (intro wS hSw; (try dsimp only at hSw); go_split_ands; go_simp; try with_reducible rfl)
    try simp only [Act.put, List.setIfInBounds_toArray, List.set_cons_zero, List.set_cons_succ]
    refine wpAnyL_done (by kernel_rfl) ?_ _
    have HID0 : Hid (M.idN (0, M.keyAt m 0) = M.idN (M.st0 m)) := Lib.hid (by rw [HS0.out])
    rw [HID0.out]
    have R2 : Hid (RowIn w1.heap.size w2.heap.size w2 ra (M.encIs (M.tblL (M.size64 m) (M.remO m)))) := Lib.hid ho2.row
    have O3 := Lib.hid (own_below O2.out hb2x)
    have h0l : w.heap.size + 1 < w1.heap.size := by omega
    have hsz : M.size64 m ≤ 768 := by unfold M.size64; omega
    have hil : M.idN (M.st0 m) < M.size64 m := M.idN_lt HSM.out.1
    have hzw2 : w1.heap.size ≤ w2.heap.size := hb2x.size
    clear ho2 hb2x hb2 hS hSs hSs2 kx CR
    obtain ⟨sb, off, hsa, hsb1, hsb2, hcell⟩ := R2.out.at_ (k := M.idN (M.st0 m)) (by rw [M.encIs_len, M.tblL_len]; exact hil)
    subst hsa
    have y0 := hcell _ _ (M.tblL_at hil)
    rw [M.rem_at HSM.out] at y0
    have HIL := Lib.hid (fun u (hu : M.Met m u) => show M.idN u < M.size64 m from M.idN_lt hu.1)
    have hsbw : sb < w2.heap.size := by omega
    have hRC : ∀ ws, RowIn w1.heap.size w2.heap.size ws (some ⟨sb, off, none⟩) (M.encIs (M.tblL (M.size64 m) (M.remO m))) → ∀ u, M.Met m u → ws.cell? ⟨sb, off + M.idN u, none⟩ = some (.int .i64 (M.optI (M.wayO m u (M.wonB m)))) := fun ws hr u hu => by
      obtain ⟨sb', off', e, _, _, hc⟩ := hr.at_ (k := M.idN u) (by rw [M.encIs_len, M.tblL_len]; exact HIL.out u hu)
      injection e with e
      injection e with e1 e2 _
      subst e1; subst e2
      have := hc _ _ (M.tblL_at (HIL.out u hu))
      rw [M.rem_at hu] at this
      exact this
    have HRC := Lib.hid hRC
    clear hcell hRC
    generalize M.size64 m = sz at *
    generalize w1.heap.size = glo at *
    cases hr : M.wayO m (M.st0 m) (M.wonB m) with
    | none =>
      have hok : M.fwB m = false := by rw [HM.out, hr]; rfl
      have hval : M.fwV m = [] := by rw [HF.out]; unfold M.fwL; rw [hr]
      have HOK := Lib.hid hok
      have HVL := Lib.hid hval
      rw [hr, M.optI_none] at y0
      clear hr hok hval
      generalize M.idN (M.st0 m) = i0 at *
      go_wp2_with fail
      go_ret2
      rw [HVL.out, HOK.out]
      exact intsOk_end (l := []) (own_weak O3.out (by omega)) HB6.out
    | some n =>
      have hok : M.fwB m = true := by rw [HM.out, hr]; rfl
      have hval : M.fwV m = M.wayL m n (M.st0 m) := by rw [HF.out]; unfold M.fwL; rw [hr]
      have HOK := Lib.hid hok
      have HVL := Lib.hid hval
      have HR := Lib.hid hr
      have hn768 : n < 768 := by have := M.rem_small HVA.out HSM.out hr; unfold M.size64 at this; omega
      rw [hr, M.optI_some] at y0
      clear hr hok hval
      have HS1 : Hid ((M.st0 m).1 = 0) := Lib.hid rfl
      have hn0 : ¬ (n : Int) < 0 := by omega
      have hzl2 := HB6.out.size
      go_wp2_with (at_builtin; refine wpList_append_lies _ rfl _ _ 23 rfl (w.heap.size + 1) 3 ii0 (.int .i64 0) 1 8 Try.underlying23 hi0 hz0 hzz1 hz2 rfl (by decide) (.slice (some ⟨w.heap.size + 1, 0, none⟩) 0 0) _ _ rfl (O3.out.alloc _) ⟨w2.heap.size, 0, none⟩ 1 1 [.int .i64 0] rfl rfl (cell_one_new _ _ _) (fun x hx => by simp at hx; subst hx; rfl) (by decide) (by unfold maxLen; omega) (by omega) (by simp; omega) _ rfl ?_; intro g7 c7 w7 hown7 hgrow7 hat7 hlt7)
      have hsz7 := hgrow7.size
      have hgl := HB6.out.size
      rw [World.size_alloc] at hsz7 hat7
      have hob7 : (Value.slice (some ⟨w.heap.size + 1, 0, none⟩) 0 0).ownBlock = some (w.heap.size + 1) := rfl
      rw [hob7] at hgrow7 hat7
      have O7 : Hid (w7.ownsRow (w.heap.size + 1) 3 1 (.slice (some ⟨g7, 0, none⟩) ([] : List Int).length.succ c7) ([] : List Int).length.succ (M.encIs ([] ++ [(M.st0 m).1]))) := Lib.hid hown7
      have ZN7 : Hid (g7 < glo ∨ w2.heap.size ≤ g7) := Lib.hid (by
        rcases hat7 with e | e
        · injection e with e; omega
        · omega)
      have X7 := Lib.hid ((X2.out.alloc (.cells #[.int .i64 0] 3)).grown hgrow7 (by intro e; injection e; omega))
      have R7 := Lib.hid ((R2.out.turned (Turned.of_below (below_alloc w2 (.cells #[.int .i64 0] 3)) 0 0) (Nat.le_refl _) (.inr (Nat.zero_le _))).grown hgrow7 (by simp) (fun z hz => by injection hz with hz; omega))
      have L7 := Lib.hid ((HB6.out.alloc (by omega) (.cells #[.int .i64 0] 3)).grown hgrow7 (by simp; omega) (fun z hz => by injection hz with hz; omega))
      clear hown7 hgrow7 hat7 hob7 y0 X2 R2 O3 HB6
      have HWLN := Lib.hid (M.wayL_len m n (M.st0 m))
      go_loopw [4, 6, 7, 8] (fun v4 v6 _ _ wr => ∃ (k : Nat) (u1 u2 : Int) (P : List Int) (g4 c4 : Nat), M.wayO m (u1, u2) (M.wonB m) = some k ∧ M.Met m (u1, u2) ∧ P ++ M.wayL m k (u1, u2) = M.wayL m n (M.st0 m) ∧ v6 = .int .i64 ((M.idN (u1, u2) : Nat) : Int) ∧ v4 = .slice (some ⟨g4, 0, none⟩) P.length.succ c4 ∧
        wr.ownsRow (w.heap.size + 1) 3 1 v4 P.length.succ (M.encIs (P ++ [u1])) ∧ (g4 < glo ∨ w2.heap.size ≤ g4) ∧ Box3 wr w.heap.size 29 (.int .i64 m.size) (.slice a m.doors.length c) (.slice (some ⟨kb, koff, none⟩) m.keys.length d) ∧ RowIn glo w2.heap.size wr (some ⟨sb, off, none⟩) (M.encIs (M.tblL sz (M.remO m))) ∧ Below w.heap.size w wr ∧ w2.heap.size ≤ wr.heap.size) (fun v4 _ _ _ _ => n + 1 - sliceN v4)
      case atStart => exact ⟨n, (M.st0 m).1, (M.st0 m).2, [], g7, c7, HR.out, HSM.out, rfl, rfl, rfl, O7.out, ZN7.out, X7.out, R7.out, L7.out, by omega⟩
      case round =>
        obtain ⟨k, u1, u2, P, g4, c4, hk, hmet, htot, rfl, rfl, ho, hzn, hx, hrow, hlow, hsw⟩ := hrel
        have HK := Lib.hid hk
        have ME := Lib.hid hmet
        have TO := Lib.hid htot
        have OO := Lib.hid ho
        have ZN := Lib.hid hzn
        have XX := Lib.hid hx
        have RR := Lib.hid hrow
        have LL := Lib.hid hlow
        have hlen : P.length + k = n := by
          have := congrArg List.length htot
          rw [List.length_append, M.wayL_len, M.wayL_len] at this
          omega
        have hzr := hlow.size
        have y2 := HRC.out wr hrow (u1, u2) hmet
        have hiu := HIL.out (u1, u2) hmet
        rw [hk, M.optI_some] at y2
        have hsbr : sb < wr.heap.size := by omega
        clear hk hmet htot ho hzn hx hrow hlow
        cases k with
        | zero =>
          have hz0' : ¬ (0 : Int) < ((0 : Nat) : Int) := by omega
          generalize M.idN (u1, u2) = iu at *
          go_wp2_with fail
          go_ret2
          rw [HVL.out, HOK.out, ← TO.out]
          have ht : P ++ M.wayL m 0 (u1, u2) = P ++ [u1] := rfl
          rw [ht]
          exact intsOk_end (ok := true) (by rw [List.length_append]; exact own_weak OO.out (by omega)) LL.out
        | succ j =>
          obtain ⟨c0, c1, c2⟩ := XX.out.cells
          have hxi := M.idN_int ME.out.1
          obtain ⟨h1, h2, h3, h4⟩ := ME.out.1
          simp only at hxi h1 h2 h3 h4
          have hq : ((M.idN (u1, u2) : Nat) : Int).tdiv 64 = u1 := by rw [Int.tdiv_eq_ediv_of_nonneg (by omega)]; omega
          have hr : ((M.idN (u1, u2) : Nat) : Int).tmod 64 = u2 := by rw [Int.tmod_eq_emod_of_nonneg (by omega)]; omega
          have hwx : IntKind.i64.wrap u1 = u1 := IntWalk.i64_in _ (by omega)
          have hpos : (0 : Int) < ((j + 1 : Nat) : Int) := by omega
          have LS := Lib.hid (l4Step_any wr lo hi m a (some ⟨kb, koff, none⟩) c d (H.out.below LL.out hz) (by omega) HVA.out (u1, u2) ME.out.1)
          obtain ⟨t1, t2, hnx⟩ : ∃ t1 t2, M.nxS m (u1, u2) j = (t1, t2) := ⟨_, _, rfl⟩
          have HNX := Lib.hid hnx
          have HOK2 := M.nxS_ok HK.out
          rw [hnx] at HOK2
          have HO1 := Lib.hid HOK2.1
          have HO2 := Lib.hid HOK2.2
          have HEX := Lib.hid (M.nx_ex HK.out)
          have HNA := Lib.hid (fun k (hk : k < (M.nexts m (u1, u2)).length) hh hno => M.nxS_at (m := m) (s := (u1, u2)) (n := j) (k := k) hk hh hno)
          have HTL := Lib.hid (M.ids_len (M.nexts m (u1, u2)))
          have HMN := Lib.hid (fun t (ht : t ∈ M.nexts m (u1, u2)) => M.met_next HVA.out ME.out ht)
          clear hxi HOK2 hnx
          generalize hiu9 : M.idN (u1, u2) = iu at *
          go_wp2_with fail
          refine (LS.out).mono ?_
          rintro e w5 ⟨a5, c5, rfl, ho5, hc5, hc5m, hb5⟩
          have hs5 := hb5.size
          have T5 : Hid (RowIn wr.heap.size w5.heap.size w5 a5 (M.encIs (M.ids (M.nexts m (u1, u2))))) := Lib.hid ho5.row
          have O5 := Lib.hid (own_below OO.out hb5)
          have X5 := Lib.hid (XX.out.below hb5)
          have R5 := Lib.hid (RR.out.turned (Turned.of_below hb5 0 0) hsw (.inr (Nat.zero_le _)))
          have L5 := Lib.hid (LL.out.trans (hb5.mono hzr))
          have hg4l := (OO.out.lt _ rfl)
          have hg4a : w.heap.size + 1 ≤ g4 ∧ g4 < wr.heap.size := hg4l
          rw [HTL.out] at hc5 ⊢
          clear ho5 hb5 hq hr hwx c0 c1 c2 LS hg4l
          generalize hT9 : M.nexts m (u1, u2) = T at *
          have HT9 := Lib.hid hT9
          clear hT9
          generalize wr.heap.size = g9 at *
          go_wp2_with fail
          go_loopw [8] (fun v8 ws => ∃ (k : Nat), k < T.length ∧ v8 = .int .i64 (k : Int) ∧ (∀ i (hi : i < T.length), i < k → M.wayO m T[i] (M.wonB m) ≠ some j) ∧ ws.ownsRow (w.heap.size + 1) 3 1 (.slice (some ⟨g4, 0, none⟩) P.length.succ c4) P.length.succ (M.encIs (P ++ [u1])) ∧ Box3 ws w.heap.size 29 (.int .i64 m.size) (.slice a m.doors.length c) (.slice (some ⟨kb, koff, none⟩) m.keys.length d) ∧
            RowIn glo w2.heap.size ws (some ⟨sb, off, none⟩) (M.encIs (M.tblL sz (M.remO m))) ∧ RowIn g9 w5.heap.size ws a5 (M.encIs (M.ids T)) ∧ Below w.heap.size w ws ∧ w5.heap.size ≤ ws.heap.size) (fun v8 _ => T.length - (intOf v8).toNat)
          case atStart =>
            obtain ⟨k, hk, _⟩ := HEX.out
            exact ⟨0, by omega, rfl, fun i _ hi => absurd hi (Nat.not_lt_zero _), O5.out, X5.out, R5.out, T5.out, L5.out, Nat.le_refl _⟩
          case round =>
            obtain ⟨k, hk, rfl, hno, ho, hx, hrow, htr, hlow, hsz9⟩ := hrel
            have NO := Lib.hid hno
            have OK := Lib.hid ho
            have XK := Lib.hid hx
            have RK := Lib.hid hrow
            have TK := Lib.hid htr
            have LK := Lib.hid hlow
            have hzk := hlow.size
            obtain ⟨rb, roff, hra, hrb1, hrb2, hrc⟩ := htr.at_ (k := k) (by rw [M.encIs_len, M.ids_len]; exact hk)
            subst hra
            have y0 := hrc _ _ (M.ids_at hk)
            have hmt := HMN.out _ (List.getElem_mem hk)
            have y1 := HRC.out wr hrow T[k] hmt
            have hit := HIL.out T[k] hmt
            have y2 : wr.cell? ⟨sb, off + iu, none⟩ = some (.int .i64 ((j + 1 : Nat) : Int)) := by
              have := HRC.out wr hrow (u1, u2) ME.out
              rw [hiu9, HK.out, M.optI_some] at this
              exact this
            have hrbl : rb < wr.heap.size := by omega
            have hsbl : sb < wr.heap.size := by omega
            have HLE : Hid (∃ k', k ≤ k' ∧ ∃ h : k' < T.length, M.wayO m T[k'] (M.wonB m) = some j) := Lib.hid (by
              obtain ⟨k', hk', hw'⟩ := HEX.out
              refine ⟨k', Nat.le_of_not_lt fun hl => hno k' hk' hl hw', hk', hw'⟩)
            have HNA2 := Lib.hid (HNA.out k hk)
            have HN1 : Hid (M.wayO m T[k] (M.wonB m) ≠ some j → k + 1 < T.length ∧ ∀ i (hi : i < T.length), i < k + 1 → M.wayO m T[i] (M.wonB m) ≠ some j) := Lib.hid (fun hne => by
              refine ⟨?_, fun i hi hik => ?_⟩
              · obtain ⟨k', h1, h2, h3⟩ := HLE.out
                rcases Nat.eq_or_lt_of_le h1 with e | e
                · subst e; exact absurd h3 hne
                · omega
              · rcases Nat.eq_or_lt_of_le (Nat.le_of_lt_succ hik) with e | e
                · subst e; exact hne
                · exact hno i hi e)
            have hwj : IntKind.i64.wrap (((j + 1 : Nat) : Int) - 1) = (j : Int) := by rw [show ((j + 1 : Nat) : Int) - 1 = (j : Int) by omega]; exact IntWalk.i64_in _ (by omega)
            have hwj2 : IntKind.i64.wrap (j : Int) = (j : Int) := IntWalk.i64_in _ (by omega)
            clear hno ho hx hrow htr hlow hrc
            by_cases hwk : M.wayO m T[k] (M.wonB m) = some j
            · have HE := Lib.hid (HNA2.out hwk fun i hi hik => NO.out i hi hik)
              rw [hwk, M.optI_some] at y1
              rw [HNX.out] at HE
              have hE1 : T[k] = (t1, t2) := HE.out.symm
              rw [hE1] at y0 y1 hit
              have HMT := hmt
              rw [hE1] at HMT
              have MT := Lib.hid HMT
              have hti := M.idN_int HMT.1
              obtain ⟨b1, b2, b3, b4⟩ := HMT.1
              simp only at hti b1 b2 b3 b4
              have hq : ((M.idN (t1, t2) : Nat) : Int).tdiv 64 = t1 := by rw [Int.tdiv_eq_ediv_of_nonneg (by omega)]; omega
              have hwt : IntKind.i64.wrap t1 = t1 := IntWalk.i64_in _ (by omega)
              clear hE1 HMT hti hmt HN1 HLE HNA2
              generalize hit9 : M.idN (t1, t2) = it at *
              go_wp2_with fail
              refine wp_region_late2 (fun (wq : World) => wq.cell? ⟨rb, roff + k, none⟩ = some (.int .i64 ((it : Nat) : Int)) ∧ wq.cell? ⟨sb, off + it, none⟩ = some (.int .i64 (j : Int)) ∧ wq.cell? ⟨sb, off + iu, none⟩ = some (.int .i64 ((j + 1 : Nat) : Int))) [] 13 #[false, false, false, false, false, false, false, false, false, false, false, false, false] rfl rfl (by kernel_rfl) ?_
              have hS : (fun (wq : World) => wq.cell? ⟨rb, roff + k, none⟩ = some (.int .i64 ((it : Nat) : Int)) ∧ wq.cell? ⟨sb, off + it, none⟩ = some (.int .i64 (j : Int)) ∧ wq.cell? ⟨sb, off + iu, none⟩ = some (.int .i64 ((j + 1 : Nat) : Int))) wr.drew := ⟨y0, y1, y2⟩
              refine wpAnyL_take (i := 0) (oi := { dst := some 41, op := Go.Op.move (Go.Operand.tmp 5), type := 23, pos := "l4_ways.go:133", after := #[], guard := none }) (v := ?tv0) rfl (by kernel_rfl) (by kernel_rfl) (by kernel_rfl) (by kernel_rfl) (fun _ _ _ h => h) (Or.inl ⟨by rfl, ?th0⟩) hS ?tr0
              case th0 => (intro wS hSw; (try dsimp only at hSw); go_split_ands; go_simp; try with_reducible rfl)
              try simp only [Act.put, List.setIfInBounds_toArray, List.set_cons_zero, List.set_cons_succ]
              refine wpAnyL_take (i := 1) (oi := { dst := some 42, op := Go.Op.move (Go.Operand.tmp 7), type := 23, pos := "l4_ways.go:133", after := #[], guard := none }) (v := ?tv1) rfl (by kernel_rfl) (by kernel_rfl) (by kernel_rfl) (by kernel_rfl) (fun _ _ _ h => h) (Or.inl ⟨by rfl, ?th1⟩) hS ?tr1
              case th1 => (intro wS hSw; (try dsimp only at hSw); go_split_ands; go_simp; try with_reducible rfl)
              try simp only [Act.put, List.setIfInBounds_toArray, List.set_cons_zero, List.set_cons_succ]
              refine wpAnyL_take (i := 2) (oi := { dst := some 43, op := Go.Op.move (Go.Operand.tmp 8), type := 3, pos := "l4_ways.go:133", after := #[], guard := none }) (v := ?tv2) rfl (by kernel_rfl) (by kernel_rfl) (by kernel_rfl) (by kernel_rfl) (fun _ _ _ h => h) (Or.inl ⟨by rfl, ?th2⟩) hS ?tr2
              case th2 => (intro wS hSw; (try dsimp only at hSw); go_split_ands; go_simp; try with_reducible rfl)
              try simp only [Act.put, List.setIfInBounds_toArray, List.set_cons_zero, List.set_cons_succ]
              refine wpAnyL_take (i := 3) (oi := { dst := some 44, op := Go.Op.indexAddr 23 (Go.Operand.tmp 42) (Go.Operand.tmp 43), type := 0, pos := "l4_ways.go:133", after := #[{ on := 1, ground := Go.Ground.data }, { on := 2, ground := Go.Ground.data }], guard := none }) (v := ?tv3) rfl (by kernel_rfl) (by kernel_rfl) (by kernel_rfl) (by kernel_rfl) (fun _ _ _ h => h) (Or.inl ⟨by rfl, ?th3⟩) hS ?tr3
              case th3 => (intro wS hSw; (try dsimp only at hSw); go_split_ands; go_simp; try with_reducible rfl)
              try simp only [Act.put, List.setIfInBounds_toArray, List.set_cons_zero, List.set_cons_succ]
              refine wpAnyL_take (i := 4) (oi := { dst := some 45, op := Go.Op.load 3 (Go.Operand.tmp 44), type := 3, pos := "l4_ways.go:133", after := #[{ on := 3, ground := Go.Ground.data }], guard := none }) (v := ?tv4) rfl (by kernel_rfl) (by kernel_rfl) (by kernel_rfl) (by kernel_rfl) (fun _ _ _ h => h) (Or.inl ⟨by rfl, ?th4⟩) hS ?tr4
              case th4 => (intro wS hSw; (try dsimp only at hSw); go_split_ands; go_simp; try with_reducible rfl)
              try simp only [Act.put, List.setIfInBounds_toArray, List.set_cons_zero, List.set_cons_succ]
              refine wpAnyL_take (i := 5) (oi := { dst := some 46, op := Go.Op.indexAddr 23 (Go.Operand.tmp 41) (Go.Operand.tmp 45), type := 0, pos := "l4_ways.go:133", after := #[{ on := 0, ground := Go.Ground.data }, { on := 4, ground := Go.Ground.data }], guard := none }) (v := ?tv5) rfl (by kernel_rfl) (by kernel_rfl) (by kernel_rfl) (by kernel_rfl) (fun _ _ _ h => h) (Or.inl ⟨by rfl, ?th5⟩) hS ?tr5
              case th5 => (intro wS hSw; (try dsimp only at hSw); go_split_ands; go_simp; try with_reducible rfl)
              try simp only [Act.put, List.setIfInBounds_toArray, List.set_cons_zero, List.set_cons_succ]
              refine wpAnyL_take (i := 6) (oi := { dst := some 47, op := Go.Op.load 3 (Go.Operand.tmp 46), type := 3, pos := "l4_ways.go:133", after := #[{ on := 5, ground := Go.Ground.data }], guard := none }) (v := ?tv6) rfl (by kernel_rfl) (by kernel_rfl) (by kernel_rfl) (by kernel_rfl) (fun _ _ _ h => h) (Or.inl ⟨by rfl, ?th6⟩) hS ?tr6
              case th6 => (intro wS hSw; (try dsimp only at hSw); go_split_ands; go_simp; try with_reducible rfl)
              try simp only [Act.put, List.setIfInBounds_toArray, List.set_cons_zero, List.set_cons_succ]
              refine wpAnyL_take (i := 7) (oi := { dst := some 48, op := Go.Op.move (Go.Operand.tmp 5), type := 23, pos := "l4_ways.go:133", after := #[], guard := none }) (v := ?tv7) rfl (by kernel_rfl) (by kernel_rfl) (by kernel_rfl) (by kernel_rfl) (fun _ _ _ h => h) (Or.inl ⟨by rfl, ?th7⟩) hS ?tr7
              case th7 => (intro wS hSw; (try dsimp only at hSw); go_split_ands; go_simp; try with_reducible rfl)
              try simp only [Act.put, List.setIfInBounds_toArray, List.set_cons_zero, List.set_cons_succ]
              refine wpAnyL_take (i := 8) (oi := { dst := some 49, op := Go.Op.move (Go.Operand.tmp 6), type := 3, pos := "l4_ways.go:133", after := #[], guard := none }) (v := ?tv8) rfl (by kernel_rfl) (by kernel_rfl) (by kernel_rfl) (by kernel_rfl) (fun _ _ _ h => h) (Or.inl ⟨by rfl, ?th8⟩) hS ?tr8
              case th8 => (intro wS hSw; (try dsimp only at hSw); go_split_ands; go_simp; try with_reducible rfl)
              try simp only [Act.put, List.setIfInBounds_toArray, List.set_cons_zero, List.set_cons_succ]
              refine wpAnyL_take (i := 9) (oi := { dst := some 50, op := Go.Op.indexAddr 23 (Go.Operand.tmp 48) (Go.Operand.tmp 49), type := 0, pos := "l4_ways.go:133", after := #[{ on := 7, ground := Go.Ground.data }, { on := 8, ground := Go.Ground.data }], guard := none }) (v := ?tv9) rfl (by kernel_rfl) (by kernel_rfl) (by kernel_rfl) (by kernel_rfl) (fun _ _ _ h => h) (Or.inl ⟨by rfl, ?th9⟩) hS ?tr9
              case th9 => (intro wS hSw; (try dsimp only at hSw); go_split_ands; go_simp; try with_reducible rfl)
              try simp only [Act.put, List.setIfInBounds_toArray, List.set_cons_zero, List.set_cons_succ]
              refine wpAnyL_take (i := 10) (oi := { dst := some 51, op := Go.Op.load 3 (Go.Operand.tmp 50), type := 3, pos := "l4_ways.go:133", after := #[{ on := 9, ground := Go.Ground.data }], guard := none }) (v := ?tv10) rfl (by kernel_rfl) (by kernel_rfl) (by kernel_rfl) (by kernel_rfl) (fun _ _ _ h => h) (Or.inl ⟨by rfl, ?th10⟩) hS ?tr10
              case th10 => (intro wS hSw; (try dsimp only at hSw); go_split_ands; go_simp; try with_reducible rfl)
              try simp only [Act.put, List.setIfInBounds_toArray, List.set_cons_zero, List.set_cons_succ]
              refine wpAnyL_take (i := 11) (oi := { dst := some 52, op := Go.Op.binOp Go.BinOp.sub 3 (Go.Operand.tmp 51) (Go.Operand.const (Go.Value.int Go.IntKind.i64 1)) 3, type := 3, pos := "l4_ways.go:133", after := #[{ on := 10, ground := Go.Ground.data }], guard := none }) (v := ?tv11) rfl (by kernel_rfl) (by kernel_rfl) (by kernel_rfl) (by kernel_rfl) (fun _ _ _ h => h) (Or.inl ⟨by rfl, ?th11⟩) hS ?tr11
              case th11 => (intro wS hSw; (try dsimp only at hSw); go_split_ands; go_simp; try with_reducible rfl)
              try simp only [Act.put, List.setIfInBounds_toArray, List.set_cons_zero, List.set_cons_succ]
              refine wpAnyL_take (i := 12) (oi := { dst := some 53, op := Go.Op.binOp Go.BinOp.neq 3 (Go.Operand.tmp 47) (Go.Operand.tmp 52) 3, type := 4, pos := "l4_ways.go:133", after := #[{ on := 6, ground := Go.Ground.data }, { on := 11, ground := Go.Ground.data }], guard := none }) (v := ?tv12) rfl (by kernel_rfl) (by kernel_rfl) (by kernel_rfl) (by kernel_rfl) (fun _ _ _ h => h) (Or.inl ⟨by rfl, ?th12⟩) hS ?tr12
              case th12 => (intro wS hSw; (try dsimp only at hSw); go_split_ands; go_simp; try with_reducible rfl)
              try simp only [Act.put, List.setIfInBounds_toArray, List.set_cons_zero, List.set_cons_succ]
              refine wpAnyL_done (by kernel_rfl) ?_ _
              have OD : Hid (wr.drew.ownsRow (w.heap.size + 1) 3 1 (.slice (some ⟨g4, 0, none⟩) P.length.succ c4) P.length.succ (M.encIs (P ++ [u1]))) := Lib.hid OK.out
              have hsw5 : w5.heap.size ≤ wr.drew.heap.size := hsz9
              go_wp2_with (at_builtin; refine wpList_append_lies _ rfl _ _ 23 rfl (w.heap.size + 1) 3 ii0 (.int .i64 0) 1 8 Try.underlying23 hi0 hz0 hzz1 hz2 rfl (by decide) (.slice (some ⟨g4, 0, none⟩) P.length.succ c4) _ _ rfl (OD.out.alloc _) ⟨wr.drew.heap.size, 0, none⟩ 1 1 [.int .i64 t1] rfl rfl (cell_one_new _ _ _) (fun x hx => by simp at hx; subst hx; rfl) (by decide) (by unfold maxLen; omega) (by omega) (by show w.heap.size + 1 ≤ (wr.drew.alloc _).heap.size; rw [World.size_alloc]; omega) _ rfl ?_; intro g7 c7 w7 hown7 hgrow7 hat7 hlt7)
              go_roundw
              case rel =>
                have hgd : (wr.alloc (.cells #[.int .i64 t1] 3)).drew.heap.size = wr.heap.size + 1 := by show (wr.alloc _).heap.size = _; rw [World.size_alloc]
                have hsz7 := hgrow7.size
                rw [hgd] at hsz7 hat7
                have hob7 : (Value.slice (some ⟨g4, 0, none⟩) P.length.succ c4).ownBlock = some g4 := rfl
                rw [hob7] at hgrow7 hat7
                have hzn := ZN.out
                refine ⟨j, t1, t2, P ++ [u1], g7, c7, HO2.out, MT.out, ?_, by rw [hit9], by rw [List.length_append]; rfl, ?_, ?_, (show Box3 (wr.alloc (.cells #[.int .i64 t1] 3)).drew _ _ _ _ _ from XK.out.alloc _).grown hgrow7 (by intro e; injection e; omega), (show RowIn glo w2.heap.size (wr.alloc (.cells #[.int .i64 t1] 3)).drew _ _ from (RK.out.turned (Turned.of_below (below_alloc wr (.cells #[.int .i64 t1] 3)) 0 0) (by omega) (.inr (Nat.zero_le _)) : RowIn glo w2.heap.size (wr.alloc (.cells #[.int .i64 t1] 3)) _ _)).grown hgrow7 (by rw [hgd]; omega) (fun z hz => by injection hz with hz; omega), (Below.drawnN (LK.out.alloc (by omega) (.cells #[.int .i64 t1] 3)) 1).grown hgrow7 (by show w.heap.size ≤ (wr.alloc (.cells #[.int .i64 t1] 3)).heap.size; rw [World.size_alloc]; omega) (fun z hz => by injection hz with hz; omega), by omega⟩
                · rw [List.append_assoc, ← TO.out]
                  congr 1
                  show [u1] ++ M.wayL m j (t1, t2) = u1 :: M.wayL m j (M.nxS m (u1, u2) j)
                  rw [HNX.out]
                  rfl
                · have hl9 : (P ++ [u1]).length.succ = P.length.succ + 1 := by rw [List.length_append]; rfl
                  rw [hl9, M.encIs_append]
                  exact hown7
                · rcases hat7 with e | e
                  · injection e with e; omega
                  · omega
              case measure => simp [sliceN]; omega
            · have hne : ¬ M.optI (M.wayO m T[k] (M.wonB m)) = (j : Int) := fun e => hwk (M.optI_eq.1 e)
              have HN2 := Lib.hid (HN1.out hwk)
              have hk1 := HN2.out.1
              generalize M.optI (M.wayO m T[k] (M.wonB m)) = vt at *
              generalize M.idN T[k] = it at *
              clear HN1 HLE HNA2 hmt
              go_wp2_with fail
              refine wp_region_late2 (fun (wq : World) => wq.cell? ⟨rb, roff + k, none⟩ = some (.int .i64 ((it : Nat) : Int)) ∧ wq.cell? ⟨sb, off + it, none⟩ = some (.int .i64 vt) ∧ wq.cell? ⟨sb, off + iu, none⟩ = some (.int .i64 ((j + 1 : Nat) : Int))) [] 13 #[false, false, false, false, false, false, false, false, false, false, false, false, false] rfl rfl (by kernel_rfl) ?_
              have hS : (fun (wq : World) => wq.cell? ⟨rb, roff + k, none⟩ = some (.int .i64 ((it : Nat) : Int)) ∧ wq.cell? ⟨sb, off + it, none⟩ = some (.int .i64 vt) ∧ wq.cell? ⟨sb, off + iu, none⟩ = some (.int .i64 ((j + 1 : Nat) : Int))) wr.drew := ⟨y0, y1, y2⟩
              refine wpAnyL_take (i := 0) (oi := { dst := some 41, op := Go.Op.move (Go.Operand.tmp 5), type := 23, pos := "l4_ways.go:133", after := #[], guard := none }) (v := ?sv0) rfl (by kernel_rfl) (by kernel_rfl) (by kernel_rfl) (by kernel_rfl) (fun _ _ _ h => h) (Or.inl ⟨by rfl, ?sh0⟩) hS ?sr0
              case sh0 => (intro wS hSw; (try dsimp only at hSw); go_split_ands; go_simp; try with_reducible rfl)
              try simp only [Act.put, List.setIfInBounds_toArray, List.set_cons_zero, List.set_cons_succ]
              refine wpAnyL_take (i := 1) (oi := { dst := some 42, op := Go.Op.move (Go.Operand.tmp 7), type := 23, pos := "l4_ways.go:133", after := #[], guard := none }) (v := ?sv1) rfl (by kernel_rfl) (by kernel_rfl) (by kernel_rfl) (by kernel_rfl) (fun _ _ _ h => h) (Or.inl ⟨by rfl, ?sh1⟩) hS ?sr1
              case sh1 => (intro wS hSw; (try dsimp only at hSw); go_split_ands; go_simp; try with_reducible rfl)
              try simp only [Act.put, List.setIfInBounds_toArray, List.set_cons_zero, List.set_cons_succ]
              refine wpAnyL_take (i := 2) (oi := { dst := some 43, op := Go.Op.move (Go.Operand.tmp 8), type := 3, pos := "l4_ways.go:133", after := #[], guard := none }) (v := ?sv2) rfl (by kernel_rfl) (by kernel_rfl) (by kernel_rfl) (by kernel_rfl) (fun _ _ _ h => h) (Or.inl ⟨by rfl, ?sh2⟩) hS ?sr2
              case sh2 => (intro wS hSw; (try dsimp only at hSw); go_split_ands; go_simp; try with_reducible rfl)
              try simp only [Act.put, List.setIfInBounds_toArray, List.set_cons_zero, List.set_cons_succ]
              refine wpAnyL_take (i := 3) (oi := { dst := some 44, op := Go.Op.indexAddr 23 (Go.Operand.tmp 42) (Go.Operand.tmp 43), type := 0, pos := "l4_ways.go:133", after := #[{ on := 1, ground := Go.Ground.data }, { on := 2, ground := Go.Ground.data }], guard := none }) (v := ?sv3) rfl (by kernel_rfl) (by kernel_rfl) (by kernel_rfl) (by kernel_rfl) (fun _ _ _ h => h) (Or.inl ⟨by rfl, ?sh3⟩) hS ?sr3
              case sh3 => (intro wS hSw; (try dsimp only at hSw); go_split_ands; go_simp; try with_reducible rfl)
              try simp only [Act.put, List.setIfInBounds_toArray, List.set_cons_zero, List.set_cons_succ]
              refine wpAnyL_take (i := 4) (oi := { dst := some 45, op := Go.Op.load 3 (Go.Operand.tmp 44), type := 3, pos := "l4_ways.go:133", after := #[{ on := 3, ground := Go.Ground.data }], guard := none }) (v := ?sv4) rfl (by kernel_rfl) (by kernel_rfl) (by kernel_rfl) (by kernel_rfl) (fun _ _ _ h => h) (Or.inl ⟨by rfl, ?sh4⟩) hS ?sr4
              case sh4 => (intro wS hSw; (try dsimp only at hSw); go_split_ands; go_simp; try with_reducible rfl)
              try simp only [Act.put, List.setIfInBounds_toArray, List.set_cons_zero, List.set_cons_succ]
              refine wpAnyL_take (i := 5) (oi := { dst := some 46, op := Go.Op.indexAddr 23 (Go.Operand.tmp 41) (Go.Operand.tmp 45), type := 0, pos := "l4_ways.go:133", after := #[{ on := 0, ground := Go.Ground.data }, { on := 4, ground := Go.Ground.data }], guard := none }) (v := ?sv5) rfl (by kernel_rfl) (by kernel_rfl) (by kernel_rfl) (by kernel_rfl) (fun _ _ _ h => h) (Or.inl ⟨by rfl, ?sh5⟩) hS ?sr5
              case sh5 => (intro wS hSw; (try dsimp only at hSw); go_split_ands; go_simp; try with_reducible rfl)
              try simp only [Act.put, List.setIfInBounds_toArray, List.set_cons_zero, List.set_cons_succ]
              refine wpAnyL_take (i := 6) (oi := { dst := some 47, op := Go.Op.load 3 (Go.Operand.tmp 46), type := 3, pos := "l4_ways.go:133", after := #[{ on := 5, ground := Go.Ground.data }], guard := none }) (v := ?sv6) rfl (by kernel_rfl) (by kernel_rfl) (by kernel_rfl) (by kernel_rfl) (fun _ _ _ h => h) (Or.inl ⟨by rfl, ?sh6⟩) hS ?sr6
              case sh6 => (intro wS hSw; (try dsimp only at hSw); go_split_ands; go_simp; try with_reducible rfl)
              try simp only [Act.put, List.setIfInBounds_toArray, List.set_cons_zero, List.set_cons_succ]
              refine wpAnyL_take (i := 7) (oi := { dst := some 48, op := Go.Op.move (Go.Operand.tmp 5), type := 23, pos := "l4_ways.go:133", after := #[], guard := none }) (v := ?sv7) rfl (by kernel_rfl) (by kernel_rfl) (by kernel_rfl) (by kernel_rfl) (fun _ _ _ h => h) (Or.inl ⟨by rfl, ?sh7⟩) hS ?sr7
              case sh7 => (intro wS hSw; (try dsimp only at hSw); go_split_ands; go_simp; try with_reducible rfl)
              try simp only [Act.put, List.setIfInBounds_toArray, List.set_cons_zero, List.set_cons_succ]
              refine wpAnyL_take (i := 8) (oi := { dst := some 49, op := Go.Op.move (Go.Operand.tmp 6), type := 3, pos := "l4_ways.go:133", after := #[], guard := none }) (v := ?sv8) rfl (by kernel_rfl) (by kernel_rfl) (by kernel_rfl) (by kernel_rfl) (fun _ _ _ h => h) (Or.inl ⟨by rfl, ?sh8⟩) hS ?sr8
              case sh8 => (intro wS hSw; (try dsimp only at hSw); go_split_ands; go_simp; try with_reducible rfl)
              try simp only [Act.put, List.setIfInBounds_toArray, List.set_cons_zero, List.set_cons_succ]
              refine wpAnyL_take (i := 9) (oi := { dst := some 50, op := Go.Op.indexAddr 23 (Go.Operand.tmp 48) (Go.Operand.tmp 49), type := 0, pos := "l4_ways.go:133", after := #[{ on := 7, ground := Go.Ground.data }, { on := 8, ground := Go.Ground.data }], guard := none }) (v := ?sv9) rfl (by kernel_rfl) (by kernel_rfl) (by kernel_rfl) (by kernel_rfl) (fun _ _ _ h => h) (Or.inl ⟨by rfl, ?sh9⟩) hS ?sr9
              case sh9 => (intro wS hSw; (try dsimp only at hSw); go_split_ands; go_simp; try with_reducible rfl)
              try simp only [Act.put, List.setIfInBounds_toArray, List.set_cons_zero, List.set_cons_succ]
              refine wpAnyL_take (i := 10) (oi := { dst := some 51, op := Go.Op.load 3 (Go.Operand.tmp 50), type := 3, pos := "l4_ways.go:133", after := #[{ on := 9, ground := Go.Ground.data }], guard := none }) (v := ?sv10) rfl (by kernel_rfl) (by kernel_rfl) (by kernel_rfl) (by kernel_rfl) (fun _ _ _ h => h) (Or.inl ⟨by rfl, ?sh10⟩) hS ?sr10
              case sh10 => (intro wS hSw; (try dsimp only at hSw); go_split_ands; go_simp; try with_reducible rfl)
              try simp only [Act.put, List.setIfInBounds_toArray, List.set_cons_zero, List.set_cons_succ]
              refine wpAnyL_take (i := 11) (oi := { dst := some 52, op := Go.Op.binOp Go.BinOp.sub 3 (Go.Operand.tmp 51) (Go.Operand.const (Go.Value.int Go.IntKind.i64 1)) 3, type := 3, pos := "l4_ways.go:133", after := #[{ on := 10, ground := Go.Ground.data }], guard := none }) (v := ?sv11) rfl (by kernel_rfl) (by kernel_rfl) (by kernel_rfl) (by kernel_rfl) (fun _ _ _ h => h) (Or.inl ⟨by rfl, ?sh11⟩) hS ?sr11
              case sh11 => (intro wS hSw; (try dsimp only at hSw); go_split_ands; go_simp; try with_reducible rfl)
              try simp only [Act.put, List.setIfInBounds_toArray, List.set_cons_zero, List.set_cons_succ]
              refine wpAnyL_take (i := 12) (oi := { dst := some 53, op := Go.Op.binOp Go.BinOp.neq 3 (Go.Operand.tmp 47) (Go.Operand.tmp 52) 3, type := 4, pos := "l4_ways.go:133", after := #[{ on := 6, ground := Go.Ground.data }, { on := 11, ground := Go.Ground.data }], guard := none }) (v := ?sv12) rfl (by kernel_rfl) (by kernel_rfl) (by kernel_rfl) (by kernel_rfl) (fun _ _ _ h => h) (Or.inl ⟨by rfl, ?sh12⟩) hS ?sr12
              case sh12 => (intro wS hSw; (try dsimp only at hSw); go_split_ands; go_simp; try with_reducible rfl)
              try simp only [Act.put, List.setIfInBounds_toArray, List.set_cons_zero, List.set_cons_succ]
              refine wpAnyL_done (by kernel_rfl) ?_ _
              go_wp2_with fail
              go_roundw
              case rel => exact ⟨k + 1, hk1, by go_num, HN2.out.2, OK.out, XK.out, RK.out, TK.out, Below.drawnN LK.out 1, hsz9⟩
              case measure => simp [intOf]; omega
end C
end Go.Proofs.Ytbpinhfjfjfbdaa
