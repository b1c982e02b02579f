/-
  CONTRACT of the model's l4Remain: for each node and set, by the number of both, the least number of steps in which one can win from there, or -1, in a new list; what lay in memory stays. Condition: a valid maze.
  CONTRACT of the model's FewestFrom; what lay in memory stays. No condition but that the maze reads so.
  CONTRACT of the model's FirstWay; what lay in memory stays. No condition but that the maze reads so.
-/
import Derived.Test.YtcoaggnilgfjfaaTMath
import Derived.StillTailTactics
import Derived.Test.YtcoaggnilgfjfaaLate
import Derived.Test.YtcoaggnilgfjfaaStep
import Derived.IntWalk
import Derived.Test.YtcoaggnilgfjfaaUValid
import Derived.Deep.AppendLies
namespace Go.Proofs.Ytcoaggnilgfjfaa
open Go.RowKit
namespace C
set_option maxHeartbeats 6400000
set_option maxRecDepth 200000
theorem l4Remain_any (w : World) (lo hi : Nat) (m : M.Mz) (a b : Option Addr) (c d : Nat) (h : MzIn lo hi w m a c b d) (hz : hi ≤ w.heap.size) (V : M.Valid m) :
    Calls Try.prog 107 #[.agg #[.int .i64 m.size, .slice a m.doors.length c, .slice b m.keys.length d]] w (IntsPost w (M.remainL m)) := by
  obtain ⟨ii0, hi0, hz0, hzz1, hz2⟩ := info_parts infoI
  have H := Lib.hid h
  have HVA := Lib.hid V
  have v12 := V.size12
  have v1 := V.size1
  have vk := V.keysLen
  obtain ⟨sz, hsz'⟩ : ∃ n : Nat, n = M.size64 m := ⟨_, rfl⟩
  have HSZ := Lib.hid hsz'
  have hszi : (sz : Int) = m.size * 64 := by rw [hsz']; unfold M.size64; omega
  have hszb : sz ≤ 768 ∧ 64 ≤ sz := by omega
  have HIDL := Lib.hid (fun t (ht : M.StOk m t) => show M.idN t < sz by rw [hsz']; exact M.idN_lt ht)
  have HOKI := Lib.hid (fun i (hi : i < sz) => show M.StOk m (M.unid i) from M.unid_ok (by rw [← hsz']; exact hi))
  have HALL : Hid (M.tblN sz (M.midG m sz 0) = M.remainL m) := Lib.hid (by rw [hsz']; exact M.remain_all V)
  have HSAME := Lib.hid (fun n k (hnk : n ≤ k) (hh : ∀ i, i < sz → M.remO m (M.unid i) ≠ some n) => show M.tblN sz (M.midG m k 0) = M.remainL m by rw [hsz']; exact M.remain_same V hnk (by rw [← hsz']; exact hh))
  have HEND := Lib.hid (fun n => show M.tblN sz (M.midG m n sz) = M.tblN sz (M.midG m (n + 1) 0) by rw [hsz']; exact M.midG_end m n)
  have HNO := Lib.hid (fun i n (hi : i < sz) hh => M.mid_no V (i := i) (n := n) (by rw [← hsz']; exact hi) hh)
  have HYES := Lib.hid (fun i n (hi : i < sz) hc u (hu : u ∈ M.nexts m (M.stAt m (M.unid i).1 (M.unid i).2)) hr => M.rem_yes V (i := i) (n := n) (by rw [← hsz']; exact hi) hc (u := u) hu hr)
  have HSI := Lib.hid hszi
  clear h V hsz'
  go_enter Try.func107, Try.ntmps107
  go_upto_region 1 with fail
  refine wp_named ?_
  intro W hW
  have hb : Below w.heap.size w W := by rw [hW]; exact below_alloc _ _
  have x1 : Box3 W w.heap.size 29 (.int .i64 m.size) (.slice a m.doors.length c) (.slice b m.keys.length d) := by rw [hW]; exact Box3.new _ _ _ _ rfl
  have hws : W.heap.size = w.heap.size + 1 := by rw [hW]; simp
  clear hW
  obtain ⟨c0, c1, c2⟩ := x1.cells
  have X1 := Lib.hid x1
  have HB := Lib.hid hb
  clear x1 hb hszi
  go_wp2_with (at_make; refine wpList_make_full _ rfl _ _ 23 rfl W.heap.size 3 ii0 (.int .i64 0) 1 Try.underlying23 hi0 hz0 hzz1 .i64 .i64 _ _ sz rfl rfl HSI.out.symm HSI.out.symm (by rw [hz2]; omega) (by unfold maxLen; omega) (Nat.le_refl _) ?_; intro w1 hown1 hgrow1)
  rw [hws] at hown1
  have hb1 : Below W.heap.size W w1 := (Below.refl _ _).grown hgrow1 (Nat.le_refl _) (fun k e => by cases e)
  have HO1 : Hid (∃ xs : List Value, w1.ownsRow (w.heap.size + 1) 3 1 (.slice (some ⟨w.heap.size + 1, 0, none⟩) sz sz) sz xs) := Lib.hid ⟨_, hown1⟩
  have X2 := Lib.hid (X1.out.below hb1)
  have HB2 := Lib.hid (HB.out.trans (hb1.mono (by omega)))
  clear hown1 hgrow1 hb1 c0 c1 c2
  clear hws
  go_wp2_with fail
  go_loopw [4] (fun v4 wr => ∃ (k : Nat) (xs : List Value), k ≤ sz ∧ v4 = .int .i64 (k : Int) ∧ xs.take k = (M.encIs (M.tblN sz (M.midG m 1 0))).take k ∧ wr.ownsRow (w.heap.size + 1) 3 1 (.slice (some ⟨w.heap.size + 1, 0, none⟩) sz sz) sz xs ∧ Box3 wr w.heap.size 29 (.int .i64 m.size) (.slice a m.doors.length c) (.slice b m.keys.length d) ∧ Below w.heap.size w wr) (fun v4 _ => sz - (intOf v4).toNat)
  case atStart =>
    obtain ⟨xs, hx⟩ := HO1.out
    exact ⟨0, xs, Nat.zero_le _, rfl, by simp, hx, X2.out, HB2.out⟩
  case round =>
    obtain ⟨k, xs, hk, rfl, ht, hown, hbx, hlow⟩ := hrel
    have HT := Lib.hid ht
    have HO := Lib.hid hown
    have BX := Lib.hid hbx
    have LO := Lib.hid hlow
    have hzr := hlow.size
    have HXL := Lib.hid (show xs.length = sz by have := hown.1; omega)
    have hol := (hown.lt _ rfl).2
    clear ht hown hbx hlow
    by_cases hlt : k < sz
    · obtain ⟨u, hu⟩ : ∃ u, xs[k]? = some u := ⟨_, List.getElem?_eq_getElem (by have := HXL.out; omega)⟩
      have hdst : wr.cell? ⟨w.heap.size + 1, k, none⟩ = some u := by rw [HO.out.cellAt k (by omega), hu]
      have hfr : wr.frozen? ⟨w.heap.size + 1, k, none⟩ = false := HO.out.frozenAt k
      have HS := Lib.hid (HO.out.stored k (.int .i64 (-1)))
      have HTA := Lib.hid (M.tblN_at (g := M.midG m 1 0) hlt)
      have HST : Hid (M.midG m 1 0 k = if ((k / 64 : Nat) : Int) = m.size - 1 then some 0 else none) := Lib.hid (by
        rw [M.midG_zero]
        show M.cutO 1 (M.remO m (M.unid k)) = _
        rw [M.remain_start]
        unfold M.wonB M.unid
        simp only [beq_iff_eq])
      have hq : (k : Int).tdiv 64 = ((k / 64 : Nat) : Int) := by rw [Int.tdiv_eq_ediv_of_nonneg (by omega)]; omega
      have hwq : IntKind.i64.wrap ((k / 64 : Nat) : Int) = ((k / 64 : Nat) : Int) := IntWalk.i64_in _ (by omega)
      have hws : IntKind.i64.wrap (m.size - 1) = m.size - 1 := IntWalk.i64_in _ (by omega)
      clear hu
      go_upto_region 6 with fail
      refine wp_named ?_
      intro W5 hW5
      have O5 : Hid (W5.ownsRow (w.heap.size + 1) 3 1 (.slice (some ⟨w.heap.size + 1, 0, none⟩) sz sz) sz (xs.set k (.int .i64 (-1)))) := Lib.hid (by rw [hW5]; exact HS.out.1)
      have B5 : Hid (Box3 W5 w.heap.size 29 (.int .i64 m.size) (.slice a m.doors.length c) (.slice b m.keys.length d)) := Lib.hid (by rw [hW5]; exact BX.out.turned (Turned.setCell _ _ _ _ (Nat.le_refl _) (Nat.lt_succ_self _)) (.inl (by omega)))
      have L5 : Hid (Below w.heap.size w W5) := Lib.hid (by rw [hW5]; exact LO.out.setCell (p := ⟨w.heap.size + 1, k, none⟩) (by show w.heap.size ≤ w.heap.size + 1; omega) _)
      have XL5 : Hid ((xs.set k (.int .i64 (-1))).length = sz) := Lib.hid (by rw [List.length_set]; exact HXL.out)
      have HT5 : Hid ((xs.set k (.int .i64 (-1))).take k = (M.encIs (M.tblN sz (M.midG m 1 0))).take k) := Lib.hid (by rw [List.take_set_of_le (Nat.le_refl _)]; exact HT.out)
      have HG5 : Hid ((xs.set k (.int .i64 (-1)))[k]? = some (.int .i64 (-1))) := Lib.hid (by rw [List.getElem?_set_self (by have := HXL.out; omega)])
      have hol5 := (O5.out.lt _ rfl).2
      obtain ⟨c0, c1, c2⟩ := B5.out.cells
      clear hW5 HS hdst hfr HT HO BX LO HXL
      generalize xs.set k (.int .i64 (-1)) = ys at *
      by_cases hw : ((k / 64 : Nat) : Int) = m.size - 1
      · have hdst : W5.cell? ⟨w.heap.size + 1, k, none⟩ = some (.int .i64 (-1)) := by rw [O5.out.cellAt k (by omega)]; exact HG5.out
        have hfr : W5.frozen? ⟨w.heap.size + 1, k, none⟩ = false := O5.out.frozenAt k
        have HS := Lib.hid (O5.out.stored k (.int .i64 0))
        have HV : Hid (M.optI (M.midG m 1 0 k) = 0) := Lib.hid (by rw [HST.out, if_pos hw]; rfl)
        rw [hw] at hq hwq
        go_wp2_with fail
        go_roundw
        case rel =>
          refine ⟨k + 1, ys.set k (.int .i64 0), by omega, by go_num, ?_, HS.out.1, B5.out.turned (Turned.setCell _ _ _ _ (Nat.le_refl _) (Nat.lt_succ_self _)) (.inl (by omega)), L5.out.setCell (p := ⟨w.heap.size + 1, k, none⟩) (by show w.heap.size ≤ w.heap.size + 1; omega) _⟩
          have h1 : k < ys.length := by have := XL5.out; omega
          rw [List.take_add_one, List.take_add_one, List.take_set_of_le (Nat.le_refl _), HT5.out, List.getElem?_set_self h1, HTA.out, HV.out]
        case measure => simp [intOf]; omega
      · have HV : Hid (M.optI (M.midG m 1 0 k) = -1) := Lib.hid (by rw [HST.out, if_neg hw]; rfl)
        go_wp2_with fail
        go_roundw
        case rel =>
          refine ⟨k + 1, ys, by omega, by go_num, ?_, O5.out, B5.out, L5.out⟩
          rw [List.take_add_one, List.take_add_one, HT5.out, HG5.out, HTA.out, HV.out]
        case measure => simp [intOf]; omega
    · obtain rfl : sz = k := by omega
      have hall : xs = M.encIs (M.tblN sz (M.midG m 1 0)) := by
        have := HT.out
        rw [List.take_of_length_le (by have := HXL.out; omega), List.take_of_length_le (by rw [M.encIs_len, M.tblN_len]; exact Nat.le_refl _)] at this
        exact this
      subst hall
      have HLN := Lib.hid (fun g => M.tblN_len sz g)
      clear HT HXL X2 HO1 HB2
      go_wp2_with fail
      go_loopw [5, 6, 7, 8, 9] (fun v5 _ _ _ _ wr => ∃ (n : Nat), n < sz ∧ v5 = .int .i64 ((n : Int) + 1) ∧ wr.ownsRow (w.heap.size + 1) 3 1 (.slice (some ⟨w.heap.size + 1, 0, none⟩) sz sz) sz (M.encIs (M.tblN sz (M.midG m (n + 1) 0))) ∧ Box3 wr w.heap.size 29 (.int .i64 m.size) (.slice a m.doors.length c) (.slice b m.keys.length d) ∧ Below w.heap.size w wr) (fun v5 _ _ _ _ _ => sz - (intOf v5).toNat)
      case atStart => exact ⟨0, by omega, rfl, HO.out, BX.out, LO.out⟩
      case round =>
        obtain ⟨n, hn, rfl, hou, hbx, hlow⟩ := hrel
        have OU := Lib.hid hou
        have BX := Lib.hid hbx
        have LO := Lib.hid hlow
        have hzr := hlow.size
        have hob : w.heap.size + 1 < wr.heap.size := (hou.lt _ rfl).2
        clear hou hbx hlow
        by_cases hnl : n + 1 < sz
        · have hnli : (n : Int) + 1 < (sz : Int) := by omega
          go_wp2_with fail
          go_loopw [6, 7, 8, 9] (fun v6 v7 _ _ wr => ∃ (i : Nat) (ch : Bool), i ≤ sz ∧ v7 = .int .i64 (i : Int) ∧ v6 = .bool ch ∧ (ch = false → ∀ j, j < i → M.remO m (M.unid j) ≠ some (n + 1)) ∧ wr.ownsRow (w.heap.size + 1) 3 1 (.slice (some ⟨w.heap.size + 1, 0, none⟩) sz sz) sz (M.encIs (M.tblN sz (M.midG m (n + 1) i))) ∧
            Box3 wr w.heap.size 29 (.int .i64 m.size) (.slice a m.doors.length c) (.slice b m.keys.length d) ∧ Below w.heap.size w wr) (fun _ v7 _ _ _ => sz - (intOf v7).toNat)
          case atStart => exact ⟨0, false, Nat.zero_le _, rfl, rfl, fun _ j hj => absurd hj (Nat.not_lt_zero _), OU.out, BX.out, LO.out⟩
          case round =>
            obtain ⟨i, ch, hi', rfl, rfl, hch, hou, hbx, hlow⟩ := hrel
            have CH := Lib.hid hch
            have OU := Lib.hid hou
            have BX := Lib.hid hbx
            have LO := Lib.hid hlow
            have hzr := hlow.size
            have hob : w.heap.size + 1 < wr.heap.size := (hou.lt _ rfl).2
            clear hch hou hbx hlow
            by_cases hil : i < sz
            · have hqi : ((i / 64 : Nat) : Int) < m.size := by have := HSI.out; omega
              have HUI : Hid (M.unid i = (((i / 64 : Nat) : Int), ((i % 64 : Nat) : Int))) := Lib.hid rfl
              have hq : (i : Int).tdiv 64 = ((i / 64 : Nat) : Int) := by rw [Int.tdiv_eq_ediv_of_nonneg (by omega)]; omega
              have hr : (i : Int).tmod 64 = ((i % 64 : Nat) : Int) := by rw [Int.tmod_eq_emod_of_nonneg (by omega)]; omega
              have hr64 : ((i % 64 : Nat) : Int) < 64 := by omega
              have hwq : IntKind.i64.wrap ((i / 64 : Nat) : Int) = ((i / 64 : Nat) : Int) := IntWalk.i64_in _ (by omega)
              have hwr : IntKind.i64.wrap ((i % 64 : Nat) : Int) = ((i % 64 : Nat) : Int) := IntWalk.i64_in _ (by omega)
              generalize i / 64 = q at *
              generalize i % 64 = r at *
              have hkk : q < m.keys.length := by omega
              obtain ⟨kb, koff, hkb, _, hkbl, hkc⟩ := (H.out.below LO.out hz).keys.at_ (k := q) (by rw [M.encIs_len]; omega)
              subst hkb
              have kx := hkc _ _ (M.encIs_at hkk)
              rw [← M.keyAt_eq hkk] at kx
              have hkd : q < d := by have := H.out.d1; omega
              have hkbw : kb < wr.heap.size := by omega
              have HSx := Lib.hid (M.stAt_ok HVA.out (x := (q : Int)) (set := (r : Int)) (by omega) (by omega) (by omega) (by omega))
              have CS : Hid (Calls Try.prog 109 #[.agg #[.int .i64 m.size, .slice a m.doors.length c, .slice (some ⟨kb, koff, none⟩) m.keys.length d], .int .i64 (q : Int), .int .i64 (bits .or .i64 (r : Int) (M.keyAt m (q : Int)))] wr.drew (IntsPost wr.drew (M.ids (M.nexts m (M.stAt m (q : Int) (r : Int)))))) := Lib.hid (l4Step_any wr.drew lo hi m a (some ⟨kb, koff, none⟩) c d (H.out.below (Below.drawnN LO.out 1) hz) (by show hi ≤ wr.heap.size; omega) HVA.out (M.stAt m (q : Int) (r : Int)) HSx.out)
              have HNO1 := Lib.hid (HNO.out i n hil)
              have HYES1 := Lib.hid (HYES.out i n hil)
              have HNX : Hid (M.nexts m (M.stAt m (M.unid i).1 (M.unid i).2) = M.nexts m (M.stAt m (q : Int) (r : Int))) := Lib.hid (by rw [HUI.out])
              rw [HNX.out] at HNO1 HYES1
              have HIN := Lib.hid (fun t (ht : t ∈ M.nexts m (M.stAt m (q : Int) (r : Int))) => M.nexts_ok HVA.out HSx.out ht)
              have HTL := Lib.hid (M.ids_len (M.nexts m (M.stAt m (q : Int) (r : Int))))
              have hTl := M.nextsTo_len m (M.stAt m (q : Int) (r : Int)) m.size.toNat
              have hTl' : (M.nexts m (M.stAt m (q : Int) (r : Int))).length ≤ 12 := by show (M.nextsTo m (M.stAt m (q : Int) (r : Int)) m.size.toNat).length ≤ 12; omega
              clear hTl hkc
              clear HNX
              generalize M.nexts m (M.stAt m (q : Int) (r : Int)) = T at *
              generalize M.keyAt m (q : Int) = ky at *
              go_wp2_with fail
              refine wp_region_late2 (fun (wq : World) => wq.cell? ⟨w.heap.size, 0, none⟩ = some (.int .i64 m.size) ∧ wq.cell? ⟨w.heap.size, 1, none⟩ = some (.slice a m.doors.length c) ∧ wq.cell? ⟨w.heap.size, 2, none⟩ = some (.slice (some ⟨kb, koff, none⟩) m.keys.length d) ∧ wq.cell? ⟨kb, koff + q, none⟩ = some (.int .i64 ky)) [] 14 #[false, false, false, false, false, false, false, false, false, false, false, false, false, false] rfl rfl (by kernel_rfl) ?_
              have hS : (fun (wq : World) => wq.cell? ⟨w.heap.size, 0, none⟩ = some (.int .i64 m.size) ∧ wq.cell? ⟨w.heap.size, 1, none⟩ = some (.slice a m.doors.length c) ∧ wq.cell? ⟨w.heap.size, 2, none⟩ = some (.slice (some ⟨kb, koff, none⟩) m.keys.length d) ∧ wq.cell? ⟨kb, koff + q, none⟩ = some (.int .i64 ky)) wr.drew := ⟨BX.out.cells.1, BX.out.cells.2.1, BX.out.cells.2.2, kx⟩
              refine wpAnyL_take (i := 0) (oi := { dst := some 44, op := Go.Op.load 29 (Go.Operand.tmp 1), type := 29, pos := "l4_ways.go:87", after := #[], guard := none }) (v := ?sv0) rfl (by kernel_rfl) (by kernel_rfl) (by kernel_rfl) (by kernel_rfl) (fun _ _ _ h => h) (Or.inl ⟨by rfl, ?sh0⟩) hS ?sr0
              case sh0 => (intro wS hSw; (try dsimp only at hSw); go_split_ands; go_simp; try with_reducible rfl)
              try simp only [Act.put, List.setIfInBounds_toArray, List.set_cons_zero, List.set_cons_succ]
              refine wpAnyL_take (i := 1) (oi := { dst := some 45, op := Go.Op.move (Go.Operand.tmp 7), type := 3, pos := "l4_ways.go:87", after := #[], guard := none }) (v := ?sv1) rfl (by kernel_rfl) (by kernel_rfl) (by kernel_rfl) (by kernel_rfl) (fun _ _ _ h => h) (Or.inl ⟨by rfl, ?sh1⟩) hS ?sr1
              case sh1 => (intro wS hSw; (try dsimp only at hSw); go_split_ands; go_simp; try with_reducible rfl)
              try simp only [Act.put, List.setIfInBounds_toArray, List.set_cons_zero, List.set_cons_succ]
              refine wpAnyL_take (i := 2) (oi := { dst := some 46, op := Go.Op.binOp Go.BinOp.quo 3 (Go.Operand.tmp 45) (Go.Operand.const (Go.Value.int Go.IntKind.i64 64)) 3, type := 3, pos := "l4_ways.go:87", after := #[{ on := 1, ground := Go.Ground.data }], guard := none }) (v := ?sv2) rfl (by kernel_rfl) (by kernel_rfl) (by kernel_rfl) (by kernel_rfl) (fun _ _ _ h => h) (Or.inl ⟨by rfl, ?sh2⟩) hS ?sr2
              case sh2 => (intro wS hSw; (try dsimp only at hSw); go_split_ands; go_simp; try with_reducible rfl)
              try simp only [Act.put, List.setIfInBounds_toArray, List.set_cons_zero, List.set_cons_succ]
              refine wpAnyL_take (i := 3) (oi := { dst := some 47, op := Go.Op.move (Go.Operand.tmp 7), type := 3, pos := "l4_ways.go:87", after := #[], guard := none }) (v := ?sv3) rfl (by kernel_rfl) (by kernel_rfl) (by kernel_rfl) (by kernel_rfl) (fun _ _ _ h => h) (Or.inl ⟨by rfl, ?sh3⟩) hS ?sr3
              case sh3 => (intro wS hSw; (try dsimp only at hSw); go_split_ands; go_simp; try with_reducible rfl)
              try simp only [Act.put, List.setIfInBounds_toArray, List.set_cons_zero, List.set_cons_succ]
              refine wpAnyL_take (i := 4) (oi := { dst := some 48, op := Go.Op.binOp Go.BinOp.rem 3 (Go.Operand.tmp 47) (Go.Operand.const (Go.Value.int Go.IntKind.i64 64)) 3, type := 3, pos := "l4_ways.go:87", after := #[{ on := 3, ground := Go.Ground.data }], guard := none }) (v := ?sv4) rfl (by kernel_rfl) (by kernel_rfl) (by kernel_rfl) (by kernel_rfl) (fun _ _ _ h => h) (Or.inl ⟨by rfl, ?sh4⟩) hS ?sr4
              case sh4 => (intro wS hSw; (try dsimp only at hSw); go_split_ands; go_simp; try with_reducible rfl)
              try simp only [Act.put, List.setIfInBounds_toArray, List.set_cons_zero, List.set_cons_succ]
              refine wpAnyL_take (i := 5) (oi := { dst := some 49, op := Go.Op.fieldAddr 29 (Go.Operand.tmp 1) 2, type := 0, pos := "l4_ways.go:87", after := #[], guard := none }) (v := ?sv5) rfl (by kernel_rfl) (by kernel_rfl) (by kernel_rfl) (by kernel_rfl) (fun _ _ _ h => h) (Or.inl ⟨by rfl, ?sh5⟩) hS ?sr5
              case sh5 => (intro wS hSw; (try dsimp only at hSw); go_split_ands; go_simp; try with_reducible rfl)
              try simp only [Act.put, List.setIfInBounds_toArray, List.set_cons_zero, List.set_cons_succ]
              refine wpAnyL_take (i := 6) (oi := { dst := some 50, op := Go.Op.load 23 (Go.Operand.tmp 49), type := 23, pos := "l4_ways.go:87", after := #[{ on := 5, ground := Go.Ground.data }], guard := none }) (v := ?sv6) rfl (by kernel_rfl) (by kernel_rfl) (by kernel_rfl) (by kernel_rfl) (fun _ _ _ h => h) (Or.inl ⟨by rfl, ?sh6⟩) hS ?sr6
              case sh6 => (intro wS hSw; (try dsimp only at hSw); go_split_ands; go_simp; try with_reducible rfl)
              try simp only [Act.put, List.setIfInBounds_toArray, List.set_cons_zero, List.set_cons_succ]
              refine wpAnyL_take (i := 7) (oi := { dst := some 51, op := Go.Op.move (Go.Operand.tmp 7), type := 3, pos := "l4_ways.go:87", after := #[], guard := none }) (v := ?sv7) rfl (by kernel_rfl) (by kernel_rfl) (by kernel_rfl) (by kernel_rfl) (fun _ _ _ h => h) (Or.inl ⟨by rfl, ?sh7⟩) hS ?sr7
              case sh7 => (intro wS hSw; (try dsimp only at hSw); go_split_ands; go_simp; try with_reducible rfl)
              try simp only [Act.put, List.setIfInBounds_toArray, List.set_cons_zero, List.set_cons_succ]
              refine wpAnyL_take (i := 8) (oi := { dst := some 52, op := Go.Op.binOp Go.BinOp.quo 3 (Go.Operand.tmp 51) (Go.Operand.const (Go.Value.int Go.IntKind.i64 64)) 3, type := 3, pos := "l4_ways.go:87", after := #[{ on := 7, ground := Go.Ground.data }], guard := none }) (v := ?sv8) rfl (by kernel_rfl) (by kernel_rfl) (by kernel_rfl) (by kernel_rfl) (fun _ _ _ h => h) (Or.inl ⟨by rfl, ?sh8⟩) hS ?sr8
              case sh8 => (intro wS hSw; (try dsimp only at hSw); go_split_ands; go_simp; try with_reducible rfl)
              try simp only [Act.put, List.setIfInBounds_toArray, List.set_cons_zero, List.set_cons_succ]
              refine wpAnyL_take (i := 9) (oi := { dst := some 53, op := Go.Op.indexAddr 23 (Go.Operand.tmp 50) (Go.Operand.tmp 52), type := 0, pos := "l4_ways.go:87", after := #[{ on := 6, ground := Go.Ground.data }, { on := 8, ground := Go.Ground.data }], guard := none }) (v := ?sv9) rfl (by kernel_rfl) (by kernel_rfl) (by kernel_rfl) (by kernel_rfl) (fun _ _ _ h => h) (Or.inl ⟨by rfl, ?sh9⟩) hS ?sr9
              case sh9 => (intro wS hSw; (try dsimp only at hSw); go_split_ands; go_simp; try with_reducible rfl)
              try simp only [Act.put, List.setIfInBounds_toArray, List.set_cons_zero, List.set_cons_succ]
              refine wpAnyL_take (i := 10) (oi := { dst := some 54, op := Go.Op.load 3 (Go.Operand.tmp 53), type := 3, pos := "l4_ways.go:87", after := #[{ on := 9, ground := Go.Ground.data }], guard := none }) (v := ?sv10) rfl (by kernel_rfl) (by kernel_rfl) (by kernel_rfl) (by kernel_rfl) (fun _ _ _ h => h) (Or.inl ⟨by rfl, ?sh10⟩) hS ?sr10
              case sh10 => (intro wS hSw; (try dsimp only at hSw); go_split_ands; go_simp; try with_reducible rfl)
              try simp only [Act.put, List.setIfInBounds_toArray, List.set_cons_zero, List.set_cons_succ]
              refine wpAnyL_take (i := 11) (oi := { dst := some 55, op := Go.Op.binOp Go.BinOp.or 3 (Go.Operand.tmp 48) (Go.Operand.tmp 54) 3, type := 3, pos := "l4_ways.go:87", after := #[{ on := 4, ground := Go.Ground.data }, { on := 10, ground := Go.Ground.data }], guard := none }) (v := ?sv11) rfl (by kernel_rfl) (by kernel_rfl) (by kernel_rfl) (by kernel_rfl) (fun _ _ _ h => h) (Or.inl ⟨by rfl, ?sh11⟩) hS ?sr11
              case sh11 => (intro wS hSw; (try dsimp only at hSw); go_split_ands; go_simp; try with_reducible rfl)
              try simp only [Act.put, List.setIfInBounds_toArray, List.set_cons_zero, List.set_cons_succ]
              refine wpAnyL_one (i := 12) (oi := { dst := some 56, op := Go.Op.call { callee := Go.Callee.value (Go.Operand.func 109), args := #[Go.Operand.tmp 44, Go.Operand.tmp 46, Go.Operand.tmp 55], argTypes := #[29, 3, 3] }, type := 23, pos := "l4_ways.go:87", after := #[{ on := 0, ground := Go.Ground.data }, { on := 2, ground := Go.Ground.data }, { on := 11, ground := Go.Ground.data }], guard := none }) (by kernel_rfl) rfl (fun Ks12 hKs12 => ?_)
              refine step_call (by rfl) 109 #[.agg #[.int .i64 m.size, .slice a m.doors.length c, .slice (some ⟨kb, koff, none⟩) m.keys.length d], .int .i64 (q : Int), .int .i64 (bits .or .i64 (r : Int) ky)] (by go_simp; try rfl) (CS.out) ?_
              rintro e w5 ⟨a5, c5, rfl, hr5, hq5, hq6, hb5⟩
              refine ⟨_, rfl, ?_⟩
              have hb5x : Below wr.heap.size wr w5 := (Below.refl wr.heap.size wr).drew.trans hb5
              have X5 := Lib.hid (BX.out.below hb5x)
              have LO5 := Lib.hid (LO.out.trans (hb5x.mono hzr))
              have hsz5 := hb5x.size
              have hSs : (fun (wq : World) => wq.cell? ⟨w.heap.size, 0, none⟩ = some (.int .i64 m.size) ∧ wq.cell? ⟨w.heap.size, 1, none⟩ = some (.slice a m.doors.length c) ∧ wq.cell? ⟨w.heap.size, 2, none⟩ = some (.slice (some ⟨kb, koff, none⟩) m.keys.length d) ∧ wq.cell? ⟨kb, koff + q, none⟩ = some (.int .i64 ky)) w5 := ⟨X5.out.cells.1, X5.out.cells.2.1, X5.out.cells.2.2, (hb5x.cell (p := ⟨kb, koff + q, none⟩) hkbw).trans kx⟩
              refine hKs12 _ _ (fun _ => hSs) ?_
              clear hS
              have hS := hSs
              try simp only [Act.put, List.setIfInBounds_toArray, List.set_cons_zero, List.set_cons_succ]
              refine wpAnyL_take (i := 13) (oi := { dst := some 8, op := Go.Op.assign (Go.Operand.tmp 56), type := 23, pos := "l4_ways.go:87", after := #[{ on := 12, ground := Go.Ground.data }, { on := 12, ground := Go.Ground.chain }, { on := 0, ground := Go.Ground.phase }, { on := 1, ground := Go.Ground.phase }, { on := 2, ground := Go.Ground.phase }, { on := 3, ground := Go.Ground.phase }, { on := 4, ground := Go.Ground.phase }, { on := 5, ground := Go.Ground.phase }, { on := 6, ground := Go.Ground.phase }, { on := 7, ground := Go.Ground.phase }, { on := 8, ground := Go.Ground.phase }, { on := 9, ground := Go.Ground.phase }, { on := 10, ground := Go.Ground.phase }, { on := 11, ground := Go.Ground.phase }, { on := 12, ground := Go.Ground.phase }], guard := none }) (v := ?sv13) rfl (by kernel_rfl) (by kernel_rfl) (by kernel_rfl) (by kernel_rfl) (fun _ _ _ h => h) (Or.inl ⟨by rfl, ?sh13⟩) hS ?sr13
              case sh13 => (intro wS hSw; (try dsimp only at hSw); go_split_ands; go_simp; try with_reducible rfl)
              try simp only [Act.put, List.setIfInBounds_toArray, List.set_cons_zero, List.set_cons_succ]
              refine wpAnyL_done (by kernel_rfl) ?_ _
              have R6 : Hid (RowIn wr.heap.size w5.heap.size w5 a5 (M.encIs (M.ids T))) := Lib.hid hr5.row
              have OU5 := Lib.hid (own_below OU.out hb5x)
              rw [HTL.out]
              have hob5 : w.heap.size + 1 < wr.heap.size := hob
              clear hr5 hb5 hb5x hq hr hSs hwq hwr kx hr64 CS BX OU
              generalize wr.heap.size = g9 at *
              go_wp2_with fail
              go_loopw [6, 9] (fun v6 v9 wr => ∃ (j : Nat) (fd : Bool), j ≤ T.length ∧ v9 = .int .i64 (j : Int) ∧ v6 = .bool (ch || fd) ∧ (fd = true → M.remO m (M.unid i) = some (n + 1)) ∧ (fd = false → ∀ u ∈ T.take j, M.remO m u ≠ some n) ∧
                wr.ownsRow (w.heap.size + 1) 3 1 (.slice (some ⟨w.heap.size + 1, 0, none⟩) sz sz) sz (M.encIs (M.tblN sz (M.midG m (n + 1) (if fd = true then i + 1 else i)))) ∧ Box3 wr w.heap.size 29 (.int .i64 m.size) (.slice a m.doors.length c) (.slice (some ⟨kb, koff, none⟩) m.keys.length d) ∧ RowIn g9 w5.heap.size wr a5 (M.encIs (M.ids T)) ∧ Below w.heap.size w wr ∧ w5.heap.size ≤ wr.heap.size) (fun _ v9 _ => T.length - (intOf v9).toNat)
              case atStart => exact ⟨0, false, Nat.zero_le _, rfl, by cases ch <;> rfl, fun h => (by cases h), fun _ u hu => (by simp at hu), OU5.out, X5.out, R6.out, LO5.out, Nat.le_refl _⟩
              case round =>
                obtain ⟨j, fd, hj, rfl, rfl, hfd, hnf, hoj, hbx, hrow, hlow, hszw⟩ := hrel
                have OJ := Lib.hid hoj
                have BJ := Lib.hid hbx
                have RJ := Lib.hid hrow
                have WJ := Lib.hid hlow
                have hoj2 : w.heap.size + 1 < wr.heap.size := (hoj.lt _ rfl).2
                have hzj := hlow.size
                clear hoj hbx hrow hlow
                cases fd with
                | true =>
                  have HF := Lib.hid (hfd rfl)
                  have z0 : wr.cell? ⟨w.heap.size + 1, i, none⟩ = some (.int .i64 ((n : Int) + 1)) := by
                    have := OJ.out.cellAt i (by omega)
                    rw [if_pos rfl, M.tblN_at hil, ← M.mid_yes HF.out] at this
                    simp only [if_true] at this
                    exact this
                  have OJ1 : Hid (wr.ownsRow (w.heap.size + 1) 3 1 (.slice (some ⟨w.heap.size + 1, 0, none⟩) sz sz) sz (M.encIs (M.tblN sz (M.midG m (n + 1) (i + 1))))) := Lib.hid OJ.out
                  rw [Bool.or_true]
                  have hn1 : ¬ (n : Int) + 1 < 0 := by omega
                  clear hfd hnf
                  by_cases hjl : j < T.length
                  · go_wp2_with fail
                    go_roundw
                    case rel => exact ⟨i + 1, true, by omega, by go_num, rfl, fun h => (by cases h), OJ1.out, BJ.out, WJ.out⟩
                    case measure => simp [intOf]; omega
                  · obtain rfl : j = T.length := by omega
                    go_wp2_with fail
                    go_roundw
                    case rel => exact ⟨i + 1, true, by omega, by go_num, rfl, fun h => (by cases h), OJ1.out, BJ.out, WJ.out⟩
                    case measure => simp [intOf]; omega
                | false =>
                  have NF := Lib.hid (hnf rfl)
                  have OJ1 : Hid (wr.ownsRow (w.heap.size + 1) 3 1 (.slice (some ⟨w.heap.size + 1, 0, none⟩) sz sz) sz (M.encIs (M.tblN sz (M.midG m (n + 1) i)))) := Lib.hid OJ.out
                  have z0 : wr.cell? ⟨w.heap.size + 1, i, none⟩ = some (.int .i64 (M.optI (M.cutO (n + 1) (M.remO m (M.unid i))))) := by rw [OJ1.out.cellAt i (by omega), M.tblN_at hil, M.midG_at]
                  rw [Bool.or_false]
                  clear hfd hnf OJ
                  by_cases hjl : j < T.length
                  · cases hcut : M.cutO (n + 1) (M.remO m (M.unid i)) with
                    | some v =>
                      have HX := Lib.hid (HNO1.out fun h => by rw [hcut] at h; cases h)
                      rw [hcut, M.optI_some] at z0
                      have hv0 : ¬ (v : Int) < 0 := by omega
                      go_wp2_with fail
                      go_roundw
                      case rel =>
                        have OX := OJ1.out
                        rw [HX.out.1] at OX
                        refine ⟨i + 1, ch, by omega, by go_num, rfl, fun hc j' hj' => ?_, OX, BJ.out, WJ.out⟩
                        rcases Nat.lt_or_ge j' i with h1 | h1
                        · exact CH.out hc j' h1
                        · obtain rfl : j' = i := by omega
                          exact HX.out.2
                      case measure => simp [intOf]; omega
                    | none =>
                      rw [hcut, M.optI_none] at z0
                      have HC := Lib.hid hcut
                      obtain ⟨rb, roff, hra, hrb1, hrb2, hrc⟩ := RJ.out.at_ (k := j) (by rw [M.encIs_len, M.ids_len]; exact hjl)
                      subst hra
                      have y0 := hrc _ _ (M.ids_at hjl)
                      have HSt := Lib.hid (HIN.out _ (List.getElem_mem hjl))
                      have HTT := Lib.hid (show T.take (j + 1) = T.take j ++ [T[j]] from List.take_succ_eq_append_getElem hjl)
                      have HYT := Lib.hid (fun (hrr : M.remO m T[j] = some n) => HYES1.out hcut T[j] (List.getElem_mem hjl) hrr)
                      have hrbl : rb < wr.heap.size := by omega
                      clear hrc hcut
                      generalize T[j] = t at *
                      have hti := HIDL.out t HSt.out
                      have z1 : wr.cell? ⟨w.heap.size + 1, M.idN t, none⟩ = some (.int .i64 (M.optI (M.midG m (n + 1) i (M.idN t)))) := by rw [OJ1.out.cellAt _ (by omega), M.tblN_at hti]
                      have hwn : IntKind.i64.wrap ((n : Int) + 1 - 1) = (n : Int) := by rw [show (n : Int) + 1 - 1 = (n : Int) by omega]; exact IntWalk.i64_in _ (by omega)
                      by_cases hrt : M.remO m t = some n
                      · have HF := Lib.hid (HYT.out hrt)
                        rw [(M.mid_next m n i HSt.out).2 hrt, M.optI_some] at z1
                        have hfr : wr.frozen? ⟨w.heap.size + 1, i, none⟩ = false := OJ1.out.frozenAt _
                        have HSET := Lib.hid (M.tblN_set (n := sz) (M.midG m (n + 1) i) i (n + 1))
                        have HMY := Lib.hid (M.mid_yes HF.out)
                        have OS := Lib.hid (OJ1.out.stored i (.int .i64 ((n : Int) + 1)))
                        generalize M.idN t = it at *
                        go_wp2_with fail
                        go_roundw
                        case rel =>
                          refine ⟨j + 1, true, by omega, by go_num, by rw [Bool.or_true], fun _ => HF.out, fun h => (by cases h), ?_, BJ.out.turned (Turned.setCell _ _ _ _ (Nat.le_refl _) (Nat.lt_succ_self _)) (.inl (by omega)), RJ.out.turned (Turned.setCell _ _ _ _ (Nat.le_refl _) (Nat.lt_succ_self _)) (by omega) (.inr (by omega)), WJ.out.setCell (p := ⟨w.heap.size + 1, i, none⟩) (by show w.heap.size ≤ w.heap.size + 1; omega) _, by simp; omega⟩
                          rw [if_pos rfl, ← HMY.out, ← HSET.out]
                          exact OS.out.1
                        case measure => simp [intOf]; omega
                      · have hne : ¬ M.optI (M.midG m (n + 1) i (M.idN t)) = (n : Int) := fun e => hrt ((M.mid_next m n i HSt.out).1 (M.optI_eq.1 e))
                        have NF2 : Hid (∀ u ∈ T.take (j + 1), M.remO m u ≠ some n) := Lib.hid (fun u hu => by
                          rw [HTT.out, List.mem_append, List.mem_singleton] at hu
                          rcases hu with hu | rfl
                          · exact NF.out u hu
                          · exact hrt)
                        generalize M.optI (M.midG m (n + 1) i (M.idN t)) = vt at *
                        generalize M.idN t = it at *
                        go_wp2_with fail
                        go_roundw
                        case rel => exact ⟨j + 1, false, by omega, by go_num, by rw [Bool.or_false], fun h => (by cases h), fun _ => NF2.out, OJ1.out, BJ.out, RJ.out, WJ.out, hszw⟩
                        case measure => simp [intOf]; omega
                  · obtain rfl : j = T.length := by omega
                    have HX := Lib.hid (HNO1.out fun _ u hu => NF.out u (by rw [List.take_length]; exact hu))
                    clear z0
                    go_wp2_with fail
                    go_roundw
                    case rel =>
                      have OX := OJ1.out
                      rw [HX.out.1] at OX
                      refine ⟨i + 1, ch, by omega, by go_num, rfl, fun hc j' hj' => ?_, OX, BJ.out, WJ.out⟩
                      rcases Nat.lt_or_ge j' i with h1 | h1
                      · exact CH.out hc j' h1
                      · obtain rfl : j' = i := by omega
                        exact HX.out.2
                    case measure => simp [intOf]; omega
            · obtain rfl : i = sz := by omega
              have OE := Lib.hid (show wr.ownsRow (w.heap.size + 1) 3 1 (.slice (some ⟨w.heap.size + 1, 0, none⟩) i i) i (M.encIs (M.tblN i (M.midG m (n + 1 + 1) 0))) by rw [← HEND.out]; exact OU.out)
              cases ch with
              | true =>
                go_wp2_with fail
                go_roundw
                case rel => exact ⟨n + 1, by omega, by go_num, OE.out, BX.out, LO.out⟩
                case measure => simp [intOf]; omega
              | false =>
                have HR := Lib.hid (HSAME.out (n + 1) (n + 1 + 1) (Nat.le_succ _) (CH.out rfl))
                go_wp2_with fail
                go_ret
                rw [← HR.out]
                exact ints_end (by rw [HLN.out]; exact own_weak OE.out (by omega)) LO.out
        · obtain rfl : sz = n + 1 := by omega
          go_wp2_with fail
          go_ret
          rw [← HALL.out]
          exact ints_end (by rw [HLN.out]; exact own_weak OU.out (by omega)) LO.out
end C
end Go.Proofs.Ytcoaggnilgfjfaa
namespace Go.Proofs.Ytcoaggnilgfjfaa
open Go.RowKit
namespace M
theorem ffO_no {m : Mz} {x set : Int} (h : mzNodeB m x = false) : ffO m x set = none := by
  unfold ffO
  unfold mzNodeB at h
  rw [if_neg]
  intro e
  rw [Bool.and_eq_true, Bool.and_eq_true] at e
  rw [e.1, e.2.1] at h
  cases h
theorem ffO_no2 {m : Mz} {x set : Int} (h : setB set = false) : ffO m x set = none := by
  unfold ffO
  rw [h, Bool.and_false, Bool.and_false]
  rfl
theorem ffO_yes {m : Mz} {x set : Int} (h : mzNodeB m x = true) (h2 : setB set = true) : mazeB m = true ∧ 0 ≤ x ∧ x < m.size ∧ 0 ≤ set ∧ set < 64 ∧ ffO m x set = remO m (x, set) := by
  unfold mzNodeB at h
  rw [Bool.and_eq_true] at h
  have h3 : 0 ≤ x ∧ x < m.size := by have := h.2; unfold nodeB at this; have := of_decide_eq_true this; omega
  have h4 : 0 ≤ set ∧ set < 64 := by unfold setB at h2; exact of_decide_eq_true h2
  refine ⟨h.1, h3.1, h3.2, h4.1, h4.2, ?_⟩
  unfold ffO remO
  rw [h.1, h.2, h2]
  rfl
end M
namespace C
set_option maxHeartbeats 3200000
set_option maxRecDepth 20000
def RemPost (w : World) (m : M.Mz) (e : Ending) (w' : World) : Prop :=
  ∃ a c, e = .returned (.slice a (M.size64 m) c) ∧ OwnAt w.heap.size w'.heap.size w' 3 a (M.encIs (M.tblL (M.size64 m) (M.remO m))) ∧ Below w.heap.size w w'
theorem remainT_any (w : World) (lo hi : Nat) (m : M.Mz) (a b : Option Addr) (c d : Nat) (h : MzIn lo hi w m a c b d) (hz : hi ≤ w.heap.size) (V : M.Valid m) :
    Calls Try.prog 107 #[.agg #[.int .i64 m.size, .slice a m.doors.length c, .slice b m.keys.length d]] w (RemPost w m) := by
  refine (l4Remain_any w lo hi m a b c d h hz V).mono ?_
  rintro e w1 ⟨ra, rc, rfl, ho, _, _, hb⟩
  have hl : (M.remainL m).length = M.size64 m := M.tblL_len _ _
  exact ⟨ra, rc, by rw [hl], ho, hb⟩
end C
end Go.Proofs.Ytcoaggnilgfjfaa
namespace Go.Proofs.Ytcoaggnilgfjfaa
open Go.RowKit
namespace M
theorem rem_at {m : Mz} {u : St} (h : Met m u) : optI (remO m (unid (idN u))) = optI (wayO m u (wonB m)) := by rw [unid_idN h.1, remO_met h.2]
theorem nx_ex {m : Mz} {s : St} {n : Nat} (h : wayO m s (wonB m) = some (n + 1)) : ∃ k, ∃ hk : k < (nexts m s).length, wayO m (nexts m s)[k] (wonB m) = some n := by
  obtain ⟨u, hu, hn⟩ := rem_down (way_is m) h
  obtain ⟨k, hk, rfl⟩ := List.mem_iff_getElem.1 hu
  exact ⟨k, hk, hn⟩
end M
namespace C
set_option maxHeartbeats 3200000
set_option maxRecDepth 20000
end C
end Go.Proofs.Ytcoaggnilgfjfaa
