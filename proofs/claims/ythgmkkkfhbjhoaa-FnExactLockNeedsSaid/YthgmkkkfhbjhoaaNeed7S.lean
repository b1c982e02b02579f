/-
  CONTRACT of the model's LockNeeds; what lay in memory stays. No condition but that the maze reads so.
-/
import Derived.Test.YthgmkkkfhbjhoaaLkS
import Derived.Test.YthgmkkkfhbjhoaaNeedM7
import Derived.Test.YthgmkkkfhbjhoaaVSpec
namespace Go.Proofs.Ythgmkkkfhbjhoaa
open Go.RowKit
namespace C
set_option maxHeartbeats 3200000
set_option maxRecDepth 20000
theorem made_zero7 : (madeCells (Value.int .i64 0).cells (6 * 1)).toList = M.encIs (M.vecL fun _ => 0) := by
  have hsz : (madeCells (Value.int .i64 0).cells (6 * 1)).size = 6 := by rw [size_madeCells]
  refine List.ext_getElem? fun k => ?_
  rcases Nat.lt_or_ge k 6 with h | h
  · rw [M.vecL_at _ h]
    unfold madeCells
    simp [h, Value.cells, Nat.mod_one]
  · rw [List.getElem?_eq_none (by rw [Array.length_toList, hsz]; exact h), List.getElem?_eq_none (by rw [M.encIs_len, M.vecL_len]; exact h)]
theorem specNeeds_lw (w : World) (lo hi : Nat) (m : M.Mz) (a b : Option Addr) (c d : Nat) (h : MzIn lo hi w m a c b d) (hz : hi ≤ w.heap.size) (_h1 : m.doors.length ≤ 1048576) (_h2 : m.keys.length ≤ 1048576) :
    Calls Try.prog 46 #[.agg #[.int .i64 m.size, .slice a m.doors.length c, .slice b m.keys.length d]] w (IntsOkPost w (M.needsV m) (M.goodB m)) := by
  obtain ⟨ii0, hi0, hz0, hzz1, hz2⟩ := info_parts infoI
  have H := Lib.hid h
  clear h
  go_enter Try.func46, Try.ntmps46
  go_upto_region 1 with fail
  refine wp_named ?_
  intro W hW
  have X1 := Lib.hid (show Box3 W w.heap.size 29 (.int .i64 m.size) (.slice a m.doors.length c) (.slice b m.keys.length d) by rw [hW]; exact Box3.new _ _ _ _ rfl)
  have HB := Lib.hid (show Below w.heap.size w W by rw [hW]; exact below_alloc _ _)
  clear hW
  have hzw := HB.out.size
  obtain ⟨c0, c1, c2⟩ := X1.out.cells
  go_wp2_with fail
  refine (l7Good_any W lo hi m a b c d (H.out.below HB.out hz) (by omega)).mono ?_
  rintro e w1 ⟨rfl, hb1⟩
  have X2 := Lib.hid (X1.out.below hb1)
  have B2 := Lib.hid (HB.out.trans (hb1.mono hzw))
  have hz1 := hb1.size
  clear hb1 c0 c1 c2
  cases q0 : M.goodB m with
  | false =>
    have HG := Lib.hid q0
    clear q0
    go_wp2_with fail
    go_ret2
    rw [HG.out, M.needsV_no HG.out]
    exact intsOk_end (l := []) (ownsRow_empty _ _ _ _ (by omega)) (B2.out.alloc (by omega) _)
  | true =>
    have HG := Lib.hid q0
    have HV := Lib.hid (M.valid_of (M.good_maze q0))
    have v30 := HV.out.few
    obtain ⟨wo, hwo⟩ : ∃ x, x = w1 := ⟨_, rfl⟩
    subst hwo
    have hz1' : w.heap.size ≤ wo.heap.size := by omega
    clear q0
    go_upto_region 4 with (at_make; refine wpList_make_full _ rfl _ _ 23 rfl wo.heap.size 3 ii0 (.int .i64 0) 1 Try.underlying23 hi0 hz0 hzz1 .i64 .i64 _ _ 6 rfl rfl rfl rfl (by rw [hz2]; decide) (by unfold maxLen; omega) (Nat.le_refl _) ?_; intro w2 hown1 hgrow1)
    have hb2 : Below wo.heap.size wo w2 := (Below.refl _ _).grown hgrow1 (Nat.le_refl _) (fun k e => by cases e)
    have O1 : Hid (w2.ownsRow wo.heap.size 3 1 (.slice (some ⟨wo.heap.size, 0, none⟩) 6 6) 6 (M.encIs (M.vecL fun _ => 0))) := Lib.hid (by rw [made_zero7] at hown1; exact hown1)
    have hgl := (hown1.lt _ rfl).2
    have X3 := Lib.hid (X2.out.below hb2)
    have B3 := Lib.hid (B2.out.trans (hb2.mono hz1'))
    have hz3 := hb2.size
    have hxl := X2.out.lt
    obtain ⟨g, hg⟩ : ∃ g, g = wo.heap.size := ⟨_, rfl⟩
    rw [← hg] at O1 hgl hxl ⊢
    have hgw : w.heap.size ≤ g := by omega
    have HGE := Lib.hid hg
    clear hown1 hgrow1 hb2 hg hz1'
    go_wp2_with fail
    go_loopw [5, 6] (fun v5 _ wr => ∃ (k : Nat), k ≤ m.doors.length ∧ v5 = .int .i64 (k : Int) ∧ wr.ownsRow g 3 1 (.slice (some ⟨g, 0, none⟩) 6 6) 6 (M.encIs (M.vecL (M.needC m k))) ∧ Turned g (g + 1) w2 wr) (fun v5 _ _ => m.doors.length - (intOf v5).toNat)
    case atStart => exact ⟨0, Nat.zero_le _, rfl, by rw [M.need0, HGE.out]; rw [HGE.out] at O1; exact O1.out, Turned.refl _ _ _⟩
    case round =>
      obtain ⟨k, hk, rfl, ho, ht⟩ := hrel
      have O2 := Lib.hid ho
      have T2 := Lib.hid ht
      have hz2' := ht.size
      clear ho ht
      obtain ⟨c0, c1, c2⟩ := (X3.out.turned T2.out (.inl (by omega))).cells
      by_cases hkl : k < m.doors.length
      · obtain ⟨wo2, hwo2⟩ : ∃ x, x = wr := ⟨_, rfl⟩
        subst hwo2
        go_wp2_with fail
        go_loopw [6] (fun v6 wr => ∃ (p : Nat), p ≤ 6 ∧ v6 = .int .i64 (p : Int) ∧ wr.ownsRow g 3 1 (.slice (some ⟨g, 0, none⟩) 6 6) 6 (M.encIs (M.vecL (M.atN m k p))) ∧ Turned g (g + 1) wo2 wr) (fun v6 _ => 6 - (intOf v6).toNat)
        case atStart => exact ⟨0, Nat.zero_le _, rfl, by rw [M.atN_zero]; exact O2.out, Turned.refl _ _ _⟩
        case round =>
          obtain ⟨p, hp, rfl, ho, ht⟩ := hrel
          have O3 := Lib.hid ho
          have T3 := Lib.hid (T2.out.trans ht)
          have T4 := Lib.hid ht
          have hz3' := ht.size
          clear ho ht c0 c1 c2
          by_cases hp6 : p < 6
          · obtain ⟨db, doff, rfl, _, hdb2, hdc⟩ := ((H.out.doors.below B3.out hz).turned T3.out (by have := B3.out.size; omega) (.inl (by omega))).at_ (k := k * 3) (by rw [M.encDs_len]; omega)
            have p1 : wr.cell? ⟨db, doff + k * 3 + 2, none⟩ = some (.int .i64 m.doors[k].2.2) := hdc _ _ (M.encDs_at2 hkl)
            obtain ⟨_, _, _, _, _, d6, d7⟩ := HV.out.door k hkl
            obtain ⟨n, hn⟩ : ∃ n : Nat, m.doors[k].2.2 = (n : Int) := ⟨m.doors[k].2.2.toNat, by omega⟩
            have HNE := Lib.hid (show M.need m k = (n : Int) by rw [M.need_at hkl, hn])
            rw [hn] at p1 d6 d7
            have hn64 : n < 64 := by omega
            have hbb := M.bt_bits (c := p) hn64
            have hb01 := M.bt_01 (n : Int) p
            have hub := M.needC_bnd m k p
            have HST := Lib.hid (M.atN_set m k hp6)
            rw [HNE.out] at HST
            have q1 := O3.out.cellAt p (by omega)
            rw [M.atN_at m k hp6] at q1
            have q2 := O3.out.frozenAt p
            have HSO := Lib.hid (fun v => (World.ownsRow.stored (w := wr.drew) (show wr.drew.ownsRow g 3 1 (.slice (some ⟨g, 0, none⟩) 6 6) 6 _ from O3.out) p v).1)
            obtain ⟨c0, c1, c2⟩ := (X3.out.turned T3.out (.inl (by omega))).cells
            generalize M.needC m k p = u at *
            generalize M.bt (n : Int) p = v at *
            clear hdc hn
            go_upto_region 10 with fail
            refine wp_region_late2 (fun (wq : World) => wq.cell? ⟨w.heap.size, 1, none⟩ = some (.slice (some ⟨db, doff, none⟩) m.doors.length c) ∧ wq.cell? ⟨db, doff + k * 3 + 2, none⟩ = some (.int .i64 (n : Int)) ∧ wq.cell? ⟨g, p, none⟩ = some (.int .i64 u)) [17] 18 #[false, false, false, false, false, false, false, false, false, false, false, false, false, false, false, false, false, false] rfl rfl (by kernel_rfl) ?_
            have hS : (fun (wq : World) => wq.cell? ⟨w.heap.size, 1, none⟩ = some (.slice (some ⟨db, doff, none⟩) m.doors.length c) ∧ wq.cell? ⟨db, doff + k * 3 + 2, none⟩ = some (.int .i64 (n : Int)) ∧ wq.cell? ⟨g, p, none⟩ = some (.int .i64 u)) wr.drew := ⟨c1, p1, q1⟩
            refine wpAnyL_take (i := 0) (oi := { dst := some 23, op := Go.Op.move (Go.Operand.tmp 4), type := 23, pos := "l7_spent.go:239", after := #[], guard := none }) (v := ?rv0) rfl (by kernel_rfl) (by kernel_rfl) (by kernel_rfl) (by kernel_rfl) (fun _ _ _ h => h) (Or.inl ⟨by rfl, ?rh0⟩) hS ?rr0
            case rh0 => (intro wS hSw; (try dsimp only at hSw); go_split_ands; go_simp; try with_reducible rfl)
            try simp only [Act.put, List.setIfInBounds_toArray, List.set_cons_zero, List.set_cons_succ]
            refine wpAnyL_take (i := 1) (oi := { dst := some 24, op := Go.Op.move (Go.Operand.tmp 6), type := 3, pos := "l7_spent.go:239", after := #[], guard := none }) (v := ?rv1) rfl (by kernel_rfl) (by kernel_rfl) (by kernel_rfl) (by kernel_rfl) (fun _ _ _ h => h) (Or.inl ⟨by rfl, ?rh1⟩) hS ?rr1
            case rh1 => (intro wS hSw; (try dsimp only at hSw); go_split_ands; go_simp; try with_reducible rfl)
            try simp only [Act.put, List.setIfInBounds_toArray, List.set_cons_zero, List.set_cons_succ]
            refine wpAnyL_take (i := 2) (oi := { dst := some 25, op := Go.Op.move (Go.Operand.tmp 4), type := 23, pos := "l7_spent.go:239", after := #[], guard := none }) (v := ?rv2) rfl (by kernel_rfl) (by kernel_rfl) (by kernel_rfl) (by kernel_rfl) (fun _ _ _ h => h) (Or.inl ⟨by rfl, ?rh2⟩) hS ?rr2
            case rh2 => (intro wS hSw; (try dsimp only at hSw); go_split_ands; go_simp; try with_reducible rfl)
            try simp only [Act.put, List.setIfInBounds_toArray, List.set_cons_zero, List.set_cons_succ]
            refine wpAnyL_take (i := 3) (oi := { dst := some 26, op := Go.Op.move (Go.Operand.tmp 6), type := 3, pos := "l7_spent.go:239", after := #[], guard := none }) (v := ?rv3) rfl (by kernel_rfl) (by kernel_rfl) (by kernel_rfl) (by kernel_rfl) (fun _ _ _ h => h) (Or.inl ⟨by rfl, ?rh3⟩) hS ?rr3
            case rh3 => (intro wS hSw; (try dsimp only at hSw); go_split_ands; go_simp; try with_reducible rfl)
            try simp only [Act.put, List.setIfInBounds_toArray, List.set_cons_zero, List.set_cons_succ]
            refine wpAnyL_take (i := 4) (oi := { dst := some 27, op := Go.Op.indexAddr 23 (Go.Operand.tmp 25) (Go.Operand.tmp 26), type := 0, pos := "l7_spent.go:239", after := #[{ on := 2, ground := Go.Ground.data }, { on := 3, ground := Go.Ground.data }], guard := none }) (v := ?rv4) rfl (by kernel_rfl) (by kernel_rfl) (by kernel_rfl) (by kernel_rfl) (fun _ _ _ h => h) (Or.inl ⟨by rfl, ?rh4⟩) hS ?rr4
            case rh4 => (intro wS hSw; (try dsimp only at hSw); go_split_ands; go_simp; try with_reducible rfl)
            try simp only [Act.put, List.setIfInBounds_toArray, List.set_cons_zero, List.set_cons_succ]
            refine wpAnyL_take (i := 5) (oi := { dst := some 28, op := Go.Op.load 3 (Go.Operand.tmp 27), type := 3, pos := "l7_spent.go:239", after := #[{ on := 4, ground := Go.Ground.data }], guard := none }) (v := ?rv5) rfl (by kernel_rfl) (by kernel_rfl) (by kernel_rfl) (by kernel_rfl) (fun _ _ _ h => h) (Or.inl ⟨by rfl, ?rh5⟩) hS ?rr5
            case rh5 => (intro wS hSw; (try dsimp only at hSw); go_split_ands; go_simp; try with_reducible rfl)
            try simp only [Act.put, List.setIfInBounds_toArray, List.set_cons_zero, List.set_cons_succ]
            refine wpAnyL_take (i := 6) (oi := { dst := some 29, op := Go.Op.fieldAddr 29 (Go.Operand.tmp 1) 1, type := 0, pos := "l7_spent.go:239", after := #[], guard := none }) (v := ?rv6) rfl (by kernel_rfl) (by kernel_rfl) (by kernel_rfl) (by kernel_rfl) (fun _ _ _ h => h) (Or.inl ⟨by rfl, ?rh6⟩) hS ?rr6
            case rh6 => (intro wS hSw; (try dsimp only at hSw); go_split_ands; go_simp; try with_reducible rfl)
            try simp only [Act.put, List.setIfInBounds_toArray, List.set_cons_zero, List.set_cons_succ]
            refine wpAnyL_take (i := 7) (oi := { dst := some 30, op := Go.Op.load 22 (Go.Operand.tmp 29), type := 22, pos := "l7_spent.go:239", after := #[{ on := 6, ground := Go.Ground.data }], guard := none }) (v := ?rv7) rfl (by kernel_rfl) (by kernel_rfl) (by kernel_rfl) (by kernel_rfl) (fun _ _ _ h => h) (Or.inl ⟨by rfl, ?rh7⟩) hS ?rr7
            case rh7 => (intro wS hSw; (try dsimp only at hSw); go_split_ands; go_simp; try with_reducible rfl)
            try simp only [Act.put, List.setIfInBounds_toArray, List.set_cons_zero, List.set_cons_succ]
            refine wpAnyL_take (i := 8) (oi := { dst := some 31, op := Go.Op.move (Go.Operand.tmp 5), type := 3, pos := "l7_spent.go:239", after := #[], guard := none }) (v := ?rv8) rfl (by kernel_rfl) (by kernel_rfl) (by kernel_rfl) (by kernel_rfl) (fun _ _ _ h => h) (Or.inl ⟨by rfl, ?rh8⟩) hS ?rr8
            case rh8 => (intro wS hSw; (try dsimp only at hSw); go_split_ands; go_simp; try with_reducible rfl)
            try simp only [Act.put, List.setIfInBounds_toArray, List.set_cons_zero, List.set_cons_succ]
            refine wpAnyL_take (i := 9) (oi := { dst := some 32, op := Go.Op.indexAddr 22 (Go.Operand.tmp 30) (Go.Operand.tmp 31), type := 0, pos := "l7_spent.go:239", after := #[{ on := 7, ground := Go.Ground.data }, { on := 8, ground := Go.Ground.data }], guard := none }) (v := ?rv9) rfl (by kernel_rfl) (by kernel_rfl) (by kernel_rfl) (by kernel_rfl) (fun _ _ _ h => h) (Or.inl ⟨by rfl, ?rh9⟩) hS ?rr9
            case rh9 => (intro wS hSw; (try dsimp only at hSw); go_split_ands; go_simp; try with_reducible rfl)
            try simp only [Act.put, List.setIfInBounds_toArray, List.set_cons_zero, List.set_cons_succ]
            refine wpAnyL_take (i := 10) (oi := { dst := some 33, op := Go.Op.indexAddr 48 (Go.Operand.tmp 32) (Go.Operand.const (Go.Value.int Go.IntKind.i64 2)), type := 0, pos := "l7_spent.go:239", after := #[{ on := 9, ground := Go.Ground.data }], guard := none }) (v := ?rv10) rfl (by kernel_rfl) (by kernel_rfl) (by kernel_rfl) (by kernel_rfl) (fun _ _ _ h => h) (Or.inl ⟨by rfl, ?rh10⟩) hS ?rr10
            case rh10 => (intro wS hSw; (try dsimp only at hSw); go_split_ands; go_simp; try with_reducible rfl)
            try simp only [Act.put, List.setIfInBounds_toArray, List.set_cons_zero, List.set_cons_succ]
            refine wpAnyL_take (i := 11) (oi := { dst := some 34, op := Go.Op.load 3 (Go.Operand.tmp 33), type := 3, pos := "l7_spent.go:239", after := #[{ on := 10, ground := Go.Ground.data }], guard := none }) (v := ?rv11) rfl (by kernel_rfl) (by kernel_rfl) (by kernel_rfl) (by kernel_rfl) (fun _ _ _ h => h) (Or.inl ⟨by rfl, ?rh11⟩) hS ?rr11
            case rh11 => (intro wS hSw; (try dsimp only at hSw); go_split_ands; go_simp; try with_reducible rfl)
            try simp only [Act.put, List.setIfInBounds_toArray, List.set_cons_zero, List.set_cons_succ]
            refine wpAnyL_take (i := 12) (oi := { dst := some 35, op := Go.Op.move (Go.Operand.tmp 6), type := 3, pos := "l7_spent.go:239", after := #[], guard := none }) (v := ?rv12) rfl (by kernel_rfl) (by kernel_rfl) (by kernel_rfl) (by kernel_rfl) (fun _ _ _ h => h) (Or.inl ⟨by rfl, ?rh12⟩) hS ?rr12
            case rh12 => (intro wS hSw; (try dsimp only at hSw); go_split_ands; go_simp; try with_reducible rfl)
            try simp only [Act.put, List.setIfInBounds_toArray, List.set_cons_zero, List.set_cons_succ]
            refine wpAnyL_take (i := 13) (oi := { dst := some 36, op := Go.Op.binOp Go.BinOp.shr 3 (Go.Operand.tmp 34) (Go.Operand.tmp 35) 3, type := 3, pos := "l7_spent.go:239", after := #[{ on := 11, ground := Go.Ground.data }, { on := 12, ground := Go.Ground.data }], guard := none }) (v := ?rv13) rfl (by kernel_rfl) (by kernel_rfl) (by kernel_rfl) (by kernel_rfl) (fun _ _ _ h => h) (Or.inl ⟨by rfl, ?rh13⟩) hS ?rr13
            case rh13 => (intro wS hSw; (try dsimp only at hSw); go_split_ands; go_simp; try with_reducible rfl)
            try simp only [Act.put, List.setIfInBounds_toArray, List.set_cons_zero, List.set_cons_succ]
            refine wpAnyL_take (i := 14) (oi := { dst := some 37, op := Go.Op.binOp Go.BinOp.and 3 (Go.Operand.tmp 36) (Go.Operand.const (Go.Value.int Go.IntKind.i64 1)) 3, type := 3, pos := "l7_spent.go:239", after := #[{ on := 13, ground := Go.Ground.data }], guard := none }) (v := ?rv14) rfl (by kernel_rfl) (by kernel_rfl) (by kernel_rfl) (by kernel_rfl) (fun _ _ _ h => h) (Or.inl ⟨by rfl, ?rh14⟩) hS ?rr14
            case rh14 => (intro wS hSw; (try dsimp only at hSw); go_split_ands; go_simp; try with_reducible rfl)
            try simp only [Act.put, List.setIfInBounds_toArray, List.set_cons_zero, List.set_cons_succ]
            refine wpAnyL_take (i := 15) (oi := { dst := some 38, op := Go.Op.binOp Go.BinOp.add 3 (Go.Operand.tmp 28) (Go.Operand.tmp 37) 3, type := 3, pos := "l7_spent.go:239", after := #[{ on := 5, ground := Go.Ground.data }, { on := 14, ground := Go.Ground.data }], guard := none }) (v := ?rv15) rfl (by kernel_rfl) (by kernel_rfl) (by kernel_rfl) (by kernel_rfl) (fun _ _ _ h => h) (Or.inl ⟨by rfl, ?rh15⟩) hS ?rr15
            case rh15 => (intro wS hSw; (try dsimp only at hSw); go_split_ands; go_simp; try with_reducible rfl)
            try simp only [Act.put, List.setIfInBounds_toArray, List.set_cons_zero, List.set_cons_succ]
            refine wpAnyL_take (i := 16) (oi := { dst := some 39, op := Go.Op.indexAddr 23 (Go.Operand.tmp 23) (Go.Operand.tmp 24), type := 0, pos := "l7_spent.go:239", after := #[{ on := 0, ground := Go.Ground.data }, { on := 1, ground := Go.Ground.data }, { on := 0, ground := Go.Ground.phase }, { on := 1, ground := Go.Ground.phase }, { on := 2, ground := Go.Ground.phase }, { on := 3, ground := Go.Ground.phase }, { on := 4, ground := Go.Ground.phase }, { on := 5, ground := Go.Ground.phase }, { on := 6, ground := Go.Ground.phase }, { on := 7, ground := Go.Ground.phase }, { on := 8, ground := Go.Ground.phase }, { on := 9, ground := Go.Ground.phase }, { on := 10, ground := Go.Ground.phase }, { on := 11, ground := Go.Ground.phase }, { on := 12, ground := Go.Ground.phase }, { on := 13, ground := Go.Ground.phase }, { on := 14, ground := Go.Ground.phase }, { on := 15, ground := Go.Ground.phase }], guard := none }) (v := ?rv16) rfl (by kernel_rfl) (by kernel_rfl) (by kernel_rfl) (by kernel_rfl) (fun _ _ _ h => h) (Or.inl ⟨by rfl, ?rh16⟩) hS ?rr16
            case rh16 => (intro wS hSw; (try dsimp only at hSw); go_split_ands; go_simp; try with_reducible rfl)
            try simp only [Act.put, List.setIfInBounds_toArray, List.set_cons_zero, List.set_cons_succ]
            refine wpAnyL_one (i := 17) (oi := { dst := none, op := Go.Op.store 3 (Go.Operand.tmp 39) (Go.Operand.tmp 38), type := 0, pos := "l7_spent.go:239", after := #[{ on := 16, ground := Go.Ground.data }, { on := 15, ground := Go.Ground.data }, { on := 0, ground := Go.Ground.phase }, { on := 1, ground := Go.Ground.phase }, { on := 2, ground := Go.Ground.phase }, { on := 3, ground := Go.Ground.phase }, { on := 4, ground := Go.Ground.phase }, { on := 5, ground := Go.Ground.phase }, { on := 6, ground := Go.Ground.phase }, { on := 7, ground := Go.Ground.phase }, { on := 8, ground := Go.Ground.phase }, { on := 9, ground := Go.Ground.phase }, { on := 10, ground := Go.Ground.phase }, { on := 11, ground := Go.Ground.phase }, { on := 12, ground := Go.Ground.phase }, { on := 13, ground := Go.Ground.phase }, { on := 14, ground := Go.Ground.phase }, { on := 15, ground := Go.Ground.phase }], guard := none }) (by kernel_rfl) rfl (fun Kr17 hKr17 => ?_)
            go_simp
            refine hKr17 _ _ (fun h => absurd h (by decide)) ?_
            refine wpAnyL_done (by kernel_rfl) ?_ _
            go_wp2_with fail
            go_roundw
            case rel =>
              refine ⟨p + 1, by omega, by go_num, ?_, T4.out.trans ((Turned.drewN wr 1 _ _).trans (Turned.setCell _ _ _ _ (Nat.le_refl _) (Nat.lt_succ_self _)))⟩
              rw [← HST.out]
              exact HSO.out _
            case measure => simp [intOf]; omega
          · have hp6' : p = 6 := by omega
            have ho := O3.out
            rw [hp6', M.atN_six] at ho
            have O4 := Lib.hid ho
            clear ho hp6'
            go_wp2_with fail
            go_roundw
            case rel => exact ⟨k + 1, by omega, by go_num, O4.out, T3.out⟩
            case measure => simp [intOf]; omega
      · obtain rfl : k = m.doors.length := by omega
        have BE := Lib.hid (Below.thenTurned B3.out T2.out (by omega) (by have := B3.out.size; omega))
        go_wp2_with fail
        go_ret2
        rw [HG.out, M.needsV_yes HG.out]
        exact intsOk_end (l := M.vecL (M.needC m m.doors.length)) (own_weak8 O2.out (by omega)) BE.out
end C
end Go.Proofs.Ythgmkkkfhbjhoaa
