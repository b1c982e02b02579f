/-
  CONTRACT of spec.CanEver; what lay in memory stays. Condition: the worlds read so, at most 1048576 mazes, doors, keys and owners in all.
-/
import Derived.Test.YtbcobheiofajeaaWrdJ
import Derived.Test.YtbcobheiofajeaaWlB
import Derived.Test.YtbcobheiofajeaaWFReachS
namespace Go.Proofs.Ytbcobheiofajeaa
open Go.RowKit
namespace M
theorem can_in2 {m : Wl} {ii : Nat} (hw : worldsB m = true) (hi : inB (ii : Int) 0 ((m.mazes.length : Int) - 1) = true) : canEver m ii = memB (reachOf (wm m ii) 0 (ownAll m ii m.mazes.length)) ((wm m ii).size - 1) := by
  have h1 : worldIn m ii = true := by rw [worldIn_yes hw]; exact hi
  unfold canEver
  rw [h1, Bool.true_and, Int.toNat_natCast]
theorem can_out2 {m : Wl} {i : Int} (h : worldIn m i = false) : canEver m i = false := by unfold canEver; rw [h]; rfl
theorem worldIn_both {m : Wl} {i : Int} (h : worldIn m i = true) : worldsB m = true ∧ inB i 0 ((m.mazes.length : Int) - 1) = true := by unfold worldIn at h; rwa [Bool.and_eq_true] at h
theorem ownTo_yes {w : Wl} {i : Int} {k : Nat} {h : Int} {x : Nat} (he : (wo w k).getD x 0 = i) : ownTo w i k h (x + 1) = bits .or .i64 (ownTo w i k h x) ((wm w k).keys.getD x 0) := if_pos he
theorem ownTo_no {w : Wl} {i : Int} {k : Nat} {h : Int} {x : Nat} (he : (wo w k).getD x 0 ≠ i) : ownTo w i k h (x + 1) = ownTo w i k h x := if_neg he
theorem own_rng {w : Wl} (W : WlOK w) (i : Int) : 0 ≤ ownAll w i w.mazes.length ∧ ownAll w i w.mazes.length < 64 := by
  rw [own_all W _ _ (Nat.le_refl _)]
  exact orF_ok _ _ ⟨by decide, by decide⟩ (keysL_set W _ _ _ (Nat.le_refl _))
end M
namespace C
set_option linter.unusedVariables false
set_option maxHeartbeats 3200000
set_option maxRecDepth 20000
theorem specCan_lw (w : World) (lo hi : Nat) (m : M.Wl) (a b : Option Addr) (c d : Nat) (h : WlIn lo hi w m a c b d) (hz : hi ≤ w.heap.size) (h1 : M.szW m ≤ 1048576) (i : Int) (_i1 : -9223372036854775808 ≤ i) (_i2 : i ≤ 9223372036854775807) :
    Calls Try.prog 39 #[.agg #[.slice a m.mazes.length c, .slice b m.owners.length d], .int .i64 i] w fun e w' => e = .returned (.tuple #[.bool (M.canEver m i), .bool (M.worldIn m i)]) ∧ Below w.heap.size w w' := by
  have HH := Lib.hid h
  have hm9 := Nat.le_trans h.c1 h.c2
  have CW := Lib.hid (fun W (hB : Below w.heap.size w W) => specWorld_any W lo hi m a b c d (HH.out.below hB hz) (Nat.le_trans hz hB.size) h1 i)
  have CO := Lib.hid (M.can_out2 (m := m) (i := i))
  have CB := Lib.hid (M.worldIn_both (m := m) (i := i))
  have CI := Lib.hid (fun (ii : Nat) => M.can_in2 (m := m) (ii := ii))
  have OR := Lib.hid (fun W : M.WlOK m => M.own_rng W i)
  have WOK := Lib.hid (fun hq : M.worldsB m = true => M.worlds_ok.1 hq)
  have HWW := Lib.hid (fun OK : M.WlOK m => OK.world)
  have HN3 := Lib.hid (fun OK : M.WlOK m => OK.n3)
  have HSM := Lib.hid (fun OK : M.WlOK m => OK.same)
  have HTY := Lib.hid (fun k h x => M.ownTo_yes (w := m) (i := i) (k := k) (h := h) (x := x))
  have HTN := Lib.hid (fun k h x => M.ownTo_no (w := m) (i := i) (k := k) (h := h) (x := x))
  obtain ⟨⟨L, O, r⟩, q1, q2, q3, q4⟩ := h
  have R := Lib.hid r
  have HL1 := Lib.hid r.lenM
  have HL2 := Lib.hid r.lenO
  clear r
  generalize hnm : m.mazes.length = n at *
  generalize hno : m.owners.length = no at *
  clear hnm hno
  go_enter Try.func39, Try.ntmps39
  go_wp2_with fail
  refine named ?_
  intro W hW
  have hb : Below w.heap.size w W := by rw [hW]; exact below_alloc _ _
  have x1 : Box2 W w.heap.size 30 (.slice a n c) (.slice b no d) := by rw [hW]; exact Box2.new _ _ _ rfl
  clear hW
  refine (CW.out W hb).mono ?_
  rintro e w1 ⟨rfl, hb1⟩
  have HB1 := Lib.hid (C.Below.more hb hb1)
  have X1 := Lib.hid (x1.below hb1)
  have hz1 := HB1.out.size
  have hxl := X1.out.lt
  obtain ⟨c0, c1⟩ := X1.out.cells
  clear x1 hb hb1
  cases qw : M.worldIn m i with
  | false =>
    have CO2 := Lib.hid (CO.out qw)
    have QW := Lib.hid qw
    clear qw
    go_wp2_with fail
    go_ret2
    rw [CO2.out, QW.out]
    exact ⟨rfl, HB1.out⟩
  | true =>
    have QB := Lib.hid (CB.out qw)
    have OK := Lib.hid (WOK.out QB.out.1)
    have hn3 := HN3.out OK.out
    have hsame := HSM.out OK.out
    have hir : 0 ≤ i ∧ i ≤ (n : Int) - 1 := by have := QB.out.2; unfold M.inB at this; exact of_decide_eq_true this
    obtain ⟨ii, rfl⟩ : ∃ ii : Nat, i = (ii : Int) := ⟨i.toNat, by omega⟩
    have hin : ii < n := by omega
    have CI2 := Lib.hid (CI.out ii QB.out.1 QB.out.2)
    have ORR := Lib.hid (OR.out OK.out)
    have QW := Lib.hid qw
    clear qw hir
    subst hsame
    go_wp2_with fail
    go_loop [6, 7, 8] (fun v6 v7 _ => ∃ (k : Nat), k ≤ no ∧ v7 = .int .i64 (k : Int) ∧ v6 = .int .i64 (M.ownAll m (ii : Int) k)) (fun _ v7 _ => no - (intOf v7).toNat)
    case atStart => exact ⟨0, Nat.zero_le _, rfl, rfl⟩
    case round =>
      obtain ⟨k, hk, rfl, rfl⟩ := hrel
      by_cases hkn : k < no
      · have hkl : k < L.length := by rw [HL1.out]; exact hkn
        have hkl' : k < O.length := by rw [HL2.out]; exact hkn
        obtain ⟨mb, mo, ea, _, hmb, hc0⟩ := (R.out.mazes.turned (Turned.of_below HB1.out 0 0) hz (.inr (Nat.zero_le _))).at_ (k := k * 3) (by rw [encMs_len]; omega)
        obtain ⟨ob, oo, eb, _, hob, hd0⟩ := (R.out.owners.turned (Turned.of_below HB1.out 0 0) hz (.inr (Nat.zero_le _))).at_ (k := k) (by rw [encOs_len]; omega)
        have c0' := hc0 _ _ (encMs_at0 hkl)
        have c2' : w1.cell? ⟨mb, mo + k * 3 + 2, none⟩ = some (.slice L[k].2.2.2.1 L[k].1.keys.length L[k].2.2.2.2) := hc0 _ _ (encMs_at2 hkl)
        have d0 := hd0 _ _ (encOs_at hkl')
        have hwm : M.wm m k = L[k].1 := R.out.wm hkl
        have hwo : M.wo m k = O[k].1 := R.out.wo hkl'
        have hwj := HWW.out OK.out k hkn
        rw [hwm, hwo] at hwj
        have V := M.valid_of hwj.1
        have v1 := V.size1
        have v12 := V.size12
        have hkeyl := V.keysLen
        have hol := hwj.2.1
        have HKE := Lib.hid (fun x (hx : x < L[k].1.keys.length) => V.key x hx)
        have HMK := Lib.hid ((R.out.maze _ (List.getElem_mem hkl)).keys.turned (Turned.of_below HB1.out 0 0) hz (.inr (Nat.zero_le _)))
        have HOW := Lib.hid ((R.out.owner _ (List.getElem_mem hkl')).row.turned (Turned.of_below HB1.out 0 0) hz (.inr (Nat.zero_le _)))
        have HTYk := HTY.out k (M.ownAll m (ii : Int) k)
        have HTNk := HTN.out k (M.ownAll m (ii : Int) k)
        have HNX := Lib.hid (show M.ownAll m (ii : Int) (k + 1) = M.ownTo m (ii : Int) k (M.ownAll m (ii : Int) k) L[k].1.size.toNat from by rw [← hwm]; rfl)
        have HN0 := Lib.hid (show M.ownTo m (ii : Int) k (M.ownAll m (ii : Int) k) 0 = M.ownAll m (ii : Int) k from rfl)
        rw [hwo] at HTYk HTNk
        rw [hwm] at HTYk
        have HTY2 := Lib.hid HTYk
        have HTN2 := Lib.hid HTNk
        subst ea
        subst eb
        clear hc0 hd0 hwm hwo hwj V HTYk HTNk
        generalize L[k].1 = mk at *
        generalize L[k].2.2.2.1 = x3 at *
        generalize L[k].2.2.2.2 = x4 at *
        generalize O[k].1 = ok at *
        generalize O[k].2.1 = y1 at *
        generalize O[k].2.2 = y2 at *
        generalize M.ownAll m (ii : Int) k = hk9 at *
        obtain ⟨sz, hsz⟩ : ∃ sz : Nat, mk.size = (sz : Int) := ⟨mk.size.toNat, by omega⟩
        rw [hsz] at c0' HNX
        have hszk : mk.keys.length = sz := by omega
        have hszo : ok.length = sz := by omega
        have HSZ := Lib.hid hsz
        have hs12 : sz ≤ 12 := by omega
        clear hsz v1 v12 hkeyl hol
        go_wp2_with fail
        go_loop [6, 8] (fun v6 v8 => ∃ (x : Nat), x ≤ sz ∧ v8 = .int .i64 (x : Int) ∧ v6 = .int .i64 (M.ownTo m (ii : Int) k hk9 x)) (fun _ v8 => sz - (intOf v8).toNat)
        case atStart => exact ⟨0, Nat.zero_le _, rfl, by rw [HN0.out]⟩
        case round =>
          obtain ⟨x, hx, rfl, rfl⟩ := hrel
          by_cases hxs : x < sz
          · have hxo : x < ok.length := by omega
            have hxk : x < mk.keys.length := by omega
            obtain ⟨yb, yo, ey, _, hyb, hy0⟩ := HOW.out.at_ (k := x) (by rw [M.encIs_len]; exact hxo)
            have u0 := hy0 _ _ (M.encIs_at hxo)
            obtain ⟨kb, ko, ek, _, hkb, hk0⟩ := HMK.out.at_ (k := x) (by rw [M.encIs_len]; exact hxk)
            have v0 := hk0 _ _ (M.encIs_at hxk)
            have hgo : ok.getD x 0 = ok[x] := by rw [List.getD_eq_getElem?_getD, List.getElem?_eq_getElem hxo]; rfl
            have hgk : mk.keys.getD x 0 = mk.keys[x] := by rw [List.getD_eq_getElem?_getD, List.getElem?_eq_getElem hxk]; rfl
            have HY := HTY2.out x
            have HN := HTN2.out x
            rw [hgo] at HY HN
            rw [hgk] at HY
            subst ey
            clear hy0 hk0 hgo hgk
            generalize ok[x] = op at *
            generalize mk.keys[x] = kp at *
            generalize M.ownTo m (ii : Int) k hk9 x = acc at *
            by_cases he : op = (ii : Int)
            · have HP1 := Lib.hid (HY he)
              have hbq : (op == (ii : Int)) = true := by simpa using he
              subst ek
              clear HY HN he
              go_wp2_with fail
              go_round
              case rel => exact ⟨x + 1, by omega, by go_num, by rw [HP1.out]⟩
              case measure => simp [intOf]; omega
            · have HP1 := Lib.hid (HN he)
              have hbq : (op == (ii : Int)) = false := by simpa using he
              clear HY HN he
              go_wp2_with fail
              go_round
              case rel => exact ⟨x + 1, by omega, by go_num, by rw [HP1.out]⟩
              case measure => simp [intOf]; omega
          · obtain rfl : x = sz := by omega
            go_wp2_with fail
            go_round
            case rel => exact ⟨k + 1, by omega, by go_num, by rw [HNX.out, Int.toNat_natCast]⟩
            case measure => simp [intOf]; omega
      · obtain rfl : k = no := by omega
        have hkl : ii < L.length := by rw [HL1.out]; exact hin
        obtain ⟨mb, mo, ea, _, hmb, hc0⟩ := (R.out.mazes.turned (Turned.of_below HB1.out 0 0) hz (.inr (Nat.zero_le _))).at_ (k := ii * 3) (by rw [encMs_len]; omega)
        have d0 := hc0 _ _ (encMs_at0 hkl)
        have d1 : w1.cell? ⟨mb, mo + ii * 3 + 1, none⟩ = some (.slice L[ii].2.1 L[ii].1.doors.length L[ii].2.2.1) := hc0 _ _ (encMs_at1 hkl)
        have d2 : w1.cell? ⟨mb, mo + ii * 3 + 2, none⟩ = some (.slice L[ii].2.2.2.1 L[ii].1.keys.length L[ii].2.2.2.2) := hc0 _ _ (encMs_at2 hkl)
        have hwm : M.wm m ii = L[ii].1 := R.out.wm hkl
        have hwj := HWW.out OK.out ii hin
        rw [hwm] at hwj
        have V := M.valid_of hwj.1
        have v1 := V.size1
        have v12 := V.size12
        have HMZ := Lib.hid (fun W (hB : Below w.heap.size w W) => show MzIn lo hi W L[ii].1 L[ii].2.1 L[ii].2.2.1 L[ii].2.2.2.1 L[ii].2.2.2.2 from (R.out.maze _ (List.getElem_mem hkl)).turned (Turned.of_below hB 0 0) hz (.inr (Nat.zero_le _)))
        have HV := Lib.hid V
        have CI3 := Lib.hid CI2.out
        rw [hwm] at CI3
        have FX := Lib.hid (fun W2 (hB : Below w1.drew.heap.size w1.drew W2) => show (W2.cell? ⟨w.heap.size, 0, none⟩ = some (.slice (some ⟨mb, mo, none⟩) k c) ∧ W2.cell? ⟨w.heap.size, 1, none⟩ = some (.slice b k d)) ∧ W2.cell? ⟨mb, mo + ii * 3, none⟩ = some (.int .i64 L[ii].1.size) ∧ W2.cell? ⟨mb, mo + ii * 3 + 1, none⟩ = some (.slice L[ii].2.1 L[ii].1.doors.length L[ii].2.2.1) ∧ W2.cell? ⟨mb, mo + ii * 3 + 2, none⟩ = some (.slice L[ii].2.2.2.1 L[ii].1.keys.length L[ii].2.2.2.2) from by
          have hbx := (Box2.below (w := w1.drew) X1.out hB).cells
          rw [ea] at hbx
          exact ⟨hbx, (hB.cell (p := ⟨mb, mo + ii * 3, none⟩) (show mb < w1.heap.size by omega)).trans d0, (hB.cell (p := ⟨mb, mo + ii * 3 + 1, none⟩) (show mb < w1.heap.size by omega)).trans d1, (hB.cell (p := ⟨mb, mo + ii * 3 + 2, none⟩) (show mb < w1.heap.size by omega)).trans d2⟩)
        have hw1 : IntKind.i64.wrap (L[ii].1.size - 1) = L[ii].1.size - 1 := IntWalk.i64_in _ (by omega)
        clear CI2 hc0 hwj hwm V v1 v12 d0 d1 d2
        generalize L[ii].1 = mk at *
        generalize L[ii].2.1 = x1 at *
        generalize L[ii].2.2.1 = x2 at *
        generalize L[ii].2.2.2.1 = x3 at *
        generalize L[ii].2.2.2.2 = x4 at *
        generalize M.ownAll m (ii : Int) k = ks at *
        subst ea
        go_wp2_with fail
        refine wp_region_late2 (fun (W2 : World) => (W2.cell? ⟨w.heap.size, 0, none⟩ = some (.slice (some ⟨mb, mo, none⟩) k c) ∧ W2.cell? ⟨w.heap.size, 1, none⟩ = some (.slice b k d)) ∧ W2.cell? ⟨mb, mo + ii * 3, none⟩ = some (.int .i64 mk.size) ∧ W2.cell? ⟨mb, mo + ii * 3 + 1, none⟩ = some (.slice x1 mk.doors.length x2) ∧ W2.cell? ⟨mb, mo + ii * 3 + 2, none⟩ = some (.slice x3 mk.keys.length x4)) [] 17 #[false, false, false, false, false, false, false, false, false, false, false, false, false, false, false, false, false] rfl rfl (by kernel_rfl) ?_
        have hS : (fun (W2 : World) => (W2.cell? ⟨w.heap.size, 0, none⟩ = some (.slice (some ⟨mb, mo, none⟩) k c) ∧ W2.cell? ⟨w.heap.size, 1, none⟩ = some (.slice b k d)) ∧ W2.cell? ⟨mb, mo + ii * 3, none⟩ = some (.int .i64 mk.size) ∧ W2.cell? ⟨mb, mo + ii * 3 + 1, none⟩ = some (.slice x1 mk.doors.length x2) ∧ W2.cell? ⟨mb, mo + ii * 3 + 2, none⟩ = some (.slice x3 mk.keys.length x4)) w1.drew := FX.out _ (Below.refl _ _)
        refine wpAnyL_take (i := 0) (oi := { dst := some 51, op := Go.Op.fieldAddr 30 (Go.Operand.tmp 2) 0, type := 0, pos := "l10_worlds.go:156", after := #[], guard := none }) (v := ?qv0) rfl (by kernel_rfl) (by kernel_rfl) (by kernel_rfl) (by kernel_rfl) (fun _ _ _ h => h) (Or.inl ⟨by rfl, ?qh0⟩) hS ?qr0
        case qh0 => (intro wS hSw; (try dsimp only at hSw); go_split_ands; go_simp; try with_reducible rfl)
        try simp only [Act.put, List.setIfInBounds_toArray, List.set_cons_zero, List.set_cons_succ]
        refine wpAnyL_take (i := 1) (oi := { dst := some 52, op := Go.Op.load 28 (Go.Operand.tmp 51), type := 28, pos := "l10_worlds.go:156", after := #[{ on := 0, ground := Go.Ground.data }], guard := none }) (v := ?qv1) rfl (by kernel_rfl) (by kernel_rfl) (by kernel_rfl) (by kernel_rfl) (fun _ _ _ h => h) (Or.inl ⟨by rfl, ?qh1⟩) hS ?qr1
        case qh1 => (intro wS hSw; (try dsimp only at hSw); go_split_ands; go_simp; try with_reducible rfl)
        try simp only [Act.put, List.setIfInBounds_toArray, List.set_cons_zero, List.set_cons_succ]
        refine wpAnyL_take (i := 2) (oi := { dst := some 53, op := Go.Op.move (Go.Operand.tmp 1), type := 3, pos := "l10_worlds.go:156", after := #[], guard := none }) (v := ?qv2) rfl (by kernel_rfl) (by kernel_rfl) (by kernel_rfl) (by kernel_rfl) (fun _ _ _ h => h) (Or.inl ⟨by rfl, ?qh2⟩) hS ?qr2
        case qh2 => (intro wS hSw; (try dsimp only at hSw); go_split_ands; go_simp; try with_reducible rfl)
        try simp only [Act.put, List.setIfInBounds_toArray, List.set_cons_zero, List.set_cons_succ]
        refine wpAnyL_take (i := 3) (oi := { dst := some 54, op := Go.Op.indexAddr 28 (Go.Operand.tmp 52) (Go.Operand.tmp 53), type := 0, pos := "l10_worlds.go:156", after := #[{ on := 1, ground := Go.Ground.data }, { on := 2, ground := Go.Ground.data }], guard := none }) (v := ?qv3) rfl (by kernel_rfl) (by kernel_rfl) (by kernel_rfl) (by kernel_rfl) (fun _ _ _ h => h) (Or.inl ⟨by rfl, ?qh3⟩) hS ?qr3
        case qh3 => (intro wS hSw; (try dsimp only at hSw); go_split_ands; go_simp; try with_reducible rfl)
        try simp only [Act.put, List.setIfInBounds_toArray, List.set_cons_zero, List.set_cons_succ]
        refine wpAnyL_take (i := 4) (oi := { dst := some 55, op := Go.Op.load 55 (Go.Operand.tmp 54), type := 55, pos := "l10_worlds.go:156", after := #[{ on := 3, ground := Go.Ground.data }], guard := none }) (v := ?qv4) rfl (by kernel_rfl) (by kernel_rfl) (by kernel_rfl) (by kernel_rfl) (fun _ _ _ h => h) (Or.inl ⟨by rfl, ?qh4⟩) hS ?qr4
        case qh4 => (intro wS hSw; (try dsimp only at hSw); go_split_ands; go_simp; try with_reducible rfl)
        try simp only [Act.put, List.setIfInBounds_toArray, List.set_cons_zero, List.set_cons_succ]
        refine wpAnyL_take (i := 5) (oi := { dst := some 56, op := Go.Op.move (Go.Operand.tmp 6), type := 3, pos := "l10_worlds.go:156", after := #[], guard := none }) (v := ?qv5) rfl (by kernel_rfl) (by kernel_rfl) (by kernel_rfl) (by kernel_rfl) (fun _ _ _ h => h) (Or.inl ⟨by rfl, ?qh5⟩) hS ?qr5
        case qh5 => (intro wS hSw; (try dsimp only at hSw); go_split_ands; go_simp; try with_reducible rfl)
        try simp only [Act.put, List.setIfInBounds_toArray, List.set_cons_zero, List.set_cons_succ]
        refine wpAnyL_take (i := 7) (oi := { dst := some 58, op := Go.Op.fieldAddr 30 (Go.Operand.tmp 2) 0, type := 0, pos := "l10_worlds.go:156", after := #[], guard := none }) (v := ?qv7) rfl (by kernel_rfl) (by kernel_rfl) (by kernel_rfl) (by kernel_rfl) (fun _ _ _ h => h) (Or.inl ⟨by rfl, ?qh7⟩) hS ?qr7
        case qh7 => (intro wS hSw; (try dsimp only at hSw); go_split_ands; go_simp; try with_reducible rfl)
        try simp only [Act.put, List.setIfInBounds_toArray, List.set_cons_zero, List.set_cons_succ]
        refine wpAnyL_take (i := 8) (oi := { dst := some 59, op := Go.Op.load 28 (Go.Operand.tmp 58), type := 28, pos := "l10_worlds.go:156", after := #[{ on := 7, ground := Go.Ground.data }], guard := none }) (v := ?qv8) rfl (by kernel_rfl) (by kernel_rfl) (by kernel_rfl) (by kernel_rfl) (fun _ _ _ h => h) (Or.inl ⟨by rfl, ?qh8⟩) hS ?qr8
        case qh8 => (intro wS hSw; (try dsimp only at hSw); go_split_ands; go_simp; try with_reducible rfl)
        try simp only [Act.put, List.setIfInBounds_toArray, List.set_cons_zero, List.set_cons_succ]
        refine wpAnyL_take (i := 9) (oi := { dst := some 60, op := Go.Op.move (Go.Operand.tmp 1), type := 3, pos := "l10_worlds.go:156", after := #[], guard := none }) (v := ?qv9) rfl (by kernel_rfl) (by kernel_rfl) (by kernel_rfl) (by kernel_rfl) (fun _ _ _ h => h) (Or.inl ⟨by rfl, ?qh9⟩) hS ?qr9
        case qh9 => (intro wS hSw; (try dsimp only at hSw); go_split_ands; go_simp; try with_reducible rfl)
        try simp only [Act.put, List.setIfInBounds_toArray, List.set_cons_zero, List.set_cons_succ]
        refine wpAnyL_take (i := 10) (oi := { dst := some 61, op := Go.Op.indexAddr 28 (Go.Operand.tmp 59) (Go.Operand.tmp 60), type := 0, pos := "l10_worlds.go:156", after := #[{ on := 8, ground := Go.Ground.data }, { on := 9, ground := Go.Ground.data }], guard := none }) (v := ?qv10) rfl (by kernel_rfl) (by kernel_rfl) (by kernel_rfl) (by kernel_rfl) (fun _ _ _ h => h) (Or.inl ⟨by rfl, ?qh10⟩) hS ?qr10
        case qh10 => (intro wS hSw; (try dsimp only at hSw); go_split_ands; go_simp; try with_reducible rfl)
        try simp only [Act.put, List.setIfInBounds_toArray, List.set_cons_zero, List.set_cons_succ]
        refine wpAnyL_take (i := 11) (oi := { dst := some 62, op := Go.Op.fieldAddr 55 (Go.Operand.tmp 61) 0, type := 0, pos := "l10_worlds.go:156", after := #[{ on := 10, ground := Go.Ground.data }], guard := none }) (v := ?qv11) rfl (by kernel_rfl) (by kernel_rfl) (by kernel_rfl) (by kernel_rfl) (fun _ _ _ h => h) (Or.inl ⟨by rfl, ?qh11⟩) hS ?qr11
        case qh11 => (intro wS hSw; (try dsimp only at hSw); go_split_ands; go_simp; try with_reducible rfl)
        try simp only [Act.put, List.setIfInBounds_toArray, List.set_cons_zero, List.set_cons_succ]
        refine wpAnyL_take (i := 12) (oi := { dst := some 63, op := Go.Op.load 3 (Go.Operand.tmp 62), type := 3, pos := "l10_worlds.go:156", after := #[{ on := 11, ground := Go.Ground.data }], guard := none }) (v := ?qv12) rfl (by kernel_rfl) (by kernel_rfl) (by kernel_rfl) (by kernel_rfl) (fun _ _ _ h => h) (Or.inl ⟨by rfl, ?qh12⟩) hS ?qr12
        case qh12 => (intro wS hSw; (try dsimp only at hSw); go_split_ands; go_simp; try with_reducible rfl)
        try simp only [Act.put, List.setIfInBounds_toArray, List.set_cons_zero, List.set_cons_succ]
        refine wpAnyL_take (i := 13) (oi := { dst := some 64, op := Go.Op.binOp Go.BinOp.sub 3 (Go.Operand.tmp 63) (Go.Operand.const (Go.Value.int Go.IntKind.i64 1)) 3, type := 3, pos := "l10_worlds.go:156", after := #[{ on := 12, ground := Go.Ground.data }], guard := none }) (v := ?qv13) rfl (by kernel_rfl) (by kernel_rfl) (by kernel_rfl) (by kernel_rfl) (fun _ _ _ h => h) (Or.inl ⟨by rfl, ?qh13⟩) hS ?qr13
        case qh13 => (intro wS hSw; (try dsimp only at hSw); go_split_ands; go_simp; try with_reducible rfl)
        try simp only [Act.put, List.setIfInBounds_toArray, List.set_cons_zero, List.set_cons_succ]
        refine wpAnyL_one (i := 6) (oi := { dst := some 57, op := Go.Op.call { callee := Go.Callee.value (Go.Operand.func 75), args := #[Go.Operand.tmp 55, Go.Operand.const (Go.Value.int Go.IntKind.i64 0), Go.Operand.tmp 56], argTypes := #[55, 3, 3] }, type := 39, pos := "l10_worlds.go:156", after := #[{ on := 4, ground := Go.Ground.data }, { on := 5, ground := Go.Ground.data }], guard := none }) (by kernel_rfl) rfl (fun Kq6 hKq6 => ?_)
        refine step_call (by rfl) 75 #[.agg #[.int .i64 mk.size, .slice x1 mk.doors.length x2, .slice x3 mk.keys.length x4], .int .i64 0, .int .i64 ks] (by go_simp; try rfl) (reach_any w1.drew lo hi mk x1 x3 x2 x4 (HMZ.out _ HB1.out.drew) (show hi ≤ w1.heap.size by omega) HV.out 0 ks (by decide) (by have := HV.out.size1; omega) ORR.out.1 ORR.out.2) ?_
        rintro e w2 ⟨ra, rc, rfl, hra, hr1, hr2, hb2⟩
        refine ⟨_, rfl, ?_⟩
        have hSs : (fun (W2 : World) => (W2.cell? ⟨w.heap.size, 0, none⟩ = some (.slice (some ⟨mb, mo, none⟩) k c) ∧ W2.cell? ⟨w.heap.size, 1, none⟩ = some (.slice b k d)) ∧ W2.cell? ⟨mb, mo + ii * 3, none⟩ = some (.int .i64 mk.size) ∧ W2.cell? ⟨mb, mo + ii * 3 + 1, none⟩ = some (.slice x1 mk.doors.length x2) ∧ W2.cell? ⟨mb, mo + ii * 3 + 2, none⟩ = some (.slice x3 mk.keys.length x4)) w2 := FX.out _ hb2
        refine hKq6 _ _ (fun _ => hSs) ?_
        clear hS
        have hS := hSs
        try simp only [Act.put, List.setIfInBounds_toArray, List.set_cons_zero, List.set_cons_succ]
        refine wpAnyL_one (i := 14) (oi := { dst := some 65, op := Go.Op.call { callee := Go.Callee.value (Go.Operand.func 69), args := #[Go.Operand.tmp 57, Go.Operand.tmp 64], argTypes := #[39, 3] }, type := 4, pos := "l10_worlds.go:156", after := #[{ on := 6, ground := Go.Ground.data }, { on := 13, ground := Go.Ground.data }, { on := 6, ground := Go.Ground.chain }], guard := none }) (by kernel_rfl) rfl (fun Kq14 hKq14 => ?_)
        refine step_call (by rfl) 69 #[.slice ra (M.reachOf mk 0 ks).length rc, .int .i64 (mk.size - 1)] (by go_simp; try rfl) (l1Has_any w2 _ _ ra rc (M.reachOf mk 0 ks) (mk.size - 1) hra.row (Nat.le_trans (M.rchL_len _ _ _) (by decide))) ?_
        rintro e w3 ⟨rfl, rfl⟩
        refine ⟨_, rfl, ?_⟩
        have hSs := hS
        refine hKq14 _ _ (fun _ => hSs) ?_
        clear hS
        have hS := hSs
        try simp only [Act.put, List.setIfInBounds_toArray, List.set_cons_zero, List.set_cons_succ]
        refine wpAnyL_take (i := 15) (oi := { dst := some 4, op := Go.Op.assign (Go.Operand.tmp 65), type := 4, pos := "l10_worlds.go:156", after := #[{ on := 14, ground := Go.Ground.data }, { on := 14, ground := Go.Ground.chain }, { on := 0, ground := Go.Ground.phase }, { on := 1, ground := Go.Ground.phase }, { on := 2, ground := Go.Ground.phase }, { on := 3, ground := Go.Ground.phase }, { on := 4, ground := Go.Ground.phase }, { on := 5, ground := Go.Ground.phase }, { on := 6, ground := Go.Ground.phase }, { on := 7, ground := Go.Ground.phase }, { on := 8, ground := Go.Ground.phase }, { on := 9, ground := Go.Ground.phase }, { on := 10, ground := Go.Ground.phase }, { on := 11, ground := Go.Ground.phase }, { on := 12, ground := Go.Ground.phase }, { on := 13, ground := Go.Ground.phase }, { on := 14, ground := Go.Ground.phase }], guard := none }) (v := ?qv15) rfl (by kernel_rfl) (by kernel_rfl) (by kernel_rfl) (by kernel_rfl) (fun _ _ _ h => h) (Or.inl ⟨by rfl, ?qh15⟩) hS ?qr15
        case qh15 => (intro wS hSw; (try dsimp only at hSw); go_split_ands; go_simp; try with_reducible rfl)
        try simp only [Act.put, List.setIfInBounds_toArray, List.set_cons_zero, List.set_cons_succ]
        refine wpAnyL_take (i := 16) (oi := { dst := some 5, op := Go.Op.assign (Go.Operand.const (Go.Value.bool true)), type := 4, pos := "l10_worlds.go:156", after := #[{ on := 15, ground := Go.Ground.chain }, { on := 0, ground := Go.Ground.phase }, { on := 1, ground := Go.Ground.phase }, { on := 2, ground := Go.Ground.phase }, { on := 3, ground := Go.Ground.phase }, { on := 4, ground := Go.Ground.phase }, { on := 5, ground := Go.Ground.phase }, { on := 6, ground := Go.Ground.phase }, { on := 7, ground := Go.Ground.phase }, { on := 8, ground := Go.Ground.phase }, { on := 9, ground := Go.Ground.phase }, { on := 10, ground := Go.Ground.phase }, { on := 11, ground := Go.Ground.phase }, { on := 12, ground := Go.Ground.phase }, { on := 13, ground := Go.Ground.phase }, { on := 14, ground := Go.Ground.phase }, { on := 15, ground := Go.Ground.phase }], guard := none }) (v := ?qv16) rfl (by kernel_rfl) (by kernel_rfl) (by kernel_rfl) (by kernel_rfl) (fun _ _ _ h => h) (Or.inl ⟨by rfl, ?qh16⟩) hS ?qr16
        case qh16 => (intro wS hSw; (try dsimp only at hSw); go_split_ands; go_simp; try with_reducible rfl)
        try simp only [Act.put, List.setIfInBounds_toArray, List.set_cons_zero, List.set_cons_succ]
        refine wpAnyL_done (by kernel_rfl) ?_ _
        · have HN2 := Lib.hid (HB1.out.drew.trans (hb2.mono hz1))
          clear hb2
          go_wp2_with fail
          go_ret2
          rw [CI3.out, QW.out]
          exact ⟨rfl, HN2.out⟩
end C
end Go.Proofs.Ytbcobheiofajeaa
