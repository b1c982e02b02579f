/-
  CONTRACT of impl.Worlds.clone: the same worlds again, in memory of the call's own. Condition: the worlds read so, at most 1048576 mazes, doors, keys and owners in all.
-/
import Derived.Test.YtbcobheiofajeaaWlI
import Derived.Test.YtbcobheiofajeaaWrdI
import Derived.Test.YtbcobheiofajeaaWCOwnMaz2
import Derived.Deep.AppendLies
import Derived.Test.YtbcobheiofajeaaWwoS
import Derived.Test.YtbcobheiofajeaaWBReachMath
namespace Go.Proofs.Ytbcobheiofajeaa
open Go.RowKit
namespace C
set_option linter.unusedVariables false
set_option maxHeartbeats 3200000
set_option maxRecDepth 20000
theorem own_ne_mbx {v : Value} {g : Nat} {w : World} {B n : Nat} {e : TypeId} {size : Nat} {xs : List Value} (_h : w.ownsRow B e size v n xs) (h : ∀ q, v.ownBlock = some q → q ≠ g) : v.ownBlock ≠ some g := fun e => h g e rfl
theorem cloneW_any (w : World) (lo hi : Nat) (m : M.Wl) (a b : Option Addr) (c d : Nat) (h : WlIn lo hi w m a c b d) (hz : hi ≤ w.heap.size) (h1 : M.szW m ≤ 1048576) (hsame : m.owners.length = m.mazes.length) :
    Calls Try.prog 96 #[.agg #[.slice a m.mazes.length c, .slice b m.owners.length d]] w (WlPost w m) := by
  obtain ⟨im, him, mz0', mz1, mz2⟩ := info_parts infoMz
  obtain ⟨is, his, sz0, sz1, sz2⟩ := info_parts infoII9
  obtain ⟨⟨L, O, r⟩, q1, q2, q3, q4⟩ := h
  unfold M.szW at h1
  have R := Lib.hid r
  have HL1 := Lib.hid r.lenM
  have HL2 := Lib.hid (r.lenO.trans hsame)
  have HMS := Lib.hid r.ms
  have HOS := Lib.hid r.os
  have hm9 : m.mazes.length ≤ 1048576 := by omega
  have HML := Lib.hid (fun k (hk : k < L.length) => show L[k].1.doors.length ≤ 1048576 ∧ L[k].1.keys.length ≤ 1048576 from by
    have := szMs_door (show L[k].1 ∈ m.mazes from by rw [r.ms]; exact List.mem_map_of_mem (List.getElem_mem hk))
    omega)
  have HOL := Lib.hid (fun k (hk : k < O.length) => show O[k].1.length ≤ 1048576 from by
    have := szOs_len (show O[k].1 ∈ m.owners from by rw [r.os]; exact List.mem_map_of_mem (List.getElem_mem hk))
    omega)
  clear r h1
  rw [hsame]
  rw [hsame] at q3
  have HSA := Lib.hid hsame
  clear hsame
  generalize hnm : m.mazes.length = n at *
  have HNM := Lib.hid hnm
  clear hnm
  go_enter Try.func96, Try.ntmps96
  go_upto_region 2 with fail
  refine wp_named ?_
  intro W0 hW
  have hb0 : Below w.heap.size w W0 := by rw [hW]; exact (((Below.refl _ _).alloc (Nat.le_refl _) _).alloc (by simp) _).alloc (by simp; omega) _
  have hx0 : Box2 W0 w.heap.size 30 (.slice a n c) (.slice b n d) := by rw [hW]; exact ((Box2.new _ _ _ rfl).alloc _).alloc _
  have hr0 : Box2 W0 (w.heap.size + 1) 30 (.slice none 0 0) (.slice none 0 0) := by rw [hW]; exact (Box2.new _ _ _ (by simp)).alloc _
  have ho0 : Box2 W0 (w.heap.size + 2) 30 (.slice none 0 0) (.slice none 0 0) := by rw [hW]; exact Box2.new _ _ _ (by simp)
  have hva0 : W0.ownsRow (w.heap.size + 2) 55 3 (.slice none 0 0) 0 (encMs []) := ⟨rfl, .inl ⟨rfl, rfl⟩⟩
  have hvb0 : W0.ownsRow (w.heap.size + 2) 39 1 (.slice none 0 0) 0 (encOs []) := ⟨rfl, .inl ⟨rfl, rfl⟩⟩
  clear hW
  have HX0 := Lib.hid hx0
  have HO0 := Lib.hid ho0
  have HA0 := Lib.hid hva0
  have HB0 := Lib.hid hvb0
  have HR0 := Lib.hid hr0
  have HBB0 := Lib.hid hb0
  have hzz0 := hb0.size
  have hxl := hx0.lt
  have hol := ho0.lt
  have hrl := hr0.lt
  obtain ⟨bx0, bx1⟩ := hx0.cells
  clear hx0 ho0 hva0 hvb0 hr0 hb0
  go_wp2_with fail
  go_loopw [4, 5, 10] (fun _ _ v4 wr => ∃ (k : Nat) (L' : List Rm) (O' : List Ro) (RM RO : Nat → Nat × Nat) (va vb : Value), k ≤ n ∧ v4 = .int .i64 (k : Int) ∧ L'.map (·.1) = (L.take k).map (·.1) ∧ O'.map (·.1) = (O.take k).map (·.1) ∧ wr.ownsRow (w.heap.size + 2) 55 3 va k (encMs L') ∧ wr.ownsRow (w.heap.size + 2) 39 1 vb k (encOs O') ∧ WsW W0.heap.size wr.heap.size wr L' O' RM RO ∧ Box2 wr w.heap.size 30 (.slice a n c) (.slice b n d) ∧ Box2 wr (w.heap.size + 1) 30 (.slice none 0 0) (.slice none 0 0) ∧ Box2 wr (w.heap.size + 2) 30 va vb ∧ W0.heap.size ≤ wr.heap.size ∧ Below w.heap.size w wr) (fun _ _ v4 _ => n - (intOf v4).toNat)
  case atStart => exact ⟨0, [], [], fun _ => (0, 0), fun _ => (0, 0), _, _, Nat.zero_le _, rfl, rfl, rfl, HA0.out, HB0.out, WsW.nil _ _ _ _ _, HX0.out, HR0.out, HO0.out, Nat.le_refl _, HBB0.out⟩
  case round =>
    obtain ⟨wo, rfl⟩ : ∃ W, W = wr := ⟨_, rfl⟩
    obtain ⟨k, L', O', RM, RO, va, vb, hk, rfl, hms, hos, hva, hvb, hws, hbx, hrx, hox, hzo, hnx⟩ := hrel
    have MS := Lib.hid hms
    have OS := Lib.hid hos
    have VA := Lib.hid hva
    have VB := Lib.hid hvb
    have WS := Lib.hid hws
    have HX := Lib.hid hbx
    have HRX := Lib.hid hrx
    have HOX := Lib.hid hox
    have HN := Lib.hid hnx
    have hzr := hnx.size
    have hbl := hbx.lt
    have hol2 := hox.lt
    obtain ⟨x0, x1⟩ := hbx.cells
    obtain ⟨y0, y1⟩ := hox.cells
    clear hms hos hva hvb hws hbx hrx hox hnx bx0 bx1
    by_cases hkn : k < n
    · have hkl : k < L.length := by rw [HL1.out]; exact hkn
      have hkl' : k < O.length := by rw [HL2.out]; exact hkn
      obtain ⟨mb, mo, ea, _, hmb, hc0⟩ := (R.out.mazes.turned (Turned.of_below HN.out 0 0) hz (.inr (Nat.zero_le _))).at_ (k := k * 3) (by rw [encMs_len]; omega)
      obtain ⟨ob, oo, eb, _, hob, hd0⟩ := (R.out.owners.turned (Turned.of_below HN.out 0 0) hz (.inr (Nat.zero_le _))).at_ (k := k) (by rw [encOs_len]; omega)
      have c0 := hc0 _ _ (encMs_at0 hkl)
      have c1 : wo.cell? ⟨mb, mo + k * 3 + 1, none⟩ = some (.slice L[k].2.1 L[k].1.doors.length L[k].2.2.1) := hc0 _ _ (encMs_at1 hkl)
      have c2 : wo.cell? ⟨mb, mo + k * 3 + 2, none⟩ = some (.slice L[k].2.2.2.1 L[k].1.keys.length L[k].2.2.2.2) := hc0 _ _ (encMs_at2 hkl)
      have d0 := hd0 _ _ (encOs_at hkl')
      have hmlk := HML.out k hkl
      have holk := HOL.out k hkl'
      have CO := Lib.hid (fun W (hB : Below w.heap.size w W) => clone_any W lo hi L[k].1 L[k].2.1 L[k].2.2.2.1 L[k].2.2.1 L[k].2.2.2.2 ((R.out.maze _ (List.getElem_mem hkl)).turned (Turned.of_below hB 0 0) hz (.inr (Nat.zero_le _))) (Nat.le_trans hz hB.size) hmlk.1 hmlk.2)
      have CN := Lib.hid (fun W (hB : Below w.heap.size w W) => cloneInts_any W lo hi O[k].2.1 O[k].2.2 O[k].1 ((R.out.owner _ (List.getElem_mem hkl')).turned (Turned.of_below hB 0 0) hz (.inr (Nat.zero_le _))).row (Nat.le_trans hz hB.size) holk)
      have HTK := Lib.hid (show (L.take (k + 1)).map (·.1) = (L.take k).map (·.1) ++ [L[k].1] from by rw [List.take_succ_eq_append_getElem hkl, List.map_append]; rfl)
      have HTO := Lib.hid (show (O.take (k + 1)).map (·.1) = (O.take k).map (·.1) ++ [O[k].1] from by rw [List.take_succ_eq_append_getElem hkl', List.map_append]; rfl)
      subst ea
      subst eb
      clear hc0 hd0 hmlk holk
      generalize L[k].1 = mk at *
      generalize L[k].2.1 = x1' at *
      generalize L[k].2.2.1 = x2' at *
      generalize L[k].2.2.2.1 = x3' at *
      generalize L[k].2.2.2.2 = x4' at *
      generalize O[k].1 = ok at *
      generalize O[k].2.1 = y1' at *
      generalize O[k].2.2 = y2' at *
      have FR := Lib.hid (fun W (hB : Below w.heap.size w W) => show W.cell? ⟨mb, mo + k * 3, none⟩ = some (.int .i64 mk.size) ∧ W.cell? ⟨mb, mo + k * 3 + 1, none⟩ = some (.slice x1' mk.doors.length x2') ∧ W.cell? ⟨mb, mo + k * 3 + 2, none⟩ = some (.slice x3' mk.keys.length x4') ∧ W.cell? ⟨ob, oo + k, none⟩ = some (.slice y1' ok.length y2') from ⟨(hB.cell (p := ⟨mb, mo + k * 3, none⟩) (show mb < w.heap.size by omega)).trans ((HN.out.cell (p := ⟨mb, mo + k * 3, none⟩) (show mb < w.heap.size by omega)).symm.trans c0), (hB.cell (p := ⟨mb, mo + k * 3 + 1, none⟩) (show mb < w.heap.size by omega)).trans ((HN.out.cell (p := ⟨mb, mo + k * 3 + 1, none⟩) (show mb < w.heap.size by omega)).symm.trans c1), (hB.cell (p := ⟨mb, mo + k * 3 + 2, none⟩) (show mb < w.heap.size by omega)).trans ((HN.out.cell (p := ⟨mb, mo + k * 3 + 2, none⟩) (show mb < w.heap.size by omega)).symm.trans c2), (hB.cell (p := ⟨ob, oo + k, none⟩) (show ob < w.heap.size by omega)).trans ((HN.out.cell (p := ⟨ob, oo + k, none⟩) (show ob < w.heap.size by omega)).symm.trans d0)⟩)
      go_upto_region 5 with fail
      refine wp_named ?_
      intro W1 hW
      have hbW : Below wo.heap.size wo W1 := by
        rw [hW]
        refine ⟨rfl, rfl, rfl, by simp, fun i hi => ?_⟩
        exact Below.heap_alloc wo _ i hi
      have MBb := Lib.hid (show Box3 W1 wo.heap.size 55 (.int .i64 mk.size) (.slice x1' mk.doors.length x2') (.slice x3' mk.keys.length x4') from by rw [hW]; exact Box3.new _ _ _ _ rfl)
      clear hW
      have HXb := Lib.hid (HX.out.below hbW)
      have HRXb := Lib.hid (HRX.out.below hbW)
      have HOXb := Lib.hid (HOX.out.below hbW)
      have VAb := Lib.hid (own_below VA.out hbW)
      have VBb := Lib.hid (own_below VB.out hbW)
      have WSb := Lib.hid ((WS.out.below hbW (Nat.le_refl _)).mono (Nat.le_refl _) hbW.size)
      have HNb := Lib.hid (HN.out.trans (hbW.mono hzr))
      have hzb := HNb.out.size
      have hzob := Nat.le_trans hzo hbW.size
      have y0b := HOXb.out.cells
      have x0b := HXb.out.cells
      have m0b := MBb.out.cells
      have HMBL := Lib.hid (fun q (hq : va.ownBlock = some q) => show q ≠ wo.heap.size by have := (VA.out.lt q hq).2; omega)
      clear hbW x0 x1 y0 y1 c0 c1 c2 d0
      refine wp_region_late2 (fun (wq : World) => (wq.cell? ⟨w.heap.size + 2, 0, none⟩ = some va ∧ wq.cell? ⟨w.heap.size + 2, 1, none⟩ = some vb) ∧ (wq.cell? ⟨w.heap.size, 0, none⟩ = some (.slice (some ⟨mb, mo, none⟩) n c) ∧ wq.cell? ⟨w.heap.size, 1, none⟩ = some (.slice (some ⟨ob, oo, none⟩) n d)) ∧ (wq.cell? ⟨wo.heap.size, 0, none⟩ = some (.int .i64 mk.size) ∧ wq.cell? ⟨wo.heap.size, 1, none⟩ = some (.slice x1' mk.doors.length x2') ∧ wq.cell? ⟨wo.heap.size, 2, none⟩ = some (.slice x3' mk.keys.length x4')) ∧ wq.cell? ⟨mb, mo + k * 3, none⟩ = some (.int .i64 mk.size) ∧ wq.cell? ⟨mb, mo + k * 3 + 1, none⟩ = some (.slice x1' mk.doors.length x2') ∧ wq.cell? ⟨mb, mo + k * 3 + 2, none⟩ = some (.slice x3' mk.keys.length x4') ∧ wq.cell? ⟨ob, oo + k, none⟩ = some (.slice y1' ok.length y2')) [7] 8 #[false, false, false, false, false, false, false, false] rfl rfl (by kernel_rfl) ?_
      have hS : (fun (wq : World) => (wq.cell? ⟨w.heap.size + 2, 0, none⟩ = some va ∧ wq.cell? ⟨w.heap.size + 2, 1, none⟩ = some vb) ∧ (wq.cell? ⟨w.heap.size, 0, none⟩ = some (.slice (some ⟨mb, mo, none⟩) n c) ∧ wq.cell? ⟨w.heap.size, 1, none⟩ = some (.slice (some ⟨ob, oo, none⟩) n d)) ∧ (wq.cell? ⟨wo.heap.size, 0, none⟩ = some (.int .i64 mk.size) ∧ wq.cell? ⟨wo.heap.size, 1, none⟩ = some (.slice x1' mk.doors.length x2') ∧ wq.cell? ⟨wo.heap.size, 2, none⟩ = some (.slice x3' mk.keys.length x4')) ∧ wq.cell? ⟨mb, mo + k * 3, none⟩ = some (.int .i64 mk.size) ∧ wq.cell? ⟨mb, mo + k * 3 + 1, none⟩ = some (.slice x1' mk.doors.length x2') ∧ wq.cell? ⟨mb, mo + k * 3 + 2, none⟩ = some (.slice x3' mk.keys.length x4') ∧ wq.cell? ⟨ob, oo + k, none⟩ = some (.slice y1' ok.length y2')) W1.drew := ⟨y0b, x0b, m0b, FR.out _ HNb.out.drew⟩
      refine wpAnyL_take (i := 0) (oi := { dst := some 15, op := Go.Op.fieldAddr 30 (Go.Operand.tmp 3) 0, type := 0, pos := "l10_worlds.go:170", after := #[], guard := none }) (v := ?pv0) rfl (by kernel_rfl) (by kernel_rfl) (by kernel_rfl) (by kernel_rfl) (fun _ _ _ h => h) (Or.inl ⟨by rfl, ?ph0⟩) hS ?pr0
      case ph0 => (intro wS hSw; (try dsimp only at hSw); go_split_ands; go_simp; try with_reducible rfl)
      try simp only [Act.put, List.setIfInBounds_toArray, List.set_cons_zero, List.set_cons_succ]
      refine wpAnyL_take (i := 1) (oi := { dst := some 16, op := Go.Op.load 28 (Go.Operand.tmp 15), type := 28, pos := "l10_worlds.go:170", after := #[{ on := 0, ground := Go.Ground.data }], guard := none }) (v := ?pv1) rfl (by kernel_rfl) (by kernel_rfl) (by kernel_rfl) (by kernel_rfl) (fun _ _ _ h => h) (Or.inl ⟨by rfl, ?ph1⟩) hS ?pr1
      case ph1 => (intro wS hSw; (try dsimp only at hSw); go_split_ands; go_simp; try with_reducible rfl)
      try simp only [Act.put, List.setIfInBounds_toArray, List.set_cons_zero, List.set_cons_succ]
      refine wpAnyL_take (i := 2) (oi := { dst := some 17, op := Go.Op.load 55 (Go.Operand.tmp 5), type := 55, pos := "l10_worlds.go:170", after := #[], guard := none }) (v := ?pv2) rfl (by kernel_rfl) (by kernel_rfl) (by kernel_rfl) (by kernel_rfl) (fun _ _ _ h => h) (Or.inl ⟨by rfl, ?ph2⟩) hS ?pr2
      case ph2 => (intro wS hSw; (try dsimp only at hSw); go_split_ands; go_simp; try with_reducible rfl)
      try simp only [Act.put, List.setIfInBounds_toArray, List.set_cons_zero, List.set_cons_succ]
      refine wpAnyL_one (i := 3) (oi := { dst := some 18, op := Go.Op.call { callee := Go.Callee.value (Go.Operand.func 87), args := #[Go.Operand.tmp 17], argTypes := #[55] }, type := 55, pos := "l10_worlds.go:170", after := #[{ on := 2, ground := Go.Ground.data }], guard := none }) (by kernel_rfl) rfl (fun Kp3 hKp3 => ?_)
      refine step_call (by rfl) 87 #[.agg #[.int .i64 mk.size, .slice x1' mk.doors.length x2', .slice x3' mk.keys.length x4']] (by go_simp; try rfl) (CO.out _ HNb.out.drew) ?_
      rintro e w2 ⟨pa, pc, pb, pd, rfl, hmo, hb2⟩
      refine ⟨_, rfl, ?_⟩
      have BW2 : Below W1.heap.size W1 w2 := (Below.refl W1.heap.size W1).drew.trans hb2
      have B2 := Lib.hid (HNb.out.trans (BW2.mono hzb))
      have X2 := Lib.hid (HXb.out.below BW2)
      have R2 := Lib.hid (HRXb.out.below BW2)
      have OX2 := Lib.hid (HOXb.out.below BW2)
      have VA2 := Lib.hid (own_below VAb.out BW2)
      have VB2 := Lib.hid (own_below VBb.out BW2)
      have MB2 := Lib.hid (MBb.out.below BW2)
      have hsz2 := BW2.size
      have WS2 := Lib.hid ((WSb.out.below BW2 (Nat.le_refl _)).pushM (p := (mk, pa, pc, pb, pd)) (l' := W1.heap.size) (h' := w2.heap.size) hmo (Nat.le_refl _) hzob (Nat.le_refl _) hsz2)
      have hSs : (fun (wq : World) => (wq.cell? ⟨w.heap.size + 2, 0, none⟩ = some va ∧ wq.cell? ⟨w.heap.size + 2, 1, none⟩ = some vb) ∧ (wq.cell? ⟨w.heap.size, 0, none⟩ = some (.slice (some ⟨mb, mo, none⟩) n c) ∧ wq.cell? ⟨w.heap.size, 1, none⟩ = some (.slice (some ⟨ob, oo, none⟩) n d)) ∧ (wq.cell? ⟨wo.heap.size, 0, none⟩ = some (.int .i64 mk.size) ∧ wq.cell? ⟨wo.heap.size, 1, none⟩ = some (.slice x1' mk.doors.length x2') ∧ wq.cell? ⟨wo.heap.size, 2, none⟩ = some (.slice x3' mk.keys.length x4')) ∧ wq.cell? ⟨mb, mo + k * 3, none⟩ = some (.int .i64 mk.size) ∧ wq.cell? ⟨mb, mo + k * 3 + 1, none⟩ = some (.slice x1' mk.doors.length x2') ∧ wq.cell? ⟨mb, mo + k * 3 + 2, none⟩ = some (.slice x3' mk.keys.length x4') ∧ wq.cell? ⟨ob, oo + k, none⟩ = some (.slice y1' ok.length y2')) w2 := ⟨OX2.out.cells, X2.out.cells, MB2.out.cells, FR.out _ B2.out⟩
      clear hmo hb2 BW2
      refine hKp3 _ _ (fun _ => hSs) ?_
      clear hS
      have hS := hSs
      try simp only [Act.put, List.setIfInBounds_toArray, List.set_cons_zero, List.set_cons_succ]
      refine wpAnyL_one (i := 4) (oi := { dst := some 19, op := Go.Op.buildSlice 28 1 #[(0, Go.Operand.tmp 18)], type := 28, pos := "l10_worlds.go:170", after := #[{ on := 3, ground := Go.Ground.data }], guard := none }) (by kernel_rfl) rfl (fun Kp4 hKp4 => ?_)
      go_simp
      have hszA : (w2.alloc (.cells #[.int .i64 mk.size, .slice pa mk.doors.length pc, .slice pb mk.keys.length pd] 55)).heap.size = w2.heap.size + 1 := World.size_alloc _ _
      have hS11 : (fun (wq : World) => (wq.cell? ⟨w.heap.size + 2, 0, none⟩ = some va ∧ wq.cell? ⟨w.heap.size + 2, 1, none⟩ = some vb) ∧ (wq.cell? ⟨w.heap.size, 0, none⟩ = some (.slice (some ⟨mb, mo, none⟩) n c) ∧ wq.cell? ⟨w.heap.size, 1, none⟩ = some (.slice (some ⟨ob, oo, none⟩) n d)) ∧ (wq.cell? ⟨wo.heap.size, 0, none⟩ = some (.int .i64 mk.size) ∧ wq.cell? ⟨wo.heap.size, 1, none⟩ = some (.slice x1' mk.doors.length x2') ∧ wq.cell? ⟨wo.heap.size, 2, none⟩ = some (.slice x3' mk.keys.length x4')) ∧ wq.cell? ⟨mb, mo + k * 3, none⟩ = some (.int .i64 mk.size) ∧ wq.cell? ⟨mb, mo + k * 3 + 1, none⟩ = some (.slice x1' mk.doors.length x2') ∧ wq.cell? ⟨mb, mo + k * 3 + 2, none⟩ = some (.slice x3' mk.keys.length x4') ∧ wq.cell? ⟨ob, oo + k, none⟩ = some (.slice y1' ok.length y2')) (w2.alloc (.cells #[.int .i64 mk.size, .slice pa mk.doors.length pc, .slice pb mk.keys.length pd] 55)) := ⟨(OX2.out.alloc _).cells, (X2.out.alloc _).cells, (MB2.out.alloc _).cells, FR.out _ (B2.out.alloc (B2.out.size) _)⟩
      refine hKp4 _ _ (fun _ => hS11) ?_
      clear hS
      have hS := hS11
      try simp only [List.setIfInBounds_toArray, List.set_cons_zero, List.set_cons_succ]
      refine wpAnyL_one (i := 5) (oi := { dst := some 20, op := Go.Op.call { callee := Go.Callee.builtin Go.Builtin.append, args := #[Go.Operand.tmp 16, Go.Operand.tmp 19], argTypes := #[28, 28] }, type := 28, pos := "l10_worlds.go:170", after := #[{ on := 1, ground := Go.Ground.data }, { on := 4, ground := Go.Ground.data }, { on := 3, ground := Go.Ground.chain }], guard := none }) (by kernel_rfl) rfl (fun Kp5 hKp5 => ?_)
      refine step_append_lies _ rfl _ _ 28 rfl (w.heap.size + 2) 55 im (.agg #[.int .i64 0, .slice none 0 0, .slice none 0 0]) 3 56 Try.underlying28 him mz0' mz1 mz2 rfl (by decide) va k (encMs L') rfl (show (w2.alloc (.cells #[.int .i64 mk.size, .slice pa mk.doors.length pc, .slice pb mk.keys.length pd] 55)).ownsRow _ _ _ _ _ _ from VA2.out.alloc _) ⟨w2.heap.size, 0, none⟩ 1 1 (encM1 (mk, pa, pc, pb, pd)) rfl rfl (World.news_of_block (Box3.new (w := w2) 55 _ _ _ rfl)) (encM1_one _) (by decide) (by unfold maxLen; omega) (by omega) (by rw [hszA]; omega) _ rfl ?_
      intro g7 c7 w7 hown7 hgrow7 hat7 hlt7
      have VA2a := Lib.hid (show (w2.alloc (.cells #[.int .i64 mk.size, .slice pa mk.doors.length pc, .slice pb mk.keys.length pd] 55)).ownsRow _ _ _ _ _ _ from VA2.out.alloc _)
      have OX7 := Lib.hid ((OX2.out.alloc (.cells #[.int .i64 mk.size, .slice pa mk.doors.length pc, .slice pb mk.keys.length pd] 55)).grown hgrow7 (own_ne_b2 VA2a.out (OX2.out.alloc _) (by decide)))
      have X7 := Lib.hid ((X2.out.alloc (.cells #[.int .i64 mk.size, .slice pa mk.doors.length pc, .slice pb mk.keys.length pd] 55)).grown hgrow7 (own_ne_b2 VA2a.out (X2.out.alloc _) (by decide)))
      have R7 := Lib.hid ((R2.out.alloc (.cells #[.int .i64 mk.size, .slice pa mk.doors.length pc, .slice pb mk.keys.length pd] 55)).grown hgrow7 (own_ne_b2 VA2a.out (R2.out.alloc _) (by decide)))
      have VB7 := Lib.hid ((show (w2.alloc (.cells #[.int .i64 mk.size, .slice pa mk.doors.length pc, .slice pb mk.keys.length pd] 55)).ownsRow _ _ _ _ _ _ from VB2.out.alloc _).kept hgrow7 (own_ne_own2 VA2a.out (VB2.out.alloc _) (by decide)))
      have WS7 := Lib.hid (((WS2.out.below (below_alloc w2 _) (Nat.le_refl _)).grownT hgrow7 (fun g e cur V f hf => by rw [own_type VA2a.out g e cur V f hf]; decide)).mono (Nat.le_refl _) (show w2.heap.size ≤ w7.heap.size by have := hgrow7.size; rw [hszA] at this; omega))
      have B7 := Lib.hid ((B2.out.alloc (B2.out.size) _).grown hgrow7 (by rw [hszA]; omega) (fun q hq => Nat.le_trans (Nat.le_add_right _ 2) (own_base VA2a.out q hq)))
      have hsz7 : w2.heap.size + 1 ≤ w7.heap.size := by have := hgrow7.size; rw [hszA] at this; exact this
      have VA7 := Lib.hid hown7
      have MB7 := Lib.hid ((MB2.out.alloc (.cells #[.int .i64 mk.size, .slice pa mk.doors.length pc, .slice pb mk.keys.length pd] 55)).grown hgrow7 (own_ne_mbx VA2a.out HMBL.out))
      have hS12 : (fun (wq : World) => (wq.cell? ⟨w.heap.size + 2, 0, none⟩ = some va ∧ wq.cell? ⟨w.heap.size + 2, 1, none⟩ = some vb) ∧ (wq.cell? ⟨w.heap.size, 0, none⟩ = some (.slice (some ⟨mb, mo, none⟩) n c) ∧ wq.cell? ⟨w.heap.size, 1, none⟩ = some (.slice (some ⟨ob, oo, none⟩) n d)) ∧ (wq.cell? ⟨wo.heap.size, 0, none⟩ = some (.int .i64 mk.size) ∧ wq.cell? ⟨wo.heap.size, 1, none⟩ = some (.slice x1' mk.doors.length x2') ∧ wq.cell? ⟨wo.heap.size, 2, none⟩ = some (.slice x3' mk.keys.length x4')) ∧ wq.cell? ⟨mb, mo + k * 3, none⟩ = some (.int .i64 mk.size) ∧ wq.cell? ⟨mb, mo + k * 3 + 1, none⟩ = some (.slice x1' mk.doors.length x2') ∧ wq.cell? ⟨mb, mo + k * 3 + 2, none⟩ = some (.slice x3' mk.keys.length x4') ∧ wq.cell? ⟨ob, oo + k, none⟩ = some (.slice y1' ok.length y2')) w7 := ⟨OX7.out.cells, X7.out.cells, MB7.out.cells, FR.out _ B7.out⟩
      refine hKp5 _ _ (fun _ => hS12) ?_
      clear hS
      have hS := hS12
      try simp only [Act.put, List.setIfInBounds_toArray, List.set_cons_zero, List.set_cons_succ]
      refine wpAnyL_take (i := 6) (oi := { dst := some 21, op := Go.Op.fieldAddr 30 (Go.Operand.tmp 3) 0, type := 0, pos := "l10_worlds.go:170", after := #[{ on := 0, ground := Go.Ground.phase }, { on := 1, ground := Go.Ground.phase }, { on := 2, ground := Go.Ground.phase }, { on := 3, ground := Go.Ground.phase }, { on := 4, ground := Go.Ground.phase }, { on := 5, ground := Go.Ground.phase }], guard := none }) (v := ?pv6) rfl (by kernel_rfl) (by kernel_rfl) (by kernel_rfl) (by kernel_rfl) (fun _ _ _ h => h) (Or.inl ⟨by rfl, ?ph6⟩) hS ?pr6
      case ph6 => (intro wS hSw; (try dsimp only at hSw); go_split_ands; go_simp; try with_reducible rfl)
      try simp only [Act.put, List.setIfInBounds_toArray, List.set_cons_zero, List.set_cons_succ]
      refine wpAnyL_one (i := 7) (oi := { dst := none, op := Go.Op.store 28 (Go.Operand.tmp 21) (Go.Operand.tmp 20), type := 0, pos := "l10_worlds.go:170", after := #[{ on := 6, ground := Go.Ground.data }, { on := 5, ground := Go.Ground.data }, { on := 5, ground := Go.Ground.chain }, { on := 0, ground := Go.Ground.phase }, { on := 1, ground := Go.Ground.phase }, { on := 2, ground := Go.Ground.phase }, { on := 3, ground := Go.Ground.phase }, { on := 4, ground := Go.Ground.phase }, { on := 5, ground := Go.Ground.phase }], guard := none }) (by kernel_rfl) rfl (fun Kp7 hKp7 => ?_)
      obtain ⟨f0, f1⟩ := OX7.out.free
      obtain ⟨v0, v1⟩ := OX7.out.cells
      have hol7 := OX7.out.lt
      clear hown7
      go_simp
      refine hKp7 _ _ (fun h => absurd h (by decide)) ?_
      refine wpAnyL_done (by kernel_rfl) ?_ _
      go_wp2_with fail
      refine wp_named ?_
      intro W8 hW8
      have hT8 : Turned (w.heap.size + 2) (w.heap.size + 2 + 1) w7 W8 := by rw [hW8]; exact Turned.setCell _ _ _ _ (Nat.le_refl _) (Nat.lt_succ_self _)
      have OX8 := Lib.hid (show Box2 W8 (w.heap.size + 2) 30 (.slice (some ⟨g7, 0, none⟩) (k + 1) c7) vb from by rw [hW8]; exact OX7.out.set0 _)
      have hsz8 : W8.heap.size = w7.heap.size := by rw [hW8]; simp [World.setCell]
      clear hW8
      have X8 := Lib.hid (X7.out.turned hT8 (by omega))
      have R8 := Lib.hid (R7.out.turned hT8 (by omega))
      have VA8 := Lib.hid (own_turn1 VA7.out hT8 (own_ne_b2 VA7.out OX7.out (by decide)))
      have VB8 := Lib.hid (own_turn1 VB7.out hT8 (own_ne_b2 VB7.out OX7.out (by decide)))
      have WS8 := Lib.hid ((WS7.out.turned hT8 (Nat.le_refl _) (.inr (by omega))).mono (Nat.le_refl _) (show w7.heap.size ≤ W8.heap.size by omega))
      have B8 := Lib.hid (Below.thenTurned B7.out hT8 (by omega) (by have := B7.out.size; omega))
      have hzo8 : W0.heap.size ≤ W8.heap.size := by omega
      obtain ⟨o80, o81⟩ := OX8.out.cells
      obtain ⟨x80, x81⟩ := X8.out.cells
      clear hT8 v0 v1 f0 f1 hgrow7 hS
      refine wp_region_late2 (fun (wq : World) => (wq.cell? ⟨w.heap.size + 2, 0, none⟩ = some (.slice (some ⟨g7, 0, none⟩) (k + 1) c7) ∧ wq.cell? ⟨w.heap.size + 2, 1, none⟩ = some vb) ∧ (wq.cell? ⟨w.heap.size, 0, none⟩ = some (.slice (some ⟨mb, mo, none⟩) n c) ∧ wq.cell? ⟨w.heap.size, 1, none⟩ = some (.slice (some ⟨ob, oo, none⟩) n d)) ∧ wq.cell? ⟨mb, mo + k * 3, none⟩ = some (.int .i64 mk.size) ∧ wq.cell? ⟨mb, mo + k * 3 + 1, none⟩ = some (.slice x1' mk.doors.length x2') ∧ wq.cell? ⟨mb, mo + k * 3 + 2, none⟩ = some (.slice x3' mk.keys.length x4') ∧ wq.cell? ⟨ob, oo + k, none⟩ = some (.slice y1' ok.length y2')) [11] 12 #[false, false, false, false, false, false, false, false, false, false, false, false] rfl rfl (by kernel_rfl) ?_
      have hS : (fun (wq : World) => (wq.cell? ⟨w.heap.size + 2, 0, none⟩ = some (.slice (some ⟨g7, 0, none⟩) (k + 1) c7) ∧ wq.cell? ⟨w.heap.size + 2, 1, none⟩ = some vb) ∧ (wq.cell? ⟨w.heap.size, 0, none⟩ = some (.slice (some ⟨mb, mo, none⟩) n c) ∧ wq.cell? ⟨w.heap.size, 1, none⟩ = some (.slice (some ⟨ob, oo, none⟩) n d)) ∧ wq.cell? ⟨mb, mo + k * 3, none⟩ = some (.int .i64 mk.size) ∧ wq.cell? ⟨mb, mo + k * 3 + 1, none⟩ = some (.slice x1' mk.doors.length x2') ∧ wq.cell? ⟨mb, mo + k * 3 + 2, none⟩ = some (.slice x3' mk.keys.length x4') ∧ wq.cell? ⟨ob, oo + k, none⟩ = some (.slice y1' ok.length y2')) W8.drew := ⟨⟨o80, o81⟩, ⟨x80, x81⟩, FR.out _ B8.out.drew⟩
      refine wpAnyL_take (i := 0) (oi := { dst := some 22, op := Go.Op.fieldAddr 30 (Go.Operand.tmp 3) 1, type := 0, pos := "l10_worlds.go:171", after := #[], guard := none }) (v := ?qv0) rfl (by kernel_rfl) (by kernel_rfl) (by kernel_rfl) (by kernel_rfl) (fun _ _ _ h => h) (Or.inl ⟨by rfl, ?qh0⟩) hS ?qr0
      case qh0 => (intro wS hSw; (try dsimp only at hSw); go_split_ands; go_simp; try with_reducible rfl)
      try simp only [Act.put, List.setIfInBounds_toArray, List.set_cons_zero, List.set_cons_succ]
      refine wpAnyL_take (i := 1) (oi := { dst := some 23, op := Go.Op.load 23 (Go.Operand.tmp 22), type := 23, pos := "l10_worlds.go:171", after := #[{ on := 0, ground := Go.Ground.data }], guard := none }) (v := ?qv1) rfl (by kernel_rfl) (by kernel_rfl) (by kernel_rfl) (by kernel_rfl) (fun _ _ _ h => h) (Or.inl ⟨by rfl, ?qh1⟩) hS ?qr1
      case qh1 => (intro wS hSw; (try dsimp only at hSw); go_split_ands; go_simp; try with_reducible rfl)
      try simp only [Act.put, List.setIfInBounds_toArray, List.set_cons_zero, List.set_cons_succ]
      refine wpAnyL_take (i := 2) (oi := { dst := some 24, op := Go.Op.fieldAddr 30 (Go.Operand.tmp 1) 1, type := 0, pos := "l10_worlds.go:171", after := #[], guard := none }) (v := ?qv2) rfl (by kernel_rfl) (by kernel_rfl) (by kernel_rfl) (by kernel_rfl) (fun _ _ _ h => h) (Or.inl ⟨by rfl, ?qh2⟩) hS ?qr2
      case qh2 => (intro wS hSw; (try dsimp only at hSw); go_split_ands; go_simp; try with_reducible rfl)
      try simp only [Act.put, List.setIfInBounds_toArray, List.set_cons_zero, List.set_cons_succ]
      refine wpAnyL_take (i := 3) (oi := { dst := some 25, op := Go.Op.load 23 (Go.Operand.tmp 24), type := 23, pos := "l10_worlds.go:171", after := #[{ on := 2, ground := Go.Ground.data }], guard := none }) (v := ?qv3) rfl (by kernel_rfl) (by kernel_rfl) (by kernel_rfl) (by kernel_rfl) (fun _ _ _ h => h) (Or.inl ⟨by rfl, ?qh3⟩) hS ?qr3
      case qh3 => (intro wS hSw; (try dsimp only at hSw); go_split_ands; go_simp; try with_reducible rfl)
      try simp only [Act.put, List.setIfInBounds_toArray, List.set_cons_zero, List.set_cons_succ]
      refine wpAnyL_take (i := 4) (oi := { dst := some 26, op := Go.Op.move (Go.Operand.tmp 4), type := 3, pos := "l10_worlds.go:171", after := #[], guard := none }) (v := ?qv4) rfl (by kernel_rfl) (by kernel_rfl) (by kernel_rfl) (by kernel_rfl) (fun _ _ _ h => h) (Or.inl ⟨by rfl, ?qh4⟩) hS ?qr4
      case qh4 => (intro wS hSw; (try dsimp only at hSw); go_split_ands; go_simp; try with_reducible rfl)
      try simp only [Act.put, List.setIfInBounds_toArray, List.set_cons_zero, List.set_cons_succ]
      refine wpAnyL_take (i := 5) (oi := { dst := some 27, op := Go.Op.indexAddr 23 (Go.Operand.tmp 25) (Go.Operand.tmp 26), type := 0, pos := "l10_worlds.go:171", after := #[{ on := 3, ground := Go.Ground.data }, { on := 4, ground := Go.Ground.data }], guard := none }) (v := ?qv5) rfl (by kernel_rfl) (by kernel_rfl) (by kernel_rfl) (by kernel_rfl) (fun _ _ _ h => h) (Or.inl ⟨by rfl, ?qh5⟩) hS ?qr5
      case qh5 => (intro wS hSw; (try dsimp only at hSw); go_split_ands; go_simp; try with_reducible rfl)
      try simp only [Act.put, List.setIfInBounds_toArray, List.set_cons_zero, List.set_cons_succ]
      refine wpAnyL_take (i := 6) (oi := { dst := some 28, op := Go.Op.load 39 (Go.Operand.tmp 27), type := 39, pos := "l10_worlds.go:171", after := #[{ on := 5, ground := Go.Ground.data }], guard := none }) (v := ?qv6) rfl (by kernel_rfl) (by kernel_rfl) (by kernel_rfl) (by kernel_rfl) (fun _ _ _ h => h) (Or.inl ⟨by rfl, ?qh6⟩) hS ?qr6
      case qh6 => (intro wS hSw; (try dsimp only at hSw); go_split_ands; go_simp; try with_reducible rfl)
      try simp only [Act.put, List.setIfInBounds_toArray, List.set_cons_zero, List.set_cons_succ]
      refine wpAnyL_one (i := 7) (oi := { dst := some 29, op := Go.Op.call { callee := Go.Callee.value (Go.Operand.func 119), args := #[Go.Operand.tmp 28], argTypes := #[39] }, type := 39, pos := "l10_worlds.go:171", after := #[{ on := 6, ground := Go.Ground.data }], guard := none }) (by kernel_rfl) rfl (fun Kq7 hKq7 => ?_)
      refine step_call (by rfl) 119 #[.slice y1' ok.length y2'] (by go_simp; try rfl) (CN.out _ B8.out.drew) ?_
      rintro e w9 ⟨ia, ic, rfl, hio, hi1, hi2, hb9⟩
      refine ⟨_, rfl, ?_⟩
      have BW9 : Below W8.heap.size W8 w9 := (Below.refl W8.heap.size W8).drew.trans hb9
      have B9 := Lib.hid (B8.out.trans (BW9.mono B8.out.size))
      have X9 := Lib.hid (X8.out.below BW9)
      have R9 := Lib.hid (R8.out.below BW9)
      have OX9 := Lib.hid (OX8.out.below BW9)
      have VA9 := Lib.hid (own_below VA8.out BW9)
      have VB9 := Lib.hid (own_below VB8.out BW9)
      have hsz9 := BW9.size
      have WS9 := Lib.hid ((WS8.out.below BW9 (Nat.le_refl _)).pushO (p := (ok, ia, ic)) (l' := W8.heap.size) (h' := w9.heap.size) ⟨hio, hi1, hi2⟩ (Nat.le_refl _) hzo8 (Nat.le_refl _) hsz9)
      have hSs : (fun (wq : World) => (wq.cell? ⟨w.heap.size + 2, 0, none⟩ = some (.slice (some ⟨g7, 0, none⟩) (k + 1) c7) ∧ wq.cell? ⟨w.heap.size + 2, 1, none⟩ = some vb) ∧ (wq.cell? ⟨w.heap.size, 0, none⟩ = some (.slice (some ⟨mb, mo, none⟩) n c) ∧ wq.cell? ⟨w.heap.size, 1, none⟩ = some (.slice (some ⟨ob, oo, none⟩) n d)) ∧ wq.cell? ⟨mb, mo + k * 3, none⟩ = some (.int .i64 mk.size) ∧ wq.cell? ⟨mb, mo + k * 3 + 1, none⟩ = some (.slice x1' mk.doors.length x2') ∧ wq.cell? ⟨mb, mo + k * 3 + 2, none⟩ = some (.slice x3' mk.keys.length x4') ∧ wq.cell? ⟨ob, oo + k, none⟩ = some (.slice y1' ok.length y2')) w9 := ⟨OX9.out.cells, X9.out.cells, FR.out _ B9.out⟩
      clear hio hb9 BW9
      refine hKq7 _ _ (fun _ => hSs) ?_
      clear hS
      have hS := hSs
      try simp only [Act.put, List.setIfInBounds_toArray, List.set_cons_zero, List.set_cons_succ]
      refine wpAnyL_one (i := 8) (oi := { dst := some 30, op := Go.Op.buildSlice 23 1 #[(0, Go.Operand.tmp 29)], type := 23, pos := "l10_worlds.go:171", after := #[{ on := 7, ground := Go.Ground.data }], guard := none }) (by kernel_rfl) rfl (fun Kq8 hKq8 => ?_)
      go_simp
      have hszB : (w9.alloc (.cells #[.slice ia ok.length ic] 39)).heap.size = w9.heap.size + 1 := World.size_alloc _ _
      have hS13 : (fun (wq : World) => (wq.cell? ⟨w.heap.size + 2, 0, none⟩ = some (.slice (some ⟨g7, 0, none⟩) (k + 1) c7) ∧ wq.cell? ⟨w.heap.size + 2, 1, none⟩ = some vb) ∧ (wq.cell? ⟨w.heap.size, 0, none⟩ = some (.slice (some ⟨mb, mo, none⟩) n c) ∧ wq.cell? ⟨w.heap.size, 1, none⟩ = some (.slice (some ⟨ob, oo, none⟩) n d)) ∧ wq.cell? ⟨mb, mo + k * 3, none⟩ = some (.int .i64 mk.size) ∧ wq.cell? ⟨mb, mo + k * 3 + 1, none⟩ = some (.slice x1' mk.doors.length x2') ∧ wq.cell? ⟨mb, mo + k * 3 + 2, none⟩ = some (.slice x3' mk.keys.length x4') ∧ wq.cell? ⟨ob, oo + k, none⟩ = some (.slice y1' ok.length y2')) (w9.alloc (.cells #[.slice ia ok.length ic] 39)) := ⟨(OX9.out.alloc _).cells, (X9.out.alloc _).cells, FR.out _ (B9.out.alloc (B9.out.size) _)⟩
      refine hKq8 _ _ (fun _ => hS13) ?_
      clear hS
      have hS := hS13
      try simp only [List.setIfInBounds_toArray, List.set_cons_zero, List.set_cons_succ]
      refine wpAnyL_one (i := 9) (oi := { dst := some 31, op := Go.Op.call { callee := Go.Callee.builtin Go.Builtin.append, args := #[Go.Operand.tmp 23, Go.Operand.tmp 30], argTypes := #[23, 23] }, type := 23, pos := "l10_worlds.go:171", after := #[{ on := 1, ground := Go.Ground.data }, { on := 8, ground := Go.Ground.data }, { on := 7, ground := Go.Ground.chain }], guard := none }) (by kernel_rfl) rfl (fun Kq9 hKq9 => ?_)
      refine step_append_lies _ rfl _ _ 23 rfl (w.heap.size + 2) 39 is (.slice none 0 0) 1 24 Try.underlying23 his sz0 sz1 sz2 rfl (by decide) vb k (encOs O') rfl (show (w9.alloc (.cells #[.slice ia ok.length ic] 39)).ownsRow _ _ _ _ _ _ from VB9.out.alloc _) ⟨w9.heap.size, 0, none⟩ 1 1 [.slice ia ok.length ic] rfl rfl (cell_one_new w9 _ _) (fun u hu => by simp at hu; subst hu; rfl) (by decide) (by unfold maxLen; omega) (by omega) (by rw [hszB]; omega) _ rfl ?_
      intro g10 c10 w10 hown10 hgrow10 hat10 hlt10
      have VB9a := Lib.hid (show (w9.alloc (.cells #[.slice ia ok.length ic] 39)).ownsRow _ _ _ _ _ _ from VB9.out.alloc _)
      have OX10 := Lib.hid ((OX9.out.alloc (.cells #[.slice ia ok.length ic] 39)).grown hgrow10 (own_ne_b2 VB9a.out (OX9.out.alloc _) (by decide)))
      have X10 := Lib.hid ((X9.out.alloc (.cells #[.slice ia ok.length ic] 39)).grown hgrow10 (own_ne_b2 VB9a.out (X9.out.alloc _) (by decide)))
      have R10 := Lib.hid ((R9.out.alloc (.cells #[.slice ia ok.length ic] 39)).grown hgrow10 (own_ne_b2 VB9a.out (R9.out.alloc _) (by decide)))
      have VA10 := Lib.hid ((show (w9.alloc (.cells #[.slice ia ok.length ic] 39)).ownsRow _ _ _ _ _ _ from VA9.out.alloc _).kept hgrow10 (own_ne_own2 VB9a.out (VA9.out.alloc _) (by decide)))
      have WS10 := Lib.hid (((WS9.out.below (below_alloc w9 _) (Nat.le_refl _)).grownT hgrow10 (fun g e cur V f hf => by rw [own_type VB9a.out g e cur V f hf]; decide)).mono (Nat.le_refl _) (show w9.heap.size ≤ w10.heap.size by have := hgrow10.size; rw [hszB] at this; omega))
      have B10 := Lib.hid ((B9.out.alloc (B9.out.size) _).grown hgrow10 (by rw [hszB]; omega) (fun q hq => Nat.le_trans (Nat.le_add_right _ 2) (own_base VB9a.out q hq)))
      have hsz10 : w9.heap.size + 1 ≤ w10.heap.size := by have := hgrow10.size; rw [hszB] at this; exact this
      have VB10 := Lib.hid hown10
      have hS14 : (fun (wq : World) => (wq.cell? ⟨w.heap.size + 2, 0, none⟩ = some (.slice (some ⟨g7, 0, none⟩) (k + 1) c7) ∧ wq.cell? ⟨w.heap.size + 2, 1, none⟩ = some vb) ∧ (wq.cell? ⟨w.heap.size, 0, none⟩ = some (.slice (some ⟨mb, mo, none⟩) n c) ∧ wq.cell? ⟨w.heap.size, 1, none⟩ = some (.slice (some ⟨ob, oo, none⟩) n d)) ∧ wq.cell? ⟨mb, mo + k * 3, none⟩ = some (.int .i64 mk.size) ∧ wq.cell? ⟨mb, mo + k * 3 + 1, none⟩ = some (.slice x1' mk.doors.length x2') ∧ wq.cell? ⟨mb, mo + k * 3 + 2, none⟩ = some (.slice x3' mk.keys.length x4') ∧ wq.cell? ⟨ob, oo + k, none⟩ = some (.slice y1' ok.length y2')) w10 := ⟨OX10.out.cells, X10.out.cells, FR.out _ B10.out⟩
      refine hKq9 _ _ (fun _ => hS14) ?_
      clear hS
      have hS := hS14
      try simp only [Act.put, List.setIfInBounds_toArray, List.set_cons_zero, List.set_cons_succ]
      refine wpAnyL_take (i := 10) (oi := { dst := some 32, op := Go.Op.fieldAddr 30 (Go.Operand.tmp 3) 1, type := 0, pos := "l10_worlds.go:171", after := #[{ on := 0, ground := Go.Ground.phase }, { on := 1, ground := Go.Ground.phase }, { on := 2, ground := Go.Ground.phase }, { on := 3, ground := Go.Ground.phase }, { on := 4, ground := Go.Ground.phase }, { on := 5, ground := Go.Ground.phase }, { on := 6, ground := Go.Ground.phase }, { on := 7, ground := Go.Ground.phase }, { on := 8, ground := Go.Ground.phase }, { on := 9, ground := Go.Ground.phase }], guard := none }) (v := ?qv10) rfl (by kernel_rfl) (by kernel_rfl) (by kernel_rfl) (by kernel_rfl) (fun _ _ _ h => h) (Or.inl ⟨by rfl, ?qh10⟩) hS ?qr10
      case qh10 => (intro wS hSw; (try dsimp only at hSw); go_split_ands; go_simp; try with_reducible rfl)
      try simp only [Act.put, List.setIfInBounds_toArray, List.set_cons_zero, List.set_cons_succ]
      refine wpAnyL_one (i := 11) (oi := { dst := none, op := Go.Op.store 23 (Go.Operand.tmp 32) (Go.Operand.tmp 31), type := 0, pos := "l10_worlds.go:171", after := #[{ on := 10, ground := Go.Ground.data }, { on := 9, ground := Go.Ground.data }, { on := 9, ground := Go.Ground.chain }, { on := 0, ground := Go.Ground.phase }, { on := 1, ground := Go.Ground.phase }, { on := 2, ground := Go.Ground.phase }, { on := 3, ground := Go.Ground.phase }, { on := 4, ground := Go.Ground.phase }, { on := 5, ground := Go.Ground.phase }, { on := 6, ground := Go.Ground.phase }, { on := 7, ground := Go.Ground.phase }, { on := 8, ground := Go.Ground.phase }, { on := 9, ground := Go.Ground.phase }], guard := none }) (by kernel_rfl) rfl (fun Kq11 hKq11 => ?_)
      obtain ⟨h0, h1'⟩ := OX10.out.free
      obtain ⟨i0', i1'⟩ := OX10.out.cells
      have hol10 := OX10.out.lt
      clear hown10
      go_simp
      refine hKq11 _ _ (fun h => absurd h (by decide)) ?_
      refine wpAnyL_done (by kernel_rfl) ?_ _
      go_wp2_with fail
      have hTE : Turned (w.heap.size + 2) (w.heap.size + 2 + 1) w10 (w10.setCell ⟨w.heap.size + 2, 1, none⟩ (.slice (some ⟨g10, 0, none⟩) (k + 1) c10)) := Turned.setCell _ _ _ _ (Nat.le_refl _) (Nat.lt_succ_self _)
      have hszE : ∀ i u, (w10.setCell i u).heap.size = w10.heap.size := fun i u => by simp [World.setCell]
      go_roundw
      case rel =>
        refine ⟨k + 1, L' ++ [(mk, pa, pc, pb, pd)], O' ++ [(ok, ia, ic)], _, _, (.slice (some ⟨g7, 0, none⟩) (k + 1) c7), (.slice (some ⟨g10, 0, none⟩) (k + 1) c10), by omega, by go_num, by rw [HTK.out, List.map_append, MS.out]; rfl, by rw [HTO.out, List.map_append, OS.out]; rfl, ?_, ?_, (WS10.out.turned hTE (Nat.le_refl _) (.inr (by omega))).mono (Nat.le_refl _) (by rw [hszE]; exact Nat.le_refl _), X10.out.turned hTE (by omega), R10.out.turned hTE (by omega), OX10.out.set1 _, by rw [hszE]; omega, Below.thenTurned B10.out hTE (by omega) (by have := B10.out.size; omega)⟩
        · rw [encMs_append, encMs_one]; exact own_turn1 VA10.out hTE (own_ne_b2 VA10.out OX10.out (by decide))
        · rw [encOs_append]; exact own_turn1 VB10.out hTE (own_ne_b2 VB10.out OX10.out (by decide))
      case measure => simp [intOf]; omega
    · obtain rfl : k = n := by omega
      have HMT := Lib.hid (show L'.map (·.1) = m.mazes from by rw [MS.out, HMS.out, List.take_of_length_le (by rw [HL1.out]; exact Nat.le_refl _)])
      have HOT := Lib.hid (show O'.map (·.1) = m.owners from by rw [OS.out, HOS.out, List.take_of_length_le (by rw [HL2.out]; exact Nat.le_refl _)])
      obtain ⟨ra, rc, rfl, ra1, ra2, rao⟩ := own_slice VA.out
      obtain ⟨sa, sc, rfl, sa1, sa2, sao⟩ := own_slice VB.out
      have RAO := Lib.hid rao
      have SAO := Lib.hid sao
      obtain ⟨f0, f1⟩ := HRX.out.free
      obtain ⟨g0, g1⟩ := HRX.out.cells
      have hrl2 := HRX.out.lt
      clear rao sao
      go_wp2_with fail
      refine bodyPost_ret (v := .agg #[.slice ra k rc, .slice sa k sc]) (by simp [results, Try.results96, go_sem, g0, g1]) rfl ?_
      have hT : ∀ u0 u1, Turned (w.heap.size + 1) (w.heap.size + 1 + 1) wo ((wo.setCell ⟨w.heap.size + 1, 0, none⟩ u0).setCell ⟨w.heap.size + 1, 1, none⟩ u1) := fun u0 u1 => (Turned.setCell _ _ _ _ (by omega) (by omega)).trans (Turned.setCell _ _ _ _ (by omega) (by omega))
      have hT1 := hT (.slice ra k rc) (.slice sa k sc)
      have hsT := hT1.size
      refine ⟨_, _, _, _, by rw [HNM.out, HSA.out], ⟨⟨L', O', RM, RO, HMT.out.symm, HOT.out.symm, (RAO.out.turned hT1 (Nat.le_refl _) (by omega)).mono (by omega) hsT, (SAO.out.turned hT1 (Nat.le_refl _) (by omega)).mono (by omega) hsT, (WS.out.turned hT1 (Nat.le_refl _) (by omega)).mono (by omega) hsT⟩, by rw [HNM.out]; exact ra1, ra2, by rw [HSA.out]; exact sa1, sa2⟩, Below.thenTurned HN.out hT1 (by omega) (by omega)⟩
end C
end Go.Proofs.Ytbcobheiofajeaa
