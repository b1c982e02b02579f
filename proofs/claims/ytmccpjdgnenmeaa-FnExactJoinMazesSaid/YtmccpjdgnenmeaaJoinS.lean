/-
  CONTRACT of spec.JoinMazes: two mazes as one, in memory of its own, or the empty one and false; what lay in memory stays. No condition but that the arguments read so.
-/
import Derived.Test.YtmccpjdgnenmeaaJoinI
import Derived.Test.YtmccpjdgnenmeaaOwnMazK
import Derived.Test.YtmccpjdgnenmeaaAddS
import Derived.Deep.RegionHeld3
import Derived.OwnWalk
namespace Go.Proofs.Ytmccpjdgnenmeaa
open Go.RowKit
namespace M
theorem joinV_kept {a b : Mz} (ha : mazeB a = true) (hb : mazeB b = true) : joinV a b = keptV (joinOf a b) := by
  unfold joinV keptV joinB
  rw [ha, hb]
  rfl
theorem joinB_kept {a b : Mz} (ha : mazeB a = true) (hb : mazeB b = true) : joinB a b = mazeB (joinOf a b) := by
  unfold joinB
  rw [ha, hb]
  rfl
end M
namespace C
set_option maxHeartbeats 3200000
set_option maxRecDepth 20000
theorem Below.allocMore {a w : World} (h : Below a.heap.size a w) (o : Obj) : Below a.heap.size a (w.alloc o) := h.alloc h.size o
theorem Below.szOf {w w' : World} (h : Below w.heap.size w w') : w.heap.size ≤ w'.heap.size := h.size
/-- the maze that is built, in a box of its own, beside the second one's box -/
structure KSt (w : World) (r : M.Mz) (ra rb : Option Addr) (rc rd : Nat) (g B : Nat) (sz : Int) (wr : World) (va : Option Addr) (vc : Nat) (ka : Option Addr) (kc : Nat) (ds : List M.Dr) (ks : List Int) : Prop where
  row : OwnAt B wr.heap.size wr 60 va (M.encDs ds)
  v1 : ds.length ≤ vc
  v2 : vc ≤ 9223372036854775807
  keys : wr.ownsRow B 3 1 (.slice ka ks.length kc) ks.length (M.encIs ks)
  box : Box3 wr (w.heap.size + 1) 27 (.int .i64 r.size) (.slice ra r.doors.length rc) (.slice rb r.keys.length rd)
  res : Box3 wr (w.heap.size + 1 + 1) 27 (.int .i64 0) (.slice none 0 0) (.slice none 0 0)
  out : Box3 wr g 27 (.int .i64 sz) (.slice va ds.length vc) (.slice ka ks.length kc)
  low : Below w.heap.size w wr
theorem KSt.later {w : World} {r : M.Mz} {ra rb : Option Addr} {rc rd g B : Nat} {sz : Int} {wr wr' : World} {va ka : Option Addr} {vc kc : Nat} {ds : List M.Dr} {ks : List Int} (h : KSt w r ra rb rc rd g B sz wr va vc ka kc ds ks) (hb : Below wr.heap.size wr wr') : KSt w r ra rb rc rd g B sz wr' va vc ka kc ds ks :=
  ⟨(h.row.below hb (Nat.le_refl _)).mono (Nat.le_refl _) hb.size, h.v1, h.v2, own_below h.keys hb, h.box.below hb, h.res.below hb, h.out.below hb, h.low.trans (hb.mono h.low.size)⟩
theorem ki_grownRow {lo hi B size n : Nat} {w w' : World} {T e : TypeId} {a : Option Addr} {xs ys : List Value} {v : Value} (h : OwnAt lo hi w T a xs) (ho : w.ownsRow B e size v n ys) (hne : e ≠ T) (hg : w.grownBy w' v.ownBlock) : OwnAt lo hi w' T a xs := by
  rcases h with h | ⟨g, off, cur, ha, h1, h2, hh, hc⟩
  · exact .inl h
  · refine .inr ⟨g, off, cur, ha, h1, h2, (hg.block g (heap_lt hh) ?_).trans hh, hc⟩
    intro he
    rcases ho.2 with ⟨rfl, _⟩ | ⟨g', cap', cur', rfl, _, hh', _⟩
    · simp [Value.ownBlock] at he
    · have : g' = g := by simpa [Value.ownBlock] using he.symm
      subst this
      rw [hh] at hh'
      injection hh' with hh'
      injection hh' with _ ht
      exact hne ht.symm
theorem specJoin_lw (w : World) (lo hi : Nat) (m : M.Mz) (a b : Option Addr) (c d : Nat) (h : MzIn lo hi w m a c b d) (hz : hi ≤ w.heap.size) (h1 : m.doors.length ≤ 1048576) (h2 : m.keys.length ≤ 1048576) (lo' hi' : Nat) (r : M.Mz) (ra rb : Option Addr) (rc rd : Nat) (h' : MzIn lo' hi' w r ra rc rb rd) (hz' : hi' ≤ w.heap.size) (_h1' : r.doors.length ≤ 1048576) (_h2' : r.keys.length ≤ 1048576) :
    Calls Try.prog 35 #[.agg #[.int .i64 m.size, .slice a m.doors.length c, .slice b m.keys.length d], .agg #[.int .i64 r.size, .slice ra r.doors.length rc, .slice rb r.keys.length rd]] w (MzOkPost w (M.joinV m r) (M.joinB m r)) := by
  obtain ⟨j0, hj0, hy0, hy1, hy2⟩ := info_parts infoI
  have H := Lib.hid h
  have H' := Lib.hid h'
  clear h h'
  go_enter Try.func35, Try.ntmps35
  go_wp2_with fail
  refine named ?_
  intro W hW
  have hb : Below w.heap.size w W := by rw [hW]; exact ((below_alloc _ _).alloc (by simp) _).alloc (by simp; omega) _
  have x1 : Box3 W w.heap.size 27 (.int .i64 m.size) (.slice a m.doors.length c) (.slice b m.keys.length d) := by rw [hW]; exact ((Box3.new _ _ _ _ rfl).alloc _).alloc _
  have r1 : Box3 W (w.heap.size + 1) 27 (.int .i64 r.size) (.slice ra r.doors.length rc) (.slice rb r.keys.length rd) := by rw [hW]; exact (Box3.new _ _ _ _ (by simp)).alloc _
  have y1 : Box3 W (w.heap.size + 1 + 1) 27 (.int .i64 0) (.slice none 0 0) (.slice none 0 0) := by rw [hW]; exact Box3.new _ _ _ _ (by simp)
  clear hW
  have hzw := hb.size
  refine (specMaze_any W lo hi m a b c d (H.out.below hb hz) (by omega)).mono ?_
  rintro e w1 ⟨rfl, hb1⟩
  have X1 := Lib.hid (x1.below hb1)
  have R1 := Lib.hid (r1.below hb1)
  have Y1 := Lib.hid (y1.below hb1)
  have hbl := Y1.out.lt
  have HB1 := Lib.hid (hb.trans (hb1.mono hzw))
  have hz1w := hb1.size
  clear hb hb1 x1 r1 y1
  obtain ⟨c0, c1, c2⟩ := X1.out.cells
  obtain ⟨r0, r1, r2⟩ := R1.out.cells
  obtain ⟨k0, k1, k2⟩ := Y1.out.cells
  obtain ⟨f0, f1, f2⟩ := Y1.out.free
  cases q0 : M.mazeB m with
  | false =>
    have HF : Hid (M.joinB m r = false) := Lib.hid (by unfold M.joinB; rw [q0]; rfl)
    have HV := Lib.hid (M.joinV_no HF.out)
    clear q0
    go_wp2_with fail
    refine bodyPost_ret (v := .tuple #[.agg #[.int .i64 0, .slice none 0 0, .slice none 0 0], .bool false]) (by simp [results, Try.results35, go_sem, k0, k1, k2]) rfl ?_
    rw [HF.out, HV.out]
    exact mzNo_endAt HB1.out (by omega)
  | true =>
    have HQ := Lib.hid q0
    have HVA := Lib.hid (M.valid_of q0)
    clear q0
    go_wp2_with fail
    refine (specMaze_any w1 lo' hi' r ra rb rc rd (H'.out.below HB1.out hz') (by omega)).mono ?_
    rintro e w2 ⟨rfl, hb2⟩
    have X2 := Lib.hid (X1.out.below hb2)
    have R2 := Lib.hid (R1.out.below hb2)
    have Y2 := Lib.hid (Y1.out.below hb2)
    have HB2 := Lib.hid (HB1.out.trans (hb2.mono (by omega)))
    have hz2w := hb2.size
    have hbl2 := Y2.out.lt
    have hxl2 := X2.out.lt
    have hrl2 := R2.out.lt
    clear hb2 c0 c1 c2 r0 r1 r2 k0 k1 k2 f0 f1 f2
    obtain ⟨c0, c1, c2⟩ := X2.out.cells
    obtain ⟨r0, r1, r2⟩ := R2.out.cells
    obtain ⟨k0, k1, k2⟩ := Y2.out.cells
    obtain ⟨f0, f1, f2⟩ := Y2.out.free
    cases q1 : M.mazeB r with
    | false =>
      have HF : Hid (M.joinB m r = false) := Lib.hid (by unfold M.joinB; rw [HQ.out, q1]; rfl)
      have HV := Lib.hid (M.joinV_no HF.out)
      clear q1
      go_wp2_with fail
      refine bodyPost_ret (v := .tuple #[.agg #[.int .i64 0, .slice none 0 0, .slice none 0 0], .bool false]) (by simp [results, Try.results35, go_sem, k0, k1, k2]) rfl ?_
      rw [HF.out, HV.out]
      exact mzNo_endAt HB2.out (by omega)
    | true =>
      have HVB := Lib.hid (M.valid_of q1)
      have HF := Lib.hid (M.joinB_kept HQ.out q1)
      have HV := Lib.hid (M.joinV_kept HQ.out q1)
      have hdl := HVA.out.few
      have hdl' := HVB.out.few
      have hs12 := HVA.out.size12
      have hs1 := HVA.out.size1
      have hs12' := HVB.out.size12
      have hs1' := HVB.out.size1
      have hkl := HVA.out.keysLen
      have hkl' := HVB.out.keysLen
      have hzb := HB2.out.size
      obtain ⟨sh, hsh⟩ : ∃ sh : Nat, m.size - 1 = (sh : Int) := ⟨(m.size - 1).toNat, by omega⟩
      have hshn : (m.size - 1).toNat = sh := by omega
      have hsh12 : sh < 12 := by omega
      have hshk : sh < m.keys.length := by omega
      have hkl1 : 1 ≤ r.keys.length := by omega
      have hkl12 : r.keys.length ≤ 12 := by omega
      have hkl0 : 0 < r.keys.length := by omega
      have hkl1J : (1 : Int) ≤ (r.keys.length : Int) := by omega
      have hmk12 : m.keys.length ≤ 12 := by omega
      have hwm : IntKind.i64.wrap (m.size - 1) = m.size - 1 := IntWalk.i64_in _ (by omega)
      have HSH := Lib.hid hsh
      have HSHN := Lib.hid hshn
      have OK := Lib.hid (fun W' (hq : Below w2.heap.size w2 W') => l2Ownk_any W' lo hi m a b c d (H.out.below (HB2.out.trans (hq.mono (by omega))) hz) (by have := hq.size; omega) h1 h2)
      have SX : ∀ wq, Below w2.heap.size w2 wq → (wq.cell? ⟨w.heap.size, 0, none⟩ = some (.int .i64 m.size) ∧ wq.cell? ⟨w.heap.size, 1, none⟩ = some (.slice a m.doors.length c) ∧ wq.cell? ⟨w.heap.size, 2, none⟩ = some (.slice b m.keys.length d)) := fun wq hq => (X2.out.below hq).cells
      clear q1 hkl hkl' hsh hshn
      go_upto_region 3 with fail
      go_cut [6, 7] (fun s6 s7 wx => ∃ g va vc ka kc, s6 = .pointer (some ⟨g, 0, none⟩) ∧ s7 = .int .i64 (sh : Int) ∧ w2.heap.size ≤ g ∧ KSt w r ra rb rc rd g w2.heap.size m.size wx va vc ka kc m.doors m.keys ∧ Box3 wx w.heap.size 27 (.int .i64 m.size) (.slice a m.doors.length c) (.slice b m.keys.length d))
      case first =>
        go_region_held3 (fun wq => wq.cell? ⟨w.heap.size, 0, none⟩ = some (.int .i64 m.size) ∧ wq.cell? ⟨w.heap.size, 1, none⟩ = some (.slice a m.doors.length c) ∧ wq.cell? ⟨w.heap.size, 2, none⟩ = some (.slice b m.keys.length d)) (first | exact ⟨c0, c1, c2⟩ | exact ⟨d0, d1, d2⟩ | exact SX _ hbr | exact SX _ (hbr.alloc hbs _) | exact SX _ (((hbr.setCell (p := ⟨w2.heap.size, 0, none⟩) (Nat.le_refl _) _).setCell (p := ⟨w2.heap.size, 1, none⟩) (Nat.le_refl _) _).setCell (p := ⟨w2.heap.size, 2, none⟩) (Nat.le_refl _) _) | exact SX _ ((((hbr.alloc hbs _).setCell (p := ⟨w5.heap.size, 0, none⟩) hbs _).setCell (p := ⟨w5.heap.size, 1, none⟩) hbs _).setCell (p := ⟨w5.heap.size, 2, none⟩) hbs _) | (refine SX _ ?_; repeat (first | exact Below.refl _ _ | refine Below.drew ?_ | refine Below.alloc ?_ (by first | exact Nat.le_refl _ | (simp; done) | (simp; omega)) _)) | go_keep) (first
          | (go_at_call 75
             first
             | (refine (OK.out _ (Below.refl w2.heap.size w2).drew).mono ?_; rintro e w5 ⟨oa, oc, ob, od, rfl, hoa, hov1, hov2, hok, hb5⟩; have hbq := (Below.refl w2.heap.size w2).drew; have hbr : Below w2.heap.size w2 w5 := hbq.trans (hb5.mono hbq.size); obtain ⟨d0, d1, d2⟩ := (X2.out.below hbr).cells; have hbs := hbr.size)
             | (refine (OK.out _ ((Below.refl w2.heap.size w2).drew.alloc (Nat.le_refl _) _)).mono ?_; rintro e w5 ⟨oa, oc, ob, od, rfl, hoa, hov1, hov2, hok, hb5⟩; have hbq := ((Below.refl w2.heap.size w2).drew.alloc (Nat.le_refl _) (.cells #[.int .i64 0, .slice none 0 0, .slice none 0 0] 27)); have hbr : Below w2.heap.size w2 w5 := hbq.trans (hb5.mono hbq.size); obtain ⟨d0, d1, d2⟩ := (X2.out.below hbr).cells; have hbs := hbr.size; have tq := (Box3.new (w := w2.drew) (g := w2.heap.size) 27 (.int .i64 0) (.slice none 0 0) (.slice none 0 0) rfl).below hb5; obtain ⟨g0, g1, g2⟩ := tq.free; obtain ⟨e0, e1, e2⟩ := tq.cells; have hgl := tq.lt)))
        all_goals
          go_wp2_with fail
          go_meet
          first
          | exact ⟨w5.heap.size, oa, oc, ob, od, rfl, by rw [HSH.out], by omega, ⟨(hoa.below (below_alloc _ _) (Nat.le_refl _)).mono (Nat.le_refl _) (by simp), hov1, hov2, hok.alloc _, (R2.out.below hbr).alloc _, (Y2.out.below hbr).alloc _, Box3.new _ _ _ _ rfl, (HB2.out.trans (hbr.mono hzb)).alloc (by omega) _⟩, (X2.out.below hbr).alloc _⟩
          | exact ⟨w2.heap.size, oa, oc, ob, od, rfl, by rw [HSH.out], Nat.le_refl _, ⟨(hoa.turned (Turned.set3 w2.heap.size _ _ _) (Nat.le_refl _) (.inr (by simp))).mono (by simp) (by simp [World.setCell]), hov1, hov2, own_weaken (own_turned hok (Turned.set3 w2.heap.size _ _ _) (by simp)) (by simp), (R2.out.below hbr).turned (Turned.set3 w2.heap.size _ _ _) (.inl (by omega)), (Y2.out.below hbr).turned (Turned.set3 w2.heap.size _ _ _) (.inl (by omega)), tq.setAll _ _ _, Below.thenTurned (HB2.out.trans (hbr.mono hzb)) (Turned.set3 w2.heap.size _ _ _) (by omega) (by omega)⟩, (X2.out.below hbr).turned (Turned.set3 w2.heap.size _ _ _) (.inl (by omega))⟩
      case rest =>
        obtain ⟨g, va, vc, ka, kc, rfl, rfl, hgB, hst4, hx4⟩ := hcut
        have ST4 := Lib.hid hst4
        obtain ⟨kg, hkg⟩ := own_addr hst4.keys (by omega)
        subst hkg
        have hzr4 := hst4.low.size
        have hgl4 := hst4.out.lt
        have hg3 : w.heap.size + 1 + 1 < g := by omega
        have hrl4 := hst4.box.lt
        have X4 := Lib.hid hx4
        obtain ⟨c0, _, _⟩ := hx4.cells
        obtain ⟨r0, r1, r2⟩ := hst4.box.cells
        obtain ⟨t0, t1, t2⟩ := hst4.out.cells
        obtain ⟨u0, u1, u2⟩ := hst4.out.free
        clear hst4 hx4
        go_wp2_with fail
        refine wp_named ?_
        intro W5 hW5
        have hst5 : ∃ sz : Int, sz = (M.joinOf m r).size ∧ KSt w r ra rb rc rd g w2.heap.size sz W5 va vc (some ⟨kg, 0, none⟩) kc m.doors m.keys := by
          rw [hW5]
          exact ⟨_, by show _ = m.size + r.size - 1; omega, (ST4.out.row.boxed ST4.out.out (by decide) 0 _).mono (Nat.le_refl _) (by simp [World.setCell]), ST4.out.v1, ST4.out.v2, own_setBox ST4.out.keys ST4.out.out (by decide) 0 _, ST4.out.box.other (by omega) 0 _, ST4.out.res.other (by omega) 0 _, ST4.out.out.set0 _, ST4.out.low.setCell (p := ⟨g, 0, none⟩) (by show w.heap.size ≤ g; omega) _⟩
        obtain ⟨sz, hsz, st5⟩ := hst5
        have HSZ := Lib.hid hsz
        have ST5 := Lib.hid st5
        obtain ⟨rkb, rkoff, hrk, _, hrkb, hc0⟩ := (H'.out.keys.below st5.low hz').at_ (k := 0) (by rw [M.encIs_len]; omega)
        subst hrk
        obtain ⟨v1, hv1⟩ : ∃ v, m.keys.getD sh 0 = v := ⟨_, rfl⟩
        obtain ⟨v2, hv2⟩ : ∃ v, r.keys.getD 0 0 = v := ⟨_, rfl⟩
        have p1 : W5.cell? ⟨kg, sh, none⟩ = some (.int .i64 v1) := by
          rw [st5.keys.cellAt sh (by omega), M.encIs_at hshk, ← hv1, List.getD_eq_getElem?_getD, List.getElem?_eq_getElem hshk]; rfl
        have p2 : W5.cell? ⟨rkb, rkoff, none⟩ = some (.int .i64 v2) := by
          have := hc0 0 _ (M.encIs_at (l := r.keys) (k := 0) (by omega))
          rw [← hv2, List.getD_eq_getElem?_getD, List.getElem?_eq_getElem (by omega)]
          exact this
        have pf := st5.keys.frozenAt sh
        have HV1 := Lib.hid hv1
        have HV2 := Lib.hid hv2
        clear c0 r0 r1 r2 t0 t1 t2 u0 u1 u2 hc0
        obtain ⟨t0, t1, t2⟩ := st5.out.cells
        obtain ⟨r0, r1, r2⟩ := st5.box.cells
        have hzr5 := st5.low.size
        have hshI : (sh : Int) < (m.keys.length : Int) := by omega
        have hkl1I : (0 : Int) < (r.keys.length : Int) := by omega
        clear hW5 st5 hsz hv1 hv2
        refine wp_region_late2 (fun wq => wq.cell? ⟨g, 2, none⟩ = some (.slice (some ⟨kg, 0, none⟩) m.keys.length kc) ∧ wq.cell? ⟨kg, sh, none⟩ = some (.int .i64 v1) ∧ wq.cell? ⟨w.heap.size + 1, 2, none⟩ = some (.slice (some ⟨rkb, rkoff, none⟩) r.keys.length rd) ∧ wq.cell? ⟨rkb, rkoff, none⟩ = some (.int .i64 v2)) [14] 15 #[false, false, false, false, false, false, false, false, false, false, false, false, false, false, false] rfl rfl (by kernel_rfl) ?_
        have hS : (fun wq => wq.cell? ⟨g, 2, none⟩ = some (.slice (some ⟨kg, 0, none⟩) m.keys.length kc) ∧ wq.cell? ⟨kg, sh, none⟩ = some (.int .i64 v1) ∧ wq.cell? ⟨w.heap.size + 1, 2, none⟩ = some (.slice (some ⟨rkb, rkoff, none⟩) r.keys.length rd) ∧ wq.cell? ⟨rkb, rkoff, none⟩ = some (.int .i64 v2)) W5.drew := ⟨t2, p1, r2, p2⟩
        refine wpAnyL_take (i := 0) (oi := { dst := some 30, op := Go.Op.fieldAddr 27 (Go.Operand.tmp 6) 2, type := 0, pos := "l2_mazes.go:276", after := #[], guard := none }) (v := ?av0) rfl (by kernel_rfl) (by kernel_rfl) (by kernel_rfl) (by kernel_rfl) (fun _ _ _ h => h) (Or.inl ⟨by rfl, ?ah0⟩) hS ?ar0
        case ah0 => (intro wS hSw; (try dsimp only at hSw); go_split_ands; go_simp; try with_reducible rfl)
        try simp only [Act.put, List.setIfInBounds_toArray, List.set_cons_zero, List.set_cons_succ]
        refine wpAnyL_take (i := 1) (oi := { dst := some 31, op := Go.Op.load 25 (Go.Operand.tmp 30), type := 25, pos := "l2_mazes.go:276", after := #[{ on := 0, ground := Go.Ground.data }], guard := none }) (v := ?av1) rfl (by kernel_rfl) (by kernel_rfl) (by kernel_rfl) (by kernel_rfl) (fun _ _ _ h => h) (Or.inl ⟨by rfl, ?ah1⟩) hS ?ar1
        case ah1 => (intro wS hSw; (try dsimp only at hSw); go_split_ands; go_simp; try with_reducible rfl)
        try simp only [Act.put, List.setIfInBounds_toArray, List.set_cons_zero, List.set_cons_succ]
        refine wpAnyL_take (i := 2) (oi := { dst := some 32, op := Go.Op.move (Go.Operand.tmp 7), type := 3, pos := "l2_mazes.go:276", after := #[], guard := none }) (v := ?av2) rfl (by kernel_rfl) (by kernel_rfl) (by kernel_rfl) (by kernel_rfl) (fun _ _ _ h => h) (Or.inl ⟨by rfl, ?ah2⟩) hS ?ar2
        case ah2 => (intro wS hSw; (try dsimp only at hSw); go_split_ands; go_simp; try with_reducible rfl)
        try simp only [Act.put, List.setIfInBounds_toArray, List.set_cons_zero, List.set_cons_succ]
        refine wpAnyL_take (i := 3) (oi := { dst := some 33, op := Go.Op.fieldAddr 27 (Go.Operand.tmp 6) 2, type := 0, pos := "l2_mazes.go:276", after := #[], guard := none }) (v := ?av3) rfl (by kernel_rfl) (by kernel_rfl) (by kernel_rfl) (by kernel_rfl) (fun _ _ _ h => h) (Or.inl ⟨by rfl, ?ah3⟩) hS ?ar3
        case ah3 => (intro wS hSw; (try dsimp only at hSw); go_split_ands; go_simp; try with_reducible rfl)
        try simp only [Act.put, List.setIfInBounds_toArray, List.set_cons_zero, List.set_cons_succ]
        refine wpAnyL_take (i := 4) (oi := { dst := some 34, op := Go.Op.load 25 (Go.Operand.tmp 33), type := 25, pos := "l2_mazes.go:276", after := #[{ on := 3, ground := Go.Ground.data }], guard := none }) (v := ?av4) rfl (by kernel_rfl) (by kernel_rfl) (by kernel_rfl) (by kernel_rfl) (fun _ _ _ h => h) (Or.inl ⟨by rfl, ?ah4⟩) hS ?ar4
        case ah4 => (intro wS hSw; (try dsimp only at hSw); go_split_ands; go_simp; try with_reducible rfl)
        try simp only [Act.put, List.setIfInBounds_toArray, List.set_cons_zero, List.set_cons_succ]
        refine wpAnyL_take (i := 5) (oi := { dst := some 35, op := Go.Op.move (Go.Operand.tmp 7), type := 3, pos := "l2_mazes.go:276", after := #[], guard := none }) (v := ?av5) rfl (by kernel_rfl) (by kernel_rfl) (by kernel_rfl) (by kernel_rfl) (fun _ _ _ h => h) (Or.inl ⟨by rfl, ?ah5⟩) hS ?ar5
        case ah5 => (intro wS hSw; (try dsimp only at hSw); go_split_ands; go_simp; try with_reducible rfl)
        try simp only [Act.put, List.setIfInBounds_toArray, List.set_cons_zero, List.set_cons_succ]
        refine wpAnyL_take (i := 6) (oi := { dst := some 36, op := Go.Op.indexAddr 25 (Go.Operand.tmp 34) (Go.Operand.tmp 35), type := 0, pos := "l2_mazes.go:276", after := #[{ on := 4, ground := Go.Ground.data }, { on := 5, ground := Go.Ground.data }], guard := none }) (v := ?av6) rfl (by kernel_rfl) (by kernel_rfl) (by kernel_rfl) (by kernel_rfl) (fun _ _ _ h => h) (Or.inl ⟨by rfl, ?ah6⟩) hS ?ar6
        case ah6 => (intro wS hSw; (try dsimp only at hSw); go_split_ands; go_simp; try with_reducible rfl)
        try simp only [Act.put, List.setIfInBounds_toArray, List.set_cons_zero, List.set_cons_succ]
        refine wpAnyL_take (i := 7) (oi := { dst := some 37, op := Go.Op.load 3 (Go.Operand.tmp 36), type := 3, pos := "l2_mazes.go:276", after := #[{ on := 6, ground := Go.Ground.data }], guard := none }) (v := ?av7) rfl (by kernel_rfl) (by kernel_rfl) (by kernel_rfl) (by kernel_rfl) (fun _ _ _ h => h) (Or.inl ⟨by rfl, ?ah7⟩) hS ?ar7
        case ah7 => (intro wS hSw; (try dsimp only at hSw); go_split_ands; go_simp; try with_reducible rfl)
        try simp only [Act.put, List.setIfInBounds_toArray, List.set_cons_zero, List.set_cons_succ]
        refine wpAnyL_take (i := 8) (oi := { dst := some 38, op := Go.Op.fieldAddr 27 (Go.Operand.tmp 3) 2, type := 0, pos := "l2_mazes.go:276", after := #[], guard := none }) (v := ?av8) rfl (by kernel_rfl) (by kernel_rfl) (by kernel_rfl) (by kernel_rfl) (fun _ _ _ h => h) (Or.inl ⟨by rfl, ?ah8⟩) hS ?ar8
        case ah8 => (intro wS hSw; (try dsimp only at hSw); go_split_ands; go_simp; try with_reducible rfl)
        try simp only [Act.put, List.setIfInBounds_toArray, List.set_cons_zero, List.set_cons_succ]
        refine wpAnyL_take (i := 9) (oi := { dst := some 39, op := Go.Op.load 25 (Go.Operand.tmp 38), type := 25, pos := "l2_mazes.go:276", after := #[{ on := 8, ground := Go.Ground.data }], guard := none }) (v := ?av9) rfl (by kernel_rfl) (by kernel_rfl) (by kernel_rfl) (by kernel_rfl) (fun _ _ _ h => h) (Or.inl ⟨by rfl, ?ah9⟩) hS ?ar9
        case ah9 => (intro wS hSw; (try dsimp only at hSw); go_split_ands; go_simp; try with_reducible rfl)
        try simp only [Act.put, List.setIfInBounds_toArray, List.set_cons_zero, List.set_cons_succ]
        refine wpAnyL_take (i := 10) (oi := { dst := some 40, op := Go.Op.indexAddr 25 (Go.Operand.tmp 39) (Go.Operand.const (Go.Value.int Go.IntKind.i64 0)), type := 0, pos := "l2_mazes.go:276", after := #[{ on := 9, ground := Go.Ground.data }], guard := none }) (v := ?av10) rfl (by kernel_rfl) (by kernel_rfl) (by kernel_rfl) (by kernel_rfl) (fun _ _ _ h => h) (Or.inl ⟨by rfl, ?ah10⟩) hS ?ar10
        case ah10 => (intro wS hSw; (try dsimp only at hSw); go_split_ands; go_simp; try with_reducible rfl)
        try simp only [Act.put, List.setIfInBounds_toArray, List.set_cons_zero, List.set_cons_succ]
        refine wpAnyL_take (i := 11) (oi := { dst := some 41, op := Go.Op.load 3 (Go.Operand.tmp 40), type := 3, pos := "l2_mazes.go:276", after := #[{ on := 10, ground := Go.Ground.data }], guard := none }) (v := ?av11) rfl (by kernel_rfl) (by kernel_rfl) (by kernel_rfl) (by kernel_rfl) (fun _ _ _ h => h) (Or.inl ⟨by rfl, ?ah11⟩) hS ?ar11
        case ah11 => (intro wS hSw; (try dsimp only at hSw); go_split_ands; go_simp; try with_reducible rfl)
        try simp only [Act.put, List.setIfInBounds_toArray, List.set_cons_zero, List.set_cons_succ]
        refine wpAnyL_take (i := 12) (oi := { dst := some 42, op := Go.Op.binOp Go.BinOp.or 3 (Go.Operand.tmp 37) (Go.Operand.tmp 41) 3, type := 3, pos := "l2_mazes.go:276", after := #[{ on := 7, ground := Go.Ground.data }, { on := 11, ground := Go.Ground.data }], guard := none }) (v := ?av12) rfl (by kernel_rfl) (by kernel_rfl) (by kernel_rfl) (by kernel_rfl) (fun _ _ _ h => h) (Or.inl ⟨by rfl, ?ah12⟩) hS ?ar12
        case ah12 => (intro wS hSw; (try dsimp only at hSw); go_split_ands; go_simp; try with_reducible rfl)
        try simp only [Act.put, List.setIfInBounds_toArray, List.set_cons_zero, List.set_cons_succ]
        refine wpAnyL_take (i := 13) (oi := { dst := some 43, op := Go.Op.indexAddr 25 (Go.Operand.tmp 31) (Go.Operand.tmp 32), type := 0, pos := "l2_mazes.go:276", after := #[{ on := 1, ground := Go.Ground.data }, { on := 2, ground := Go.Ground.data }, { on := 0, ground := Go.Ground.phase }, { on := 1, ground := Go.Ground.phase }, { on := 2, ground := Go.Ground.phase }, { on := 3, ground := Go.Ground.phase }, { on := 4, ground := Go.Ground.phase }, { on := 5, ground := Go.Ground.phase }, { on := 6, ground := Go.Ground.phase }, { on := 7, ground := Go.Ground.phase }, { on := 8, ground := Go.Ground.phase }, { on := 9, ground := Go.Ground.phase }, { on := 10, ground := Go.Ground.phase }, { on := 11, ground := Go.Ground.phase }, { on := 12, ground := Go.Ground.phase }], guard := none }) (v := ?av13) rfl (by kernel_rfl) (by kernel_rfl) (by kernel_rfl) (by kernel_rfl) (fun _ _ _ h => h) (Or.inl ⟨by rfl, ?ah13⟩) hS ?ar13
        case ah13 => (intro wS hSw; (try dsimp only at hSw); go_split_ands; go_simp; try with_reducible rfl)
        try simp only [Act.put, List.setIfInBounds_toArray, List.set_cons_zero, List.set_cons_succ]
        refine wpAnyL_one (i := 14) (oi := { dst := none, op := Go.Op.store 3 (Go.Operand.tmp 43) (Go.Operand.tmp 42), type := 0, pos := "l2_mazes.go:276", after := #[{ on := 13, ground := Go.Ground.data }, { on := 12, ground := Go.Ground.data }, { on := 0, ground := Go.Ground.phase }, { on := 1, ground := Go.Ground.phase }, { on := 2, ground := Go.Ground.phase }, { on := 3, ground := Go.Ground.phase }, { on := 4, ground := Go.Ground.phase }, { on := 5, ground := Go.Ground.phase }, { on := 6, ground := Go.Ground.phase }, { on := 7, ground := Go.Ground.phase }, { on := 8, ground := Go.Ground.phase }, { on := 9, ground := Go.Ground.phase }, { on := 10, ground := Go.Ground.phase }, { on := 11, ground := Go.Ground.phase }, { on := 12, ground := Go.Ground.phase }], guard := none }) (by kernel_rfl) rfl (fun K2 hK2 => ?_)
        go_simp
        refine hK2 _ _ (fun h => absurd h (by decide)) ?_
        refine wpAnyL_done (by kernel_rfl) ?_ _
        have hst6 : KSt w r ra (some ⟨rkb, rkoff, none⟩) rc rd g w2.heap.size sz (W5.setCell ⟨kg, sh, none⟩ (.int .i64 (bits .or .i64 v1 v2))) va vc (some ⟨kg, 0, none⟩) kc m.doors (m.keys.set sh (bits .or .i64 v1 v2)) := by
          have HK1 := ST5.out.keys.stored sh (.int .i64 (bits .or .i64 v1 v2))
          exact ⟨(ki_grownRow ST5.out.row ST5.out.keys (by decide) HK1.2).mono (Nat.le_refl _) (by simp [World.setCell]), ST5.out.v1, ST5.out.v2, by rw [List.length_set, encIs_set]; exact HK1.1, ST5.out.box.grown HK1.2 (own_ne_box ST5.out.keys ST5.out.box (by decide)), ST5.out.res.grown HK1.2 (own_ne_box ST5.out.keys ST5.out.res (by decide)),
            by rw [List.length_set]; exact ST5.out.out.grown HK1.2 (own_ne_box ST5.out.keys ST5.out.out (by decide)), ST5.out.low.setCell (p := ⟨kg, sh, none⟩) (by have := own_base ST5.out.keys kg rfl; show w.heap.size ≤ kg; omega) _⟩
        have ST6' := Lib.hid (hst6.later (Below.refl _ _).drew)
        obtain ⟨ks1, hks1⟩ : ∃ ks1, m.keys.set sh (bits .or .i64 v1 v2) = ks1 := ⟨_, rfl⟩
        rw [hks1] at ST6'
        have hk1l : ks1.length ≤ 12 := by rw [← hks1, List.length_set]; omega
        have HKS : Hid (ks1 ++ r.keys.drop 1 = M.joinKs m r) := Lib.hid (by unfold M.joinKs; rw [HSHN.out, HV1.out, HV2.out, hks1])
        clear hst6 hks1 t0 t1 t2 r0 r1 r2 p1 p2 pf
        go_upto_region 6 with fail
        refine wp_named ?_
        intro W6 hW6
        have ST6 : Hid (KSt w r ra (some ⟨rkb, rkoff, none⟩) rc rd g w2.heap.size sz W6 va vc (some ⟨kg, 0, none⟩) kc m.doors ks1) := Lib.hid (by rw [hW6]; exact ST6'.out)
        clear hW6 ST6'
        have hc0 : ∀ i u, (M.encIs r.keys)[i]? = some u → W6.cell? ⟨rkb, rkoff + i, none⟩ = some u := by
          obtain ⟨b', off', e, _, _, hh⟩ := (H'.out.keys.below ST6.out.low hz').at_ (k := 0) (by rw [M.encIs_len]; omega)
          injection e with e
          injection e with e1 e2 _
          subst e1; subst e2
          exact hh
        have HC6 := Lib.hid hc0
        have hrd1 := H'.out.d1
        have hrd2 := H'.out.d2
        obtain ⟨t0, t1, t2⟩ := ST6.out.out.cells
        obtain ⟨r0, r1, r2⟩ := ST6.out.box.cells
        have hz6 := ST6.out.low.size
        have hrl6 := ST6.out.box.lt
        have hgl6 := ST6.out.out.lt
        have S7 := Lib.hid (ST6.out.later (Below.refl _ _).drew)
        have hdz : W6.drew.heap.size = W6.heap.size := rfl
        clear hc0
        go_cut [49] (fun _ wx => ∃ ka kc, KSt w r ra (some ⟨rkb, rkoff, none⟩) rc rd g w2.heap.size sz wx va vc ka kc m.doors (M.joinKs m r))
        case first =>
          by_cases hcap : rd = 1
          · have HL1 : Hid (r.keys.length = 1) := Lib.hid (by omega)
            subst hcap
            refine wp_region_late2 (fun wq => wq.cell? ⟨g, 2, none⟩ = some (.slice (some ⟨kg, 0, none⟩) ks1.length kc) ∧ wq.cell? ⟨w.heap.size + 1, 2, none⟩ = some (.slice (some ⟨rkb, rkoff, none⟩) r.keys.length 1)) [7] 8 #[false, false, false, false, false, false, false, false] rfl rfl (by kernel_rfl) ?_
            have hS : (fun wq => wq.cell? ⟨g, 2, none⟩ = some (.slice (some ⟨kg, 0, none⟩) ks1.length kc) ∧ wq.cell? ⟨w.heap.size + 1, 2, none⟩ = some (.slice (some ⟨rkb, rkoff, none⟩) r.keys.length 1)) W6.drew := ⟨t2, r2⟩
            refine wpAnyL_take (i := 0) (oi := { dst := some 44, op := Go.Op.fieldAddr 27 (Go.Operand.tmp 6) 2, type := 0, pos := "l2_mazes.go:277", after := #[], guard := none }) (v := ?kAv0) rfl (by kernel_rfl) (by kernel_rfl) (by kernel_rfl) (by kernel_rfl) (fun _ _ _ h => h) (Or.inl ⟨by rfl, ?kAh0⟩) hS ?kAr0
            case kAh0 => (intro wS hSw; (try dsimp only at hSw); go_split_ands; go_simp; try with_reducible rfl)
            try simp only [Act.put, List.setIfInBounds_toArray, List.set_cons_zero, List.set_cons_succ]
            refine wpAnyL_take (i := 1) (oi := { dst := some 45, op := Go.Op.load 25 (Go.Operand.tmp 44), type := 25, pos := "l2_mazes.go:277", after := #[{ on := 0, ground := Go.Ground.data }], guard := none }) (v := ?kAv1) rfl (by kernel_rfl) (by kernel_rfl) (by kernel_rfl) (by kernel_rfl) (fun _ _ _ h => h) (Or.inl ⟨by rfl, ?kAh1⟩) hS ?kAr1
            case kAh1 => (intro wS hSw; (try dsimp only at hSw); go_split_ands; go_simp; try with_reducible rfl)
            try simp only [Act.put, List.setIfInBounds_toArray, List.set_cons_zero, List.set_cons_succ]
            refine wpAnyL_take (i := 2) (oi := { dst := some 46, op := Go.Op.fieldAddr 27 (Go.Operand.tmp 3) 2, type := 0, pos := "l2_mazes.go:277", after := #[], guard := none }) (v := ?kAv2) rfl (by kernel_rfl) (by kernel_rfl) (by kernel_rfl) (by kernel_rfl) (fun _ _ _ h => h) (Or.inl ⟨by rfl, ?kAh2⟩) hS ?kAr2
            case kAh2 => (intro wS hSw; (try dsimp only at hSw); go_split_ands; go_simp; try with_reducible rfl)
            try simp only [Act.put, List.setIfInBounds_toArray, List.set_cons_zero, List.set_cons_succ]
            refine wpAnyL_take (i := 3) (oi := { dst := some 47, op := Go.Op.load 25 (Go.Operand.tmp 46), type := 25, pos := "l2_mazes.go:277", after := #[{ on := 2, ground := Go.Ground.data }], guard := none }) (v := ?kAv3) rfl (by kernel_rfl) (by kernel_rfl) (by kernel_rfl) (by kernel_rfl) (fun _ _ _ h => h) (Or.inl ⟨by rfl, ?kAh3⟩) hS ?kAr3
            case kAh3 => (intro wS hSw; (try dsimp only at hSw); go_split_ands; go_simp; try with_reducible rfl)
            try simp only [Act.put, List.setIfInBounds_toArray, List.set_cons_zero, List.set_cons_succ]
            refine wpAnyL_take (i := 4) (oi := { dst := some 48, op := Go.Op.slice 25 (Go.Operand.tmp 47) (some (Go.Operand.const (Go.Value.int Go.IntKind.i64 1))) none none, type := 25, pos := "l2_mazes.go:277", after := #[{ on := 3, ground := Go.Ground.data }], guard := none }) (v := ?kAv4) rfl (by kernel_rfl) (by kernel_rfl) (by kernel_rfl) (by kernel_rfl) (fun _ _ _ h => h) (Or.inl ⟨by rfl, ?kAh4⟩) hS ?kAr4
            case kAh4 => (intro wS hSw; (try dsimp only at hSw); go_split_ands; go_simp; try with_reducible rfl)
            try simp only [Act.put, List.setIfInBounds_toArray, List.set_cons_zero, List.set_cons_succ]
            refine wpAnyL_one (i := 5) (oi := { dst := some 49, op := Go.Op.call { callee := Go.Callee.builtin Go.Builtin.append, args := #[Go.Operand.tmp 45, Go.Operand.tmp 48], argTypes := #[25, 25] }, type := 25, pos := "l2_mazes.go:277", after := #[{ on := 1, ground := Go.Ground.data }, { on := 4, ground := Go.Ground.data }], guard := none }) (by kernel_rfl) rfl (fun K3 hK3 => ?_)
            refine step_append_own rfl (.tmp 45) (.tmp 48) 25 rfl w2.heap.size 3 j0 (.int .i64 0) 1 8 Try.underlying25 hj0 hy0 hy1 hy2 rfl (by decide) _ _ _ S7.out.keys (by first | (simp [Act.eval]; done) | simp [Act.eval, Act.put]) ⟨rkb, rkoff, none⟩ 0 0 [] (by first | (simp [Act.eval]; done) | simp [Act.eval, Act.put]) rfl (fun j u hj => by simp at hj) (fun x hx => by cases hx) (by unfold maxLen; omega) (by omega) (by omega) ?_
            intro v6 w6 hown6 hgrow6 hnil6
            obtain ⟨ka2, kc2, hka2, _, _, _⟩ := own_slice hown6
            subst hka2
            have bx6 := S7.out.out.grown hgrow6 (own_ne_box S7.out.keys S7.out.out (by decide))
            have rx6 := S7.out.box.grown hgrow6 (own_ne_box S7.out.keys S7.out.box (by decide))
            have yx6 := S7.out.res.grown hgrow6 (own_ne_box S7.out.keys S7.out.res (by decide))
            have ro6 := ki_grownRow S7.out.row S7.out.keys (by decide) hgrow6
            have hs6 := hgrow6.size
            have hS7 : (fun wq => wq.cell? ⟨g, 2, none⟩ = some (.slice (some ⟨kg, 0, none⟩) ks1.length kc) ∧ wq.cell? ⟨w.heap.size + 1, 2, none⟩ = some (.slice (some ⟨rkb, rkoff, none⟩) r.keys.length 1)) w6 := ⟨bx6.cells.2.2, rx6.cells.2.2⟩
            refine hK3 _ _ (fun _ => hS7) ?_
            clear hS
            have hS := hS7
            try simp only [Act.put, List.setIfInBounds_toArray, List.set_cons_zero, List.set_cons_succ]
            refine wpAnyL_take (i := 6) (oi := { dst := some 50, op := Go.Op.fieldAddr 27 (Go.Operand.tmp 6) 2, type := 0, pos := "l2_mazes.go:277", after := #[{ on := 0, ground := Go.Ground.phase }, { on := 1, ground := Go.Ground.phase }, { on := 2, ground := Go.Ground.phase }, { on := 3, ground := Go.Ground.phase }, { on := 4, ground := Go.Ground.phase }, { on := 5, ground := Go.Ground.phase }], guard := none }) (v := ?eAv6) rfl (by kernel_rfl) (by kernel_rfl) (by kernel_rfl) (by kernel_rfl) (fun _ _ _ h => h) (Or.inl ⟨by rfl, ?eAh6⟩) hS ?eAr6
            case eAh6 => (intro wS hSw; (try dsimp only at hSw); go_split_ands; go_simp; try with_reducible rfl)
            try simp only [Act.put, List.setIfInBounds_toArray, List.set_cons_zero, List.set_cons_succ]
            obtain ⟨b0, b1, b2⟩ := bx6.cells
            obtain ⟨g0, g1, g2⟩ := bx6.free
            have hl6 := bx6.lt
            have hke : M.encIs ks1 ++ [] = M.encIs (M.joinKs m r) := by rw [← HKS.out, M.encIs_append, List.drop_of_length_le (by have := HL1.out; omega)]; rfl
            have hkn : ks1.length + 0 = (M.joinKs m r).length := by rw [← HKS.out, List.length_append, List.length_drop, HL1.out]
            have hnew : KSt w r ra (some ⟨rkb, rkoff, none⟩) rc 1 g w2.heap.size sz (w6.setCell ⟨g, 2, none⟩ (.slice ka2 (ks1.length + 0) kc2)) va vc ka2 kc2 m.doors (M.joinKs m r) :=
              ⟨(ro6.boxed bx6 (by decide) 2 _).mono (Nat.le_refl _) (by simp [World.setCell] at hs6 ⊢; omega), ST6.out.v1, ST6.out.v2, by rw [← hkn, ← hke]; exact own_setBox hown6 bx6 (by decide) 2 _, rx6.other (by omega) 2 _, yx6.other (by omega) 2 _, by rw [← hkn]; exact bx6.set2 _, (S7.out.low.grown hgrow6 (by omega) (fun q hq => by have := own_base S7.out.keys q hq; omega)).setCell (p := ⟨g, 2, none⟩) (by show w.heap.size ≤ g; omega) _⟩
            have HNEW := Lib.hid hnew
            clear hnew rx6 yx6 ro6 bx6 hS7 hS hown6 hgrow6 hnil6 hke hkn
            refine wpAnyL_one (i := 7) (oi := { dst := none, op := Go.Op.store 25 (Go.Operand.tmp 50) (Go.Operand.tmp 49), type := 0, pos := "l2_mazes.go:277", after := #[{ on := 6, ground := Go.Ground.data }, { on := 5, ground := Go.Ground.data }, { on := 5, ground := Go.Ground.chain }, { on := 0, ground := Go.Ground.phase }, { on := 1, ground := Go.Ground.phase }, { on := 2, ground := Go.Ground.phase }, { on := 3, ground := Go.Ground.phase }, { on := 4, ground := Go.Ground.phase }, { on := 5, ground := Go.Ground.phase }], guard := none }) (by kernel_rfl) rfl (fun K4 hK4 => ?_)
            go_simp
            refine hK4 _ _ (fun h => absurd h (by decide)) ?_
            refine wpAnyL_done (by kernel_rfl) ?_ _
            go_wp2_with fail
            go_meet
            exact ⟨_, _, HNEW.out⟩
          · have hcap2 : 1 < rd := by omega
            refine wp_region_late2 (fun wq => wq.cell? ⟨g, 2, none⟩ = some (.slice (some ⟨kg, 0, none⟩) ks1.length kc) ∧ wq.cell? ⟨w.heap.size + 1, 2, none⟩ = some (.slice (some ⟨rkb, rkoff, none⟩) r.keys.length rd)) [7] 8 #[false, false, false, false, false, false, false, false] rfl rfl (by kernel_rfl) ?_
            have hS : (fun wq => wq.cell? ⟨g, 2, none⟩ = some (.slice (some ⟨kg, 0, none⟩) ks1.length kc) ∧ wq.cell? ⟨w.heap.size + 1, 2, none⟩ = some (.slice (some ⟨rkb, rkoff, none⟩) r.keys.length rd)) W6.drew := ⟨t2, r2⟩
            refine wpAnyL_take (i := 0) (oi := { dst := some 44, op := Go.Op.fieldAddr 27 (Go.Operand.tmp 6) 2, type := 0, pos := "l2_mazes.go:277", after := #[], guard := none }) (v := ?kBv0) rfl (by kernel_rfl) (by kernel_rfl) (by kernel_rfl) (by kernel_rfl) (fun _ _ _ h => h) (Or.inl ⟨by rfl, ?kBh0⟩) hS ?kBr0
            case kBh0 => (intro wS hSw; (try dsimp only at hSw); go_split_ands; go_simp; try with_reducible rfl)
            try simp only [Act.put, List.setIfInBounds_toArray, List.set_cons_zero, List.set_cons_succ]
            refine wpAnyL_take (i := 1) (oi := { dst := some 45, op := Go.Op.load 25 (Go.Operand.tmp 44), type := 25, pos := "l2_mazes.go:277", after := #[{ on := 0, ground := Go.Ground.data }], guard := none }) (v := ?kBv1) rfl (by kernel_rfl) (by kernel_rfl) (by kernel_rfl) (by kernel_rfl) (fun _ _ _ h => h) (Or.inl ⟨by rfl, ?kBh1⟩) hS ?kBr1
            case kBh1 => (intro wS hSw; (try dsimp only at hSw); go_split_ands; go_simp; try with_reducible rfl)
            try simp only [Act.put, List.setIfInBounds_toArray, List.set_cons_zero, List.set_cons_succ]
            refine wpAnyL_take (i := 2) (oi := { dst := some 46, op := Go.Op.fieldAddr 27 (Go.Operand.tmp 3) 2, type := 0, pos := "l2_mazes.go:277", after := #[], guard := none }) (v := ?kBv2) rfl (by kernel_rfl) (by kernel_rfl) (by kernel_rfl) (by kernel_rfl) (fun _ _ _ h => h) (Or.inl ⟨by rfl, ?kBh2⟩) hS ?kBr2
            case kBh2 => (intro wS hSw; (try dsimp only at hSw); go_split_ands; go_simp; try with_reducible rfl)
            try simp only [Act.put, List.setIfInBounds_toArray, List.set_cons_zero, List.set_cons_succ]
            refine wpAnyL_take (i := 3) (oi := { dst := some 47, op := Go.Op.load 25 (Go.Operand.tmp 46), type := 25, pos := "l2_mazes.go:277", after := #[{ on := 2, ground := Go.Ground.data }], guard := none }) (v := ?kBv3) rfl (by kernel_rfl) (by kernel_rfl) (by kernel_rfl) (by kernel_rfl) (fun _ _ _ h => h) (Or.inl ⟨by rfl, ?kBh3⟩) hS ?kBr3
            case kBh3 => (intro wS hSw; (try dsimp only at hSw); go_split_ands; go_simp; try with_reducible rfl)
            try simp only [Act.put, List.setIfInBounds_toArray, List.set_cons_zero, List.set_cons_succ]
            refine wpAnyL_take (i := 4) (oi := { dst := some 48, op := Go.Op.slice 25 (Go.Operand.tmp 47) (some (Go.Operand.const (Go.Value.int Go.IntKind.i64 1))) none none, type := 25, pos := "l2_mazes.go:277", after := #[{ on := 3, ground := Go.Ground.data }], guard := none }) (v := ?kBv4) rfl (by kernel_rfl) (by kernel_rfl) (by kernel_rfl) (by kernel_rfl) (fun _ _ _ h => h) (Or.inl ⟨by rfl, ?kBh4⟩) hS ?kBr4
            case kBh4 => (intro wS hSw; (try dsimp only at hSw); go_split_ands; go_simp; try with_reducible rfl)
            try simp only [Act.put, List.setIfInBounds_toArray, List.set_cons_zero, List.set_cons_succ]
            refine wpAnyL_one (i := 5) (oi := { dst := some 49, op := Go.Op.call { callee := Go.Callee.builtin Go.Builtin.append, args := #[Go.Operand.tmp 45, Go.Operand.tmp 48], argTypes := #[25, 25] }, type := 25, pos := "l2_mazes.go:277", after := #[{ on := 1, ground := Go.Ground.data }, { on := 4, ground := Go.Ground.data }], guard := none }) (by kernel_rfl) rfl (fun K3 hK3 => ?_)
            refine step_append_own rfl (.tmp 45) (.tmp 48) 25 rfl w2.heap.size 3 j0 (.int .i64 0) 1 8 Try.underlying25 hj0 hy0 hy1 hy2 rfl (by decide) _ _ _ S7.out.keys (by first | (simp [Act.eval]; done) | simp [Act.eval, Act.put]) ⟨rkb, rkoff + 1, none⟩ (r.keys.length - 1) (rd - 1) (M.encIs (r.keys.drop 1)) (by first | (simp [Act.eval]; done) | simp [Act.eval, Act.put]) (by rw [M.encIs_len, List.length_drop, Nat.mul_one]) (fun j u hj => by rw [cell_add, show rkoff + 1 + j = rkoff + (j + 1) by omega]; exact HC6.out (j + 1) u (by rw [← hj]; unfold M.encIs; rw [List.getElem?_map, List.getElem?_map, List.getElem?_drop, Nat.add_comm 1 j])) (fun x hx => by unfold M.encIs at hx; obtain ⟨z, _, rfl⟩ := List.mem_map.1 hx; rfl) (by unfold maxLen; omega) (by omega) (by omega) ?_
            intro v6 w6 hown6 hgrow6 hnil6
            obtain ⟨ka2, kc2, hka2, _, _, _⟩ := own_slice hown6
            subst hka2
            have bx6 := S7.out.out.grown hgrow6 (own_ne_box S7.out.keys S7.out.out (by decide))
            have rx6 := S7.out.box.grown hgrow6 (own_ne_box S7.out.keys S7.out.box (by decide))
            have yx6 := S7.out.res.grown hgrow6 (own_ne_box S7.out.keys S7.out.res (by decide))
            have ro6 := ki_grownRow S7.out.row S7.out.keys (by decide) hgrow6
            have hs6 := hgrow6.size
            have hS7 : (fun wq => wq.cell? ⟨g, 2, none⟩ = some (.slice (some ⟨kg, 0, none⟩) ks1.length kc) ∧ wq.cell? ⟨w.heap.size + 1, 2, none⟩ = some (.slice (some ⟨rkb, rkoff, none⟩) r.keys.length rd)) w6 := ⟨bx6.cells.2.2, rx6.cells.2.2⟩
            refine hK3 _ _ (fun _ => hS7) ?_
            clear hS
            have hS := hS7
            try simp only [Act.put, List.setIfInBounds_toArray, List.set_cons_zero, List.set_cons_succ]
            refine wpAnyL_take (i := 6) (oi := { dst := some 50, op := Go.Op.fieldAddr 27 (Go.Operand.tmp 6) 2, type := 0, pos := "l2_mazes.go:277", after := #[{ on := 0, ground := Go.Ground.phase }, { on := 1, ground := Go.Ground.phase }, { on := 2, ground := Go.Ground.phase }, { on := 3, ground := Go.Ground.phase }, { on := 4, ground := Go.Ground.phase }, { on := 5, ground := Go.Ground.phase }], guard := none }) (v := ?eBv6) rfl (by kernel_rfl) (by kernel_rfl) (by kernel_rfl) (by kernel_rfl) (fun _ _ _ h => h) (Or.inl ⟨by rfl, ?eBh6⟩) hS ?eBr6
            case eBh6 => (intro wS hSw; (try dsimp only at hSw); go_split_ands; go_simp; try with_reducible rfl)
            try simp only [Act.put, List.setIfInBounds_toArray, List.set_cons_zero, List.set_cons_succ]
            obtain ⟨b0, b1, b2⟩ := bx6.cells
            obtain ⟨g0, g1, g2⟩ := bx6.free
            have hl6 := bx6.lt
            have hke : M.encIs ks1 ++ (M.encIs (r.keys.drop 1)) = M.encIs (M.joinKs m r) := by rw [← HKS.out, M.encIs_append]
            have hkn : ks1.length + (r.keys.length - 1) = (M.joinKs m r).length := by rw [← HKS.out, List.length_append, List.length_drop]
            have hnew : KSt w r ra (some ⟨rkb, rkoff, none⟩) rc rd g w2.heap.size sz (w6.setCell ⟨g, 2, none⟩ (.slice ka2 (ks1.length + (r.keys.length - 1)) kc2)) va vc ka2 kc2 m.doors (M.joinKs m r) :=
              ⟨(ro6.boxed bx6 (by decide) 2 _).mono (Nat.le_refl _) (by simp [World.setCell] at hs6 ⊢; omega), ST6.out.v1, ST6.out.v2, by rw [← hkn, ← hke]; exact own_setBox hown6 bx6 (by decide) 2 _, rx6.other (by omega) 2 _, yx6.other (by omega) 2 _, by rw [← hkn]; exact bx6.set2 _, (S7.out.low.grown hgrow6 (by omega) (fun q hq => by have := own_base S7.out.keys q hq; omega)).setCell (p := ⟨g, 2, none⟩) (by show w.heap.size ≤ g; omega) _⟩
            have HNEW := Lib.hid hnew
            clear hnew rx6 yx6 ro6 bx6 hS7 hS hown6 hgrow6 hnil6 hke hkn
            refine wpAnyL_one (i := 7) (oi := { dst := none, op := Go.Op.store 25 (Go.Operand.tmp 50) (Go.Operand.tmp 49), type := 0, pos := "l2_mazes.go:277", after := #[{ on := 6, ground := Go.Ground.data }, { on := 5, ground := Go.Ground.data }, { on := 5, ground := Go.Ground.chain }, { on := 0, ground := Go.Ground.phase }, { on := 1, ground := Go.Ground.phase }, { on := 2, ground := Go.Ground.phase }, { on := 3, ground := Go.Ground.phase }, { on := 4, ground := Go.Ground.phase }, { on := 5, ground := Go.Ground.phase }], guard := none }) (by kernel_rfl) rfl (fun K4 hK4 => ?_)
            go_simp
            refine hK4 _ _ (fun h => absurd h (by decide)) ?_
            refine wpAnyL_done (by kernel_rfl) ?_ _
            go_wp2_with fail
            go_meet
            exact ⟨_, _, HNEW.out⟩
        case rest =>
          obtain ⟨ka, kc, hst7⟩ := hcut
          have ST8 := Lib.hid hst7
          have hxl8 := hst7.box.lt
          have hz8 := hst7.low.size
          clear hst7 t0 t1 t2 r0 r1 r2
          go_wp2_with fail
          go_loopw [8] (fun i wr => ∃ (k : Nat) (va : Option Addr) (vc : Nat), k ≤ r.doors.length ∧ i = .int .i64 k ∧ KSt w r ra (some ⟨rkb, rkoff, none⟩) rc rd g w2.heap.size sz wr va vc ka kc (M.joinDs m r k) (M.joinKs m r)) (fun i _ => r.doors.length - (intOf i).toNat)
          case atStart => exact ⟨0, va, vc, Nat.zero_le _, rfl, by rw [M.joinDs_zero]; exact ST8.out⟩
          case round =>
            obtain ⟨k, va, vc, hk, rfl, hst⟩ := hrel
            have SR := Lib.hid hst
            have hzr := hst.low.size
            have hol := hst.out.lt
            have hxl := hst.box.lt
            have hdn : (M.joinDs m r k).length ≤ 60 := by rw [M.joinDs_len hk]; omega
            obtain ⟨r0, r1, r2⟩ := hst.box.cells
            clear hst
            by_cases hlt : k < r.doors.length
            · obtain ⟨db, off, hda, _, hdb, hc0⟩ := (H'.out.doors.below SR.out.low hz').at_ (k := k * 3) (by rw [M.encDs_len]; omega)
              subst hda
              obtain ⟨q1, q2, q3, q4, q5, q6, q7⟩ := HVB.out.door k hlt
              have hsu := M.join_put HVA.out HVB.out hlt
              rw [HSH.out] at hsu
              have hdo : M.doorOf (r.doors[k].1 + (sh : Int)) (r.doors[k].2.1 + (sh : Int)) r.doors[k].2.2 = (min (r.doors[k].1 + (sh : Int)) (r.doors[k].2.1 + (sh : Int)), max (r.doors[k].1 + (sh : Int)) (r.doors[k].2.1 + (sh : Int)), r.doors[k].2.2) := rfl
              rw [hdo] at hsu
              obtain ⟨x1, hx1⟩ : ∃ x, r.doors[k].1 = x := ⟨_, rfl⟩
              obtain ⟨x2, hx2⟩ : ∃ x, r.doors[k].2.1 = x := ⟨_, rfl⟩
              obtain ⟨nd, hnd⟩ : ∃ x, r.doors[k].2.2 = x := ⟨_, rfl⟩
              have P0 : Hid (wr.cell? ⟨db, off + k * 3, none⟩ = some (.int .i64 x1)) := Lib.hid (by rw [← hx1]; exact hc0 _ _ (M.encDs_at0 hlt))
              have P1 : Hid (wr.cell? ⟨db, off + k * 3 + 1, none⟩ = some (.int .i64 x2)) := Lib.hid (by rw [← hx2]; exact hc0 _ _ (M.encDs_at1 hlt))
              have P2 : Hid (wr.cell? ⟨db, off + k * 3 + 2, none⟩ = some (.int .i64 nd)) := Lib.hid (by rw [← hnd]; exact hc0 _ _ (M.encDs_at2 hlt))
              rw [hx1, hx2, hnd] at hsu
              rw [hx1] at q1 q2
              rw [hx2] at q3 q4
              have HSU := Lib.hid hsu
              have hltI : (k : Int) < (r.doors.length : Int) := by omega
              have hw1 : IntKind.i64.wrap (x1 + (sh : Int)) = x1 + (sh : Int) := IntWalk.i64_in _ (by omega)
              have hw2 : IntKind.i64.wrap (x2 + (sh : Int)) = x2 + (sh : Int) := IntWalk.i64_in _ (by omega)
              clear hc0 hdo hsu hx1 hx2 hnd q5 q6 q7
              generalize hDS : M.joinDs m r k = ds at *
              clear hDS
              have hdb2 : db < wr.heap.size := by omega
              obtain ⟨b0, b1, b2⟩ := SR.out.out.cells
              have PA := Lib.hid (fun W' (hq : Below wr.heap.size wr W') => put_any W' w2.heap.size wr.heap.size va vc ds (x1 + (sh : Int)) (x2 + (sh : Int)) nd (SR.out.row.below hq (Nat.le_refl _)) hq.size (by have := hq.size; omega) (by omega) SR.out.v1 SR.out.v2)
              go_wp2_with fail
              refine wp_region_late2 (fun wq => wq.cell? ⟨g, 1, none⟩ = some (.slice va ds.length vc) ∧ wq.cell? ⟨w.heap.size + 1, 1, none⟩ = some (.slice (some ⟨db, off, none⟩) r.doors.length rc) ∧ wq.cell? ⟨db, off + k * 3, none⟩ = some (.int .i64 x1) ∧ wq.cell? ⟨db, off + k * 3 + 1, none⟩ = some (.int .i64 x2) ∧ wq.cell? ⟨db, off + k * 3 + 2, none⟩ = some (.int .i64 nd)) [26] 27 #[false, false, false, false, false, false, false, false, false, false, false, false, false, false, false, false, false, false, false, false, false, false, false, false, false, false, false] rfl rfl (by kernel_rfl) ?_
              have hS : (fun wq => wq.cell? ⟨g, 1, none⟩ = some (.slice va ds.length vc) ∧ wq.cell? ⟨w.heap.size + 1, 1, none⟩ = some (.slice (some ⟨db, off, none⟩) r.doors.length rc) ∧ wq.cell? ⟨db, off + k * 3, none⟩ = some (.int .i64 x1) ∧ wq.cell? ⟨db, off + k * 3 + 1, none⟩ = some (.int .i64 x2) ∧ wq.cell? ⟨db, off + k * 3 + 2, none⟩ = some (.int .i64 nd)) wr.drew := ⟨b1, r1, P0.out, P1.out, P2.out⟩
              refine wpAnyL_take (i := 0) (oi := { dst := some 58, op := Go.Op.fieldAddr 27 (Go.Operand.tmp 6) 1, type := 0, pos := "l2_mazes.go:279", after := #[], guard := none }) (v := ?dv0) rfl (by kernel_rfl) (by kernel_rfl) (by kernel_rfl) (by kernel_rfl) (fun _ _ _ h => h) (Or.inl ⟨by rfl, ?dh0⟩) hS ?dr0
              case dh0 => (intro wS hSw; (try dsimp only at hSw); go_split_ands; go_simp; try with_reducible rfl)
              try simp only [Act.put, List.setIfInBounds_toArray, List.set_cons_zero, List.set_cons_succ]
              refine wpAnyL_take (i := 1) (oi := { dst := some 59, op := Go.Op.load 24 (Go.Operand.tmp 58), type := 24, pos := "l2_mazes.go:279", after := #[{ on := 0, ground := Go.Ground.data }], guard := none }) (v := ?dv1) rfl (by kernel_rfl) (by kernel_rfl) (by kernel_rfl) (by kernel_rfl) (fun _ _ _ h => h) (Or.inl ⟨by rfl, ?dh1⟩) hS ?dr1
              case dh1 => (intro wS hSw; (try dsimp only at hSw); go_split_ands; go_simp; try with_reducible rfl)
              try simp only [Act.put, List.setIfInBounds_toArray, List.set_cons_zero, List.set_cons_succ]
              refine wpAnyL_take (i := 2) (oi := { dst := some 60, op := Go.Op.fieldAddr 27 (Go.Operand.tmp 3) 1, type := 0, pos := "l2_mazes.go:279", after := #[], guard := none }) (v := ?dv2) rfl (by kernel_rfl) (by kernel_rfl) (by kernel_rfl) (by kernel_rfl) (fun _ _ _ h => h) (Or.inl ⟨by rfl, ?dh2⟩) hS ?dr2
              case dh2 => (intro wS hSw; (try dsimp only at hSw); go_split_ands; go_simp; try with_reducible rfl)
              try simp only [Act.put, List.setIfInBounds_toArray, List.set_cons_zero, List.set_cons_succ]
              refine wpAnyL_take (i := 3) (oi := { dst := some 61, op := Go.Op.load 24 (Go.Operand.tmp 60), type := 24, pos := "l2_mazes.go:279", after := #[{ on := 2, ground := Go.Ground.data }], guard := none }) (v := ?dv3) rfl (by kernel_rfl) (by kernel_rfl) (by kernel_rfl) (by kernel_rfl) (fun _ _ _ h => h) (Or.inl ⟨by rfl, ?dh3⟩) hS ?dr3
              case dh3 => (intro wS hSw; (try dsimp only at hSw); go_split_ands; go_simp; try with_reducible rfl)
              try simp only [Act.put, List.setIfInBounds_toArray, List.set_cons_zero, List.set_cons_succ]
              refine wpAnyL_take (i := 4) (oi := { dst := some 62, op := Go.Op.move (Go.Operand.tmp 8), type := 3, pos := "l2_mazes.go:279", after := #[], guard := none }) (v := ?dv4) rfl (by kernel_rfl) (by kernel_rfl) (by kernel_rfl) (by kernel_rfl) (fun _ _ _ h => h) (Or.inl ⟨by rfl, ?dh4⟩) hS ?dr4
              case dh4 => (intro wS hSw; (try dsimp only at hSw); go_split_ands; go_simp; try with_reducible rfl)
              try simp only [Act.put, List.setIfInBounds_toArray, List.set_cons_zero, List.set_cons_succ]
              refine wpAnyL_take (i := 5) (oi := { dst := some 63, op := Go.Op.indexAddr 24 (Go.Operand.tmp 61) (Go.Operand.tmp 62), type := 0, pos := "l2_mazes.go:279", after := #[{ on := 3, ground := Go.Ground.data }, { on := 4, ground := Go.Ground.data }], guard := none }) (v := ?dv5) rfl (by kernel_rfl) (by kernel_rfl) (by kernel_rfl) (by kernel_rfl) (fun _ _ _ h => h) (Or.inl ⟨by rfl, ?dh5⟩) hS ?dr5
              case dh5 => (intro wS hSw; (try dsimp only at hSw); go_split_ands; go_simp; try with_reducible rfl)
              try simp only [Act.put, List.setIfInBounds_toArray, List.set_cons_zero, List.set_cons_succ]
              refine wpAnyL_take (i := 6) (oi := { dst := some 64, op := Go.Op.indexAddr 60 (Go.Operand.tmp 63) (Go.Operand.const (Go.Value.int Go.IntKind.i64 0)), type := 0, pos := "l2_mazes.go:279", after := #[{ on := 5, ground := Go.Ground.data }], guard := none }) (v := ?dv6) rfl (by kernel_rfl) (by kernel_rfl) (by kernel_rfl) (by kernel_rfl) (fun _ _ _ h => h) (Or.inl ⟨by rfl, ?dh6⟩) hS ?dr6
              case dh6 => (intro wS hSw; (try dsimp only at hSw); go_split_ands; go_simp; try with_reducible rfl)
              try simp only [Act.put, List.setIfInBounds_toArray, List.set_cons_zero, List.set_cons_succ]
              refine wpAnyL_take (i := 7) (oi := { dst := some 65, op := Go.Op.load 3 (Go.Operand.tmp 64), type := 3, pos := "l2_mazes.go:279", after := #[{ on := 6, ground := Go.Ground.data }], guard := none }) (v := ?dv7) rfl (by kernel_rfl) (by kernel_rfl) (by kernel_rfl) (by kernel_rfl) (fun _ _ _ h => h) (Or.inl ⟨by rfl, ?dh7⟩) hS ?dr7
              case dh7 => (intro wS hSw; (try dsimp only at hSw); go_split_ands; go_simp; try with_reducible rfl)
              try simp only [Act.put, List.setIfInBounds_toArray, List.set_cons_zero, List.set_cons_succ]
              refine wpAnyL_take (i := 8) (oi := { dst := some 66, op := Go.Op.move (Go.Operand.tmp 7), type := 3, pos := "l2_mazes.go:279", after := #[], guard := none }) (v := ?dv8) rfl (by kernel_rfl) (by kernel_rfl) (by kernel_rfl) (by kernel_rfl) (fun _ _ _ h => h) (Or.inl ⟨by rfl, ?dh8⟩) hS ?dr8
              case dh8 => (intro wS hSw; (try dsimp only at hSw); go_split_ands; go_simp; try with_reducible rfl)
              try simp only [Act.put, List.setIfInBounds_toArray, List.set_cons_zero, List.set_cons_succ]
              refine wpAnyL_take (i := 9) (oi := { dst := some 67, op := Go.Op.binOp Go.BinOp.add 3 (Go.Operand.tmp 65) (Go.Operand.tmp 66) 3, type := 3, pos := "l2_mazes.go:279", after := #[{ on := 7, ground := Go.Ground.data }, { on := 8, ground := Go.Ground.data }], guard := none }) (v := ?dv9) rfl (by kernel_rfl) (by kernel_rfl) (by kernel_rfl) (by kernel_rfl) (fun _ _ _ h => h) (Or.inl ⟨by rfl, ?dh9⟩) hS ?dr9
              case dh9 => (intro wS hSw; (try dsimp only at hSw); go_split_ands; go_simp; try with_reducible rfl)
              try simp only [Act.put, List.setIfInBounds_toArray, List.set_cons_zero, List.set_cons_succ]
              refine wpAnyL_take (i := 10) (oi := { dst := some 68, op := Go.Op.fieldAddr 27 (Go.Operand.tmp 3) 1, type := 0, pos := "l2_mazes.go:279", after := #[], guard := none }) (v := ?dv10) rfl (by kernel_rfl) (by kernel_rfl) (by kernel_rfl) (by kernel_rfl) (fun _ _ _ h => h) (Or.inl ⟨by rfl, ?dh10⟩) hS ?dr10
              case dh10 => (intro wS hSw; (try dsimp only at hSw); go_split_ands; go_simp; try with_reducible rfl)
              try simp only [Act.put, List.setIfInBounds_toArray, List.set_cons_zero, List.set_cons_succ]
              refine wpAnyL_take (i := 11) (oi := { dst := some 69, op := Go.Op.load 24 (Go.Operand.tmp 68), type := 24, pos := "l2_mazes.go:279", after := #[{ on := 10, ground := Go.Ground.data }], guard := none }) (v := ?dv11) rfl (by kernel_rfl) (by kernel_rfl) (by kernel_rfl) (by kernel_rfl) (fun _ _ _ h => h) (Or.inl ⟨by rfl, ?dh11⟩) hS ?dr11
              case dh11 => (intro wS hSw; (try dsimp only at hSw); go_split_ands; go_simp; try with_reducible rfl)
              try simp only [Act.put, List.setIfInBounds_toArray, List.set_cons_zero, List.set_cons_succ]
              refine wpAnyL_take (i := 12) (oi := { dst := some 70, op := Go.Op.move (Go.Operand.tmp 8), type := 3, pos := "l2_mazes.go:279", after := #[], guard := none }) (v := ?dv12) rfl (by kernel_rfl) (by kernel_rfl) (by kernel_rfl) (by kernel_rfl) (fun _ _ _ h => h) (Or.inl ⟨by rfl, ?dh12⟩) hS ?dr12
              case dh12 => (intro wS hSw; (try dsimp only at hSw); go_split_ands; go_simp; try with_reducible rfl)
              try simp only [Act.put, List.setIfInBounds_toArray, List.set_cons_zero, List.set_cons_succ]
              refine wpAnyL_take (i := 13) (oi := { dst := some 71, op := Go.Op.indexAddr 24 (Go.Operand.tmp 69) (Go.Operand.tmp 70), type := 0, pos := "l2_mazes.go:279", after := #[{ on := 11, ground := Go.Ground.data }, { on := 12, ground := Go.Ground.data }], guard := none }) (v := ?dv13) rfl (by kernel_rfl) (by kernel_rfl) (by kernel_rfl) (by kernel_rfl) (fun _ _ _ h => h) (Or.inl ⟨by rfl, ?dh13⟩) hS ?dr13
              case dh13 => (intro wS hSw; (try dsimp only at hSw); go_split_ands; go_simp; try with_reducible rfl)
              try simp only [Act.put, List.setIfInBounds_toArray, List.set_cons_zero, List.set_cons_succ]
              refine wpAnyL_take (i := 14) (oi := { dst := some 72, op := Go.Op.indexAddr 60 (Go.Operand.tmp 71) (Go.Operand.const (Go.Value.int Go.IntKind.i64 1)), type := 0, pos := "l2_mazes.go:279", after := #[{ on := 13, ground := Go.Ground.data }], guard := none }) (v := ?dv14) rfl (by kernel_rfl) (by kernel_rfl) (by kernel_rfl) (by kernel_rfl) (fun _ _ _ h => h) (Or.inl ⟨by rfl, ?dh14⟩) hS ?dr14
              case dh14 => (intro wS hSw; (try dsimp only at hSw); go_split_ands; go_simp; try with_reducible rfl)
              try simp only [Act.put, List.setIfInBounds_toArray, List.set_cons_zero, List.set_cons_succ]
              refine wpAnyL_take (i := 15) (oi := { dst := some 73, op := Go.Op.load 3 (Go.Operand.tmp 72), type := 3, pos := "l2_mazes.go:279", after := #[{ on := 14, ground := Go.Ground.data }], guard := none }) (v := ?dv15) rfl (by kernel_rfl) (by kernel_rfl) (by kernel_rfl) (by kernel_rfl) (fun _ _ _ h => h) (Or.inl ⟨by rfl, ?dh15⟩) hS ?dr15
              case dh15 => (intro wS hSw; (try dsimp only at hSw); go_split_ands; go_simp; try with_reducible rfl)
              try simp only [Act.put, List.setIfInBounds_toArray, List.set_cons_zero, List.set_cons_succ]
              refine wpAnyL_take (i := 16) (oi := { dst := some 74, op := Go.Op.move (Go.Operand.tmp 7), type := 3, pos := "l2_mazes.go:279", after := #[], guard := none }) (v := ?dv16) rfl (by kernel_rfl) (by kernel_rfl) (by kernel_rfl) (by kernel_rfl) (fun _ _ _ h => h) (Or.inl ⟨by rfl, ?dh16⟩) hS ?dr16
              case dh16 => (intro wS hSw; (try dsimp only at hSw); go_split_ands; go_simp; try with_reducible rfl)
              try simp only [Act.put, List.setIfInBounds_toArray, List.set_cons_zero, List.set_cons_succ]
              refine wpAnyL_take (i := 17) (oi := { dst := some 75, op := Go.Op.binOp Go.BinOp.add 3 (Go.Operand.tmp 73) (Go.Operand.tmp 74) 3, type := 3, pos := "l2_mazes.go:279", after := #[{ on := 15, ground := Go.Ground.data }, { on := 16, ground := Go.Ground.data }], guard := none }) (v := ?dv17) rfl (by kernel_rfl) (by kernel_rfl) (by kernel_rfl) (by kernel_rfl) (fun _ _ _ h => h) (Or.inl ⟨by rfl, ?dh17⟩) hS ?dr17
              case dh17 => (intro wS hSw; (try dsimp only at hSw); go_split_ands; go_simp; try with_reducible rfl)
              try simp only [Act.put, List.setIfInBounds_toArray, List.set_cons_zero, List.set_cons_succ]
              refine wpAnyL_take (i := 18) (oi := { dst := some 76, op := Go.Op.fieldAddr 27 (Go.Operand.tmp 3) 1, type := 0, pos := "l2_mazes.go:279", after := #[], guard := none }) (v := ?dv18) rfl (by kernel_rfl) (by kernel_rfl) (by kernel_rfl) (by kernel_rfl) (fun _ _ _ h => h) (Or.inl ⟨by rfl, ?dh18⟩) hS ?dr18
              case dh18 => (intro wS hSw; (try dsimp only at hSw); go_split_ands; go_simp; try with_reducible rfl)
              try simp only [Act.put, List.setIfInBounds_toArray, List.set_cons_zero, List.set_cons_succ]
              refine wpAnyL_take (i := 19) (oi := { dst := some 77, op := Go.Op.load 24 (Go.Operand.tmp 76), type := 24, pos := "l2_mazes.go:279", after := #[{ on := 18, ground := Go.Ground.data }], guard := none }) (v := ?dv19) rfl (by kernel_rfl) (by kernel_rfl) (by kernel_rfl) (by kernel_rfl) (fun _ _ _ h => h) (Or.inl ⟨by rfl, ?dh19⟩) hS ?dr19
              case dh19 => (intro wS hSw; (try dsimp only at hSw); go_split_ands; go_simp; try with_reducible rfl)
              try simp only [Act.put, List.setIfInBounds_toArray, List.set_cons_zero, List.set_cons_succ]
              refine wpAnyL_take (i := 20) (oi := { dst := some 78, op := Go.Op.move (Go.Operand.tmp 8), type := 3, pos := "l2_mazes.go:279", after := #[], guard := none }) (v := ?dv20) rfl (by kernel_rfl) (by kernel_rfl) (by kernel_rfl) (by kernel_rfl) (fun _ _ _ h => h) (Or.inl ⟨by rfl, ?dh20⟩) hS ?dr20
              case dh20 => (intro wS hSw; (try dsimp only at hSw); go_split_ands; go_simp; try with_reducible rfl)
              try simp only [Act.put, List.setIfInBounds_toArray, List.set_cons_zero, List.set_cons_succ]
              refine wpAnyL_take (i := 21) (oi := { dst := some 79, op := Go.Op.indexAddr 24 (Go.Operand.tmp 77) (Go.Operand.tmp 78), type := 0, pos := "l2_mazes.go:279", after := #[{ on := 19, ground := Go.Ground.data }, { on := 20, ground := Go.Ground.data }], guard := none }) (v := ?dv21) rfl (by kernel_rfl) (by kernel_rfl) (by kernel_rfl) (by kernel_rfl) (fun _ _ _ h => h) (Or.inl ⟨by rfl, ?dh21⟩) hS ?dr21
              case dh21 => (intro wS hSw; (try dsimp only at hSw); go_split_ands; go_simp; try with_reducible rfl)
              try simp only [Act.put, List.setIfInBounds_toArray, List.set_cons_zero, List.set_cons_succ]
              refine wpAnyL_take (i := 22) (oi := { dst := some 80, op := Go.Op.indexAddr 60 (Go.Operand.tmp 79) (Go.Operand.const (Go.Value.int Go.IntKind.i64 2)), type := 0, pos := "l2_mazes.go:279", after := #[{ on := 21, ground := Go.Ground.data }], guard := none }) (v := ?dv22) rfl (by kernel_rfl) (by kernel_rfl) (by kernel_rfl) (by kernel_rfl) (fun _ _ _ h => h) (Or.inl ⟨by rfl, ?dh22⟩) hS ?dr22
              case dh22 => (intro wS hSw; (try dsimp only at hSw); go_split_ands; go_simp; try with_reducible rfl)
              try simp only [Act.put, List.setIfInBounds_toArray, List.set_cons_zero, List.set_cons_succ]
              refine wpAnyL_take (i := 23) (oi := { dst := some 81, op := Go.Op.load 3 (Go.Operand.tmp 80), type := 3, pos := "l2_mazes.go:279", after := #[{ on := 22, ground := Go.Ground.data }], guard := none }) (v := ?dv23) rfl (by kernel_rfl) (by kernel_rfl) (by kernel_rfl) (by kernel_rfl) (fun _ _ _ h => h) (Or.inl ⟨by rfl, ?dh23⟩) hS ?dr23
              case dh23 => (intro wS hSw; (try dsimp only at hSw); go_split_ands; go_simp; try with_reducible rfl)
              try simp only [Act.put, List.setIfInBounds_toArray, List.set_cons_zero, List.set_cons_succ]
              refine wpAnyL_one (i := 24) (oi := { dst := some 82, op := Go.Op.call { callee := Go.Callee.value (Go.Operand.func 76), args := #[Go.Operand.tmp 59, Go.Operand.tmp 67, Go.Operand.tmp 75, Go.Operand.tmp 81], argTypes := #[24, 3, 3, 3] }, type := 24, pos := "l2_mazes.go:279", after := #[{ on := 1, ground := Go.Ground.data }, { on := 9, ground := Go.Ground.data }, { on := 17, ground := Go.Ground.data }, { on := 23, ground := Go.Ground.data }], guard := none }) (by kernel_rfl) rfl (fun K1 hK1 => ?_)
              refine step_call (by rfl) 76 #[.slice va ds.length vc, .int .i64 (x1 + (sh : Int)), .int .i64 (x2 + (sh : Int)), .int .i64 nd] (by go_simp; try rfl) (PA.out wr.drew (Below.refl wr.heap.size wr).drew) ?_
              rintro e w5 ⟨va2, vc2, rfl, hpp, hpp1, hpp2, hb5⟩
              generalize (M.put M.ltD ds (min (x1 + (sh : Int)) (x2 + (sh : Int)), max (x1 + (sh : Int)) (x2 + (sh : Int)), nd)) = pv at *
              refine ⟨_, rfl, ?_⟩
              have hb5' : Below wr.heap.size wr w5 := (Below.refl wr.heap.size wr).drew.trans hb5
              have hs5 := hb5'.size
              have bx5 := SR.out.out.below hb5'
              have rx5 := SR.out.box.below hb5'
              have hS5 : (fun wq => wq.cell? ⟨g, 1, none⟩ = some (.slice va ds.length vc) ∧ wq.cell? ⟨w.heap.size + 1, 1, none⟩ = some (.slice (some ⟨db, off, none⟩) r.doors.length rc) ∧ wq.cell? ⟨db, off + k * 3, none⟩ = some (.int .i64 x1) ∧ wq.cell? ⟨db, off + k * 3 + 1, none⟩ = some (.int .i64 x2) ∧ wq.cell? ⟨db, off + k * 3 + 2, none⟩ = some (.int .i64 nd)) w5 := ⟨bx5.cells.2.1, rx5.cells.2.1, (hb5'.cell (p := ⟨db, off + k * 3, none⟩) hdb2).trans P0.out, (hb5'.cell (p := ⟨db, off + k * 3 + 1, none⟩) hdb2).trans P1.out, (hb5'.cell (p := ⟨db, off + k * 3 + 2, none⟩) hdb2).trans P2.out⟩
              refine hK1 _ _ (fun _ => hS5) ?_
              clear hS
              have hS := hS5
              try simp only [Act.put, List.setIfInBounds_toArray, List.set_cons_zero, List.set_cons_succ]
              refine wpAnyL_take (i := 25) (oi := { dst := some 83, op := Go.Op.fieldAddr 27 (Go.Operand.tmp 6) 1, type := 0, pos := "l2_mazes.go:279", after := #[{ on := 0, ground := Go.Ground.phase }, { on := 1, ground := Go.Ground.phase }, { on := 2, ground := Go.Ground.phase }, { on := 3, ground := Go.Ground.phase }, { on := 4, ground := Go.Ground.phase }, { on := 5, ground := Go.Ground.phase }, { on := 6, ground := Go.Ground.phase }, { on := 7, ground := Go.Ground.phase }, { on := 8, ground := Go.Ground.phase }, { on := 9, ground := Go.Ground.phase }, { on := 10, ground := Go.Ground.phase }, { on := 11, ground := Go.Ground.phase }, { on := 12, ground := Go.Ground.phase }, { on := 13, ground := Go.Ground.phase }, { on := 14, ground := Go.Ground.phase }, { on := 15, ground := Go.Ground.phase }, { on := 16, ground := Go.Ground.phase }, { on := 17, ground := Go.Ground.phase }, { on := 18, ground := Go.Ground.phase }, { on := 19, ground := Go.Ground.phase }, { on := 20, ground := Go.Ground.phase }, { on := 21, ground := Go.Ground.phase }, { on := 22, ground := Go.Ground.phase }, { on := 23, ground := Go.Ground.phase }, { on := 24, ground := Go.Ground.phase }], guard := none }) (v := ?fv25) rfl (by kernel_rfl) (by kernel_rfl) (by kernel_rfl) (by kernel_rfl) (fun _ _ _ h => h) (Or.inl ⟨by rfl, ?fh25⟩) hS ?fr25
              case fh25 => (intro wS hSw; (try dsimp only at hSw); go_split_ands; go_simp; try with_reducible rfl)
              try simp only [Act.put, List.setIfInBounds_toArray, List.set_cons_zero, List.set_cons_succ]
              obtain ⟨b0, b1, b2⟩ := bx5.cells
              obtain ⟨g0, g1, g2⟩ := bx5.free
              have hl5 := bx5.lt
              have hnew : KSt w r (some ⟨db, off, none⟩) (some ⟨rkb, rkoff, none⟩) rc rd g w2.heap.size sz (w5.setCell ⟨g, 1, none⟩ (.slice va2 pv.length vc2)) va2 vc2 ka kc pv (M.joinKs m r) :=
                ⟨(hpp.boxed bx5 (by decide) 1 _).mono (Nat.le_refl _) (by simp [World.setCell]), hpp1, hpp2, own_setBox (own_below SR.out.keys hb5') bx5 (by decide) 1 _, rx5.other (by omega) 1 _, (SR.out.res.below hb5').other (by omega) 1 _, bx5.set1 _, (SR.out.low.trans (hb5'.mono hzr)).setCell (p := ⟨g, 1, none⟩) (by show w.heap.size ≤ g; omega) _⟩
              have HNEW := Lib.hid hnew
              clear hnew hS hS5 hpp hpp1 hpp2
              refine wpAnyL_one (i := 26) (oi := { dst := none, op := Go.Op.store 24 (Go.Operand.tmp 83) (Go.Operand.tmp 82), type := 0, pos := "l2_mazes.go:279", after := #[{ on := 25, ground := Go.Ground.data }, { on := 24, ground := Go.Ground.data }, { on := 24, ground := Go.Ground.chain }, { on := 0, ground := Go.Ground.phase }, { on := 1, ground := Go.Ground.phase }, { on := 2, ground := Go.Ground.phase }, { on := 3, ground := Go.Ground.phase }, { on := 4, ground := Go.Ground.phase }, { on := 5, ground := Go.Ground.phase }, { on := 6, ground := Go.Ground.phase }, { on := 7, ground := Go.Ground.phase }, { on := 8, ground := Go.Ground.phase }, { on := 9, ground := Go.Ground.phase }, { on := 10, ground := Go.Ground.phase }, { on := 11, ground := Go.Ground.phase }, { on := 12, ground := Go.Ground.phase }, { on := 13, ground := Go.Ground.phase }, { on := 14, ground := Go.Ground.phase }, { on := 15, ground := Go.Ground.phase }, { on := 16, ground := Go.Ground.phase }, { on := 17, ground := Go.Ground.phase }, { on := 18, ground := Go.Ground.phase }, { on := 19, ground := Go.Ground.phase }, { on := 20, ground := Go.Ground.phase }, { on := 21, ground := Go.Ground.phase }, { on := 22, ground := Go.Ground.phase }, { on := 23, ground := Go.Ground.phase }, { on := 24, ground := Go.Ground.phase }], guard := none }) (by kernel_rfl) rfl (fun K4 hK4 => ?_)
              go_simp
              refine hK4 _ _ (fun h => absurd h (by decide)) ?_
              refine wpAnyL_done (by kernel_rfl) ?_ _
              all_goals
                go_wp2_with fail
                go_roundw
                case rel => exact ⟨k + 1, va2, vc2, by omega, by go_num, by rw [← HSU.out]; exact HNEW.out⟩
                case measure => simp [intOf]; omega
            · obtain rfl : k = r.doors.length := by omega
              have hnlt3 : ¬ (r.doors.length : Int) < (r.doors.length : Int) := by omega
              obtain ⟨ka', kc', hke, hk1, hk2, hk3⟩ := own_slice SR.out.keys
              injection hke with hka _ hkc
              rw [← hkc] at hk1 hk2
              rw [← hka] at hk3
              have hmo : MzOwn w2.heap.size wr.heap.size wr (M.joinOf m r) va vc ka kc := ⟨SR.out.row, hk3, SR.out.v1, SR.out.v2, hk1, hk2⟩
              have e1 : (M.joinOf m r).doors.length = (M.joinDs m r r.doors.length).length := rfl
              have e2 : (M.joinOf m r).keys.length = (M.joinKs m r).length := rfl
              have IN := kept_any wr w2.heap.size wr.heap.size (M.joinOf m r) va ka vc kc hmo (Nat.le_refl _)
              rw [e1, e2, ← HSZ.out, ← HF.out, ← HV.out] at IN
              have INH := Lib.hid IN
              obtain ⟨b0, b1, b2⟩ := SR.out.out.cells
              clear IN hmo e1 e2 hka hkc hk3
              go_wp2_with fail
              refine INH.out.mono ?_
              rintro e w8 ⟨oa, oc, ob, od, rfl, ho, hturn⟩
              have hb8 := hturn.none_below
              have hz8' := hb8.size
              have Y8 := SR.out.res.below hb8
              have HO8 := Lib.hid ho
              have HB8 := Lib.hid (SR.out.low.trans (hb8.mono hzr))
              clear ho hturn hb8 b0 b1 b2 r0 r1 r2
              obtain ⟨k0, k1, k2⟩ := Y8.cells
              obtain ⟨f0, f1, f2⟩ := Y8.free
              have hyl8 := Y8.lt
              obtain ⟨q0, q1, q2⟩ := (Y8.setAll (.int .i64 (M.joinV m r).size) (.slice oa (M.joinV m r).doors.length oc) (.slice ob (M.joinV m r).keys.length od)).cells
              clear Y8
              go_wp2_with fail
              refine bodyPost_ret (v := .tuple #[.agg #[.int .i64 (M.joinV m r).size, .slice oa (M.joinV m r).doors.length oc, .slice ob (M.joinV m r).keys.length od], .bool (M.joinB m r)]) (by simp [results, Try.results35, go_sem, q0, q1, q2]) rfl ?_
              exact mzYes_endAt (lo := w2.heap.size) (hi := w8.heap.size) HB8.out HO8.out (.inl (by omega)) (by omega) (by omega) (Nat.le_refl _) rfl rfl
end C
end Go.Proofs.Ytmccpjdgnenmeaa
