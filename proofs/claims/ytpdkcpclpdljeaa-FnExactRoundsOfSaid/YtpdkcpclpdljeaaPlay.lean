/-
  CONTRACT of impl.Maze.playRound: the nodes that are entered with the colours at hand, and the colours behind; what lay in memory stays. Condition: a valid maze, a set of colours.
-/
import Derived.Test.YtpdkcpclpdljeaaBox2
import Derived.Test.YtpdkcpclpdljeaaReachI
import Derived.Test.YtpdkcpclpdljeaaGainMath
import Derived.Deep.RegionHeld3
import Derived.Deep.RegionWith
import Derived.Deep.DeepCutAuto
namespace Go.Proofs.Ytpdkcpclpdljeaa
open Go.RowKit
namespace M
/-- the number that spread returns tells the nodes -/
theorem reach_mk {m : Mz} (V : Valid m) {s : Int} {n : Nat} (h : MaskOk m.doors (openTo s) 0 n) (hp : passN (openTo s) n m.doors = n) : n = mk (reachOf m 0 s) := by
  have := reach_mask (x := 0) V (by have := V.size1; omega) h hp
  have hr : digsTo n 12 = reachOf m 0 s := this
  rw [← hr, mk_digs h.2.1]
theorem digs_mk {m : Mz} (V : Valid m) (s : Int) : digsTo (mk (reachOf m 0 s)) 12 = reachOf m 0 s := by
  refine (digsTo_asc _ 12).ext ordI (rchL_asc _ _ _) fun y => ?_
  rw [mem_digsTo]
  constructor
  · rintro ⟨p, rfl, _, hp⟩
    exact (digB_mk (fun _ hx => (reach_node V hx).1) p).1 hp
  · intro hy
    have hn := reach_node V hy
    have := V.size12
    have ey : ((y.toNat : Nat) : Int) = y := by omega
    exact ⟨y.toNat, by omega, by omega, (digB_mk (fun _ hx => (reach_node V hx).1) y.toNat).2 (by rw [ey]; exact hy)⟩
end M
namespace C
set_option maxHeartbeats 3200000
set_option maxRecDepth 20000
theorem playRound_any (w : World) (lo hi : Nat) (m : M.Mz) (a b : Option Addr) (c d : Nat) (h : MzIn lo hi w m a c b d) (hz : hi ≤ w.heap.size) (V : M.Valid m) (n0 s : Int) :
    Calls Try.prog 94 #[.agg #[.int .i64 m.size, .slice a m.doors.length c, .slice b m.keys.length d], .agg #[.int .i64 n0, .int .i64 s]] w fun e w' => e = .returned (.agg #[.int .i64 (M.mk (M.reachOf m 0 s) : Nat), .int .i64 (M.nextC m s)]) ∧ Below w.heap.size w w' := by
  have H := Lib.hid h
  have HVA := Lib.hid V
  have hkl := V.keysLen
  have v12 := V.size12
  have v1 := V.size1
  clear h V
  go_enter Try.func94, Try.ntmps94
  go_upto_region 1 with fail
  refine wp_named ?_
  intro W hW
  have hb : Below w.heap.size w W := by rw [hW]; exact ((below_alloc _ _).alloc (by simp) _).alloc (by simp; omega) _
  have x1 : Box3 W w.heap.size 29 (.int .i64 m.size) (.slice a m.doors.length c) (.slice b m.keys.length d) := by rw [hW]; exact ((Box3.new _ _ _ _ rfl).alloc _).alloc _
  have y1 : Box2 W (w.heap.size + 1) 54 (.int .i64 n0) (.int .i64 s) := by rw [hW]; exact (Box2.new _ _ _ (by simp)).alloc _
  have z1 : Box2 W (w.heap.size + 1 + 1) 54 (.int .i64 0) (.int .i64 0) := by rw [hW]; exact Box2.new _ _ _ (by simp)
  clear hW
  have hzw := hb.size
  have hzl := z1.lt
  have HB := Lib.hid hb
  have X1 := Lib.hid x1
  have Y1 := Lib.hid y1
  have Z1 := Lib.hid z1
  have hst : M.MaskOk m.doors (M.openTo s) 0 1 := M.MaskOk.start (x := 0) (by decide)
  have HSP := Lib.hid (fun W' (hq : Below W.heap.size W W') => spread_any W' lo hi m a b c d (H.out.below (HB.out.trans (hq.mono (by omega))) hz) (by have := hq.size; omega) HVA.out 1 s (M.MaskOk m.doors (M.openTo s) 0) hst (fun n e he hn => by
    obtain ⟨j, hj, rfl⟩ := List.mem_iff_getElem.1 he
    obtain ⟨p1, p2, p3, p4, _⟩ := HVA.out.door j hj
    exact hn.step (List.getElem_mem hj) p1 (by omega) p3 (by omega)) (fun n hn => hn.2.1))
  have HRM := Lib.hid (fun n h1 h2 => M.reach_mk (s := s) (n := n) HVA.out h1 h2)
  clear hst hb
  obtain ⟨d0, d1, d2⟩ := x1.cells
  obtain ⟨d3, d4⟩ := y1.cells
  clear x1 y1 z1
  go_cut [5] (fun sl wx => ∃ g, sl = .pointer (some ⟨g, 0, none⟩) ∧ Box2 wx g 54 (.int .i64 (M.mk (M.reachOf m 0 s) : Nat)) (.int .i64 s) ∧ W.heap.size ≤ g ∧ Below W.heap.size W wx)
  case first =>
    go_region_held3 (fun wq => wq.cell? ⟨w.heap.size, 0, none⟩ = some (.int .i64 m.size) ∧ wq.cell? ⟨w.heap.size, 1, none⟩ = some (.slice a m.doors.length c) ∧ wq.cell? ⟨w.heap.size, 2, none⟩ = some (.slice b m.keys.length d) ∧ wq.cell? ⟨w.heap.size + 1, 1, none⟩ = some (.int .i64 s)) (first | exact ⟨d0, d1, d2, d4⟩ | exact ⟨g0, g1, g2, g4⟩ | go_keep) (first
      | (go_at_call 111; refine (HSP.out W.drew (Below.refl W.heap.size W).drew).mono ?_; rintro e w5 ⟨n, rfl, hmk, hps, hb5⟩; have hn := HRM.out n hmk hps; subst hn; have hb5' : Below W.heap.size W w5 := (Below.refl W.heap.size W).drew.trans hb5; obtain ⟨d0, d1, d2⟩ := (X1.out.below hb5').cells; obtain ⟨d3, d4⟩ := (Y1.out.below hb5').cells)
      | (go_at_call 111; refine (HSP.out (W.drew.alloc (.cells #[.int .i64 0, .int .i64 0] 54)) ((Below.refl W.heap.size W).drew.alloc (Nat.le_refl _) _)).mono ?_; rintro e w5 ⟨n, rfl, hmk, hps, hb5⟩; have hn := HRM.out n hmk hps; subst hn; have hb5' : Below W.heap.size W w5 := ((Below.refl W.heap.size W).drew.alloc (Nat.le_refl _) _).trans (hb5.mono (by simp)); obtain ⟨d0, d1, d2⟩ := (X1.out.below hb5').cells; obtain ⟨d3, d4⟩ := (Y1.out.below hb5').cells; have hnb := (Box2.new (w := W.drew) (g := W.heap.size) 54 (.int .i64 0) (.int .i64 0) rfl).below hb5; obtain ⟨e0, e1⟩ := hnb.cells; obtain ⟨f0, f1⟩ := hnb.free; have hnl := hnb.lt; have htt := Turned.set2 (w := w5) W.heap.size (.int .i64 (M.mk (M.reachOf m 0 s) : Nat)) (.int .i64 s); obtain ⟨g0, g1, g2⟩ := ((X1.out.below hb5').turned htt (.inl X1.out.lt)).cells; obtain ⟨g3, g4⟩ := ((Y1.out.below hb5').turned htt (.inl Y1.out.lt)).cells))
    all_goals
      go_wp2_with fail
      go_meet
      first
        | exact ⟨_, rfl, Box2.new _ _ _ rfl, hb5'.size, hb5'.alloc hb5'.size _⟩
        | exact ⟨_, rfl, hnb.setAll _ _, Nat.le_refl _, Below.thenTurned hb5' htt (Nat.le_refl _) hb5'.size⟩
  case rest =>
    obtain ⟨g, rfl, hbx, hgw, hbc⟩ := hcut
    have HBC := Lib.hid (HB.out.trans (hbc.mono hzw))
    have XC := Lib.hid (X1.out.below hbc)
    have ZC := Lib.hid (Z1.out.below hbc)
    have hwc := hbc.size
    have hgl := hbx.lt
    have hmk := M.mk_lt (l := M.reachOf m 0 s) (fun x hx => by have := M.reach_node HVA.out hx; omega)
    have BX := Lib.hid hbx
    obtain ⟨e0, e1⟩ := hbx.cells
    clear hbc hbx
    go_wp2_with fail
    refine (digits_any _ hmk wc).mono ?_
    rintro e w6 ⟨ra, rc, rfl, ho, ho1, ho2, hb6⟩
    have hdl := M.digsTo_len (M.mk (M.reachOf m 0 s)) 12
    have HDE : Hid (M.digsTo (M.mk (M.reachOf m 0 s)) 12 = M.reachOf m 0 s) := Lib.hid (M.digs_mk HVA.out s)
    rw [HDE.out] at ho hdl ho1 ⊢
    have HO := Lib.hid ho
    have ST := Lib.hid (show Box3 w6 w.heap.size 29 (.int .i64 m.size) (.slice a m.doors.length c) (.slice b m.keys.length d) ∧ Box2 w6 (w.heap.size + 1 + 1) 54 (.int .i64 0) (.int .i64 0) ∧ Box2 w6 g 54 (.int .i64 (M.mk (M.reachOf m 0 s) : Nat)) (.int .i64 s) ∧ Below w.heap.size w w6 from ⟨XC.out.below hb6, ZC.out.below hb6, BX.out.below hb6, HBC.out.trans (hb6.mono HBC.out.size)⟩)
    have hw6 := hb6.size
    clear hb6 ho e0 e1
    have HN := Lib.hid (fun y hy => M.reach_node HVA.out (s := s) (y := y) hy)
    have HNX : Hid (M.gath m (M.reachOf m 0 s) s = M.nextC m s) := Lib.hid rfl
    clear HDE HRM
    generalize hLL : M.reachOf m 0 s = L at *
    generalize hNN : M.mk L = nn at *
    have HLL := Lib.hid hLL
    have HNN := Lib.hid hNN
    clear hLL hNN
    go_wp2_with fail
    go_loopw [7, 19] (fun _ i wr => ∃ (k : Nat), k ≤ L.length ∧ i = .int .i64 k ∧ Box3 wr w.heap.size 29 (.int .i64 m.size) (.slice a m.doors.length c) (.slice b m.keys.length d) ∧ Box2 wr (w.heap.size + 1 + 1) 54 (.int .i64 0) (.int .i64 0) ∧ Box2 wr g 54 (.int .i64 (nn : Nat)) (.int .i64 (M.gath m (L.take k) s)) ∧ OwnAt wc.heap.size w6.heap.size wr 3 ra (M.encIs L) ∧ w6.heap.size ≤ wr.heap.size ∧ Below w.heap.size w wr) (fun _ i _ => L.length - (intOf i).toNat)
    case atStart => exact ⟨0, Nat.zero_le _, rfl, ST.out.1, ST.out.2.1, ST.out.2.2.1, HO.out, Nat.le_refl _, ST.out.2.2.2⟩
    case round =>
      obtain ⟨k, hk, rfl, hx, hzz, hg, hl, hwr6, hlow⟩ := hrel
      have X7 := Lib.hid hx
      have Z7 := Lib.hid hzz
      have G7 := Lib.hid hg
      have L7 := Lib.hid hl
      have B7 := Lib.hid hlow
      have hgl7 := hg.lt
      have hzl7 := hzz.lt
      have hsz7 := hlow.size
      clear hx hzz hg hl hlow
      by_cases hkl' : k < L.length
      · obtain ⟨lb, loff, hla, hlb1, hlb2, hlc⟩ := L7.out.row.at_ (k := k) (by rw [M.encIs_len]; exact hkl')
        have lx := hlc _ _ (M.encIs_at hkl')
        obtain ⟨y0, y1⟩ := HN.out L[k] (List.getElem_mem hkl')
        obtain ⟨j, hj⟩ : ∃ j : Nat, L[k] = (j : Int) := ⟨L[k].toNat, by omega⟩
        have hjl : j < m.keys.length := by omega
        obtain ⟨ib, ioff, hib, _, hib2, hic⟩ := H.out.keys.at_ (k := j) (by rw [M.encIs_len]; exact hjl)
        subst hib
        have kx : wr.cell? ⟨ib, ioff + j, none⟩ = some (.int .i64 m.keys[j]) := (B7.out.cell (p := ⟨ib, ioff + j, none⟩) (show ib < w.heap.size by omega)).trans (hic _ _ (M.encIs_at hjl))
        have hgt : Hid (M.gath m (L.take (k + 1)) s = bits .or .i64 (M.gath m (L.take k) s) m.keys[j]) := Lib.hid (by rw [M.gath_take hkl', hj, Int.toNat_natCast, List.getD_eq_getElem?_getD, List.getElem?_eq_getElem hjl]; rfl)
        rw [hj] at lx
        subst hla
        have hjd : j < d := by have := H.out.d1; omega
        obtain ⟨c0, c1, c2⟩ := X7.out.cells
        obtain ⟨g0, g1⟩ := G7.out.cells
        obtain ⟨q0, q1⟩ := G7.out.free
        clear hlc hic y0 y1 hj
        generalize M.gath m (L.take k) s = sk at *
        have hib3 : ib < w.heap.size := by omega
        have hne1 : g ≠ w.heap.size := by omega
        go_wp2_with fail
        go_region_with (fail)
        all_goals
          go_wp2_with fail
          go_roundw
          case rel => exact ⟨k + 1, by omega, by go_num, (X7.out.below (below_drawn _ _)).turned (Turned.setCell _ g 1 _ (Nat.le_refl _) (Nat.lt_succ_self _)) (.inl (by omega)), (Z7.out.below (below_drawn _ _)).other (by omega) 1 _, by rw [hgt.out]; exact (G7.out.below (below_drawn _ _)).set1 _, (L7.out.below (below_drawn _ _) (by omega)).turned (Turned.setCell _ g 1 _ (Nat.le_refl _) (Nat.lt_succ_self _)) (by show w6.heap.size ≤ wr.heap.size; omega) (.inr (by omega)), (by simp [World.setCell]; omega), (B7.out.trans ((below_drawn wr _).mono hsz7)).setCell (p := ⟨g, 1, none⟩) (by show w.heap.size ≤ g; omega) _⟩
          case measure => simp [intOf]; omega
      · obtain rfl : k = L.length := by omega
        obtain ⟨k0, k1⟩ := Z7.out.cells
        obtain ⟨f0, f1⟩ := Z7.out.free
        have hg7 := G7.out
        rw [List.take_of_length_le (Nat.le_refl _), HNX.out] at hg7
        obtain ⟨g0, g1⟩ := hg7.cells
        obtain ⟨r0, r1⟩ := (Z7.out.setAll (.int .i64 (nn : Nat)) (.int .i64 (M.nextC m s))).cells
        go_wp2_with fail
        refine bodyPost_ret (v := .agg #[.int .i64 (nn : Nat), .int .i64 (M.nextC m s)]) (by simp [results, Try.results94, go_sem, r0, r1]) rfl ?_
        exact ⟨by rw [HLL.out, HNN.out], Below.thenTurned B7.out (Turned.set2 _ _ _) (by omega) hsz7⟩
end C
end Go.Proofs.Ytpdkcpclpdljeaa
