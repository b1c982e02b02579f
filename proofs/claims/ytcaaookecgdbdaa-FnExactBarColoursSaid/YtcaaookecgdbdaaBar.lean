/-
  CONTRACTS of BarColours on both sides, and of the model's l2Barred: the maze without the doors that need a colour of a set, and without its keys, in memory of its own, or the empty one and false; what lay in memory stays. No condition but that the maze reads so.
-/
import Derived.Test.YtcaaookecgdbdaaDelFD
import Derived.Test.YtcaaookecgdbdaaMzAt
import Derived.Test.YtcaaookecgdbdaaRepT
import Derived.Test.YtcaaookecgdbdaaPartMath
import Derived.Test.YtcaaookecgdbdaaPutI
import Derived.Test.YtcaaookecgdbdaaStep
import Derived.Test.YtcaaookecgdbdaaWoNode
import Derived.Deep.RegionHeld3
namespace Go.Proofs.Ytcaaookecgdbdaa
open Go.RowKit
namespace M
def barD (s : Int) (d : Dr) : Bool := bits .and .i64 d.2.2 s != 0
def barred (m : Mz) (s : Int) : Mz := ⟨m.size, kept (barD s) m.doors, m.keys.map fun k => lessS k s⟩
def barB (m : Mz) (s : Int) : Bool := mazeB m && setB s
def barV (m : Mz) (s : Int) : Mz := if barB m s then barred m s else C.mz0
theorem barV_yes {m : Mz} {s : Int} (h : barB m s = true) : barV m s = barred m s := by unfold barV; rw [if_pos h]
theorem barV_no {m : Mz} {s : Int} (h : barB m s = false) : barV m s = C.mz0 := by unfold barV; rw [h]; rfl
theorem barV_len (m : Mz) (s : Int) : (barV m s).doors.length ≤ 1048576 ∧ (barV m s).keys.length ≤ 1048576 := by
  cases h : barB m s with
  | false => rw [barV_no h]; simp [C.mz0]
  | true =>
    rw [barV_yes h]
    unfold barB at h
    rw [Bool.and_eq_true] at h
    have V := valid_of h.1
    have h1 := V.few
    have h2 := V.keysLen
    have h3 := V.size12
    have h4 : (kept (barD s) m.doors).length ≤ m.doors.length := List.length_filter_le _ _
    show (kept (barD s) m.doors).length ≤ 1048576 ∧ (m.keys.map fun k => lessS k s).length ≤ 1048576
    rw [List.length_map]
    omega
end M
namespace C
set_option maxHeartbeats 3200000
set_option maxRecDepth 20000
theorem bar1_any (B : Nat) (x : Int) (q : M.Dr) (w : World) (hc : w.cell? ⟨B, 0, none⟩ = some (.int .i64 x)) (hB : B < w.heap.size) :
    Calls Try.prog 90 (#[.agg #[.int .i64 q.1, .int .i64 q.2.1, .int .i64 q.2.2]] ++ #[.pointer (some ⟨B, 0, none⟩)]) w fun e w' => e = .returned (.bool (M.barD x q)) ∧ Below w.heap.size w w' := by
  show Calls Try.prog 90 #[.agg #[.int .i64 q.1, .int .i64 q.2.1, .int .i64 q.2.2], .pointer (some ⟨B, 0, none⟩)] w _
  have hc2 : (w.alloc (.cells #[.int .i64 q.1, .int .i64 q.2.1, .int .i64 q.2.2] 61)).cell? ⟨B, 0, none⟩ = some (.int .i64 x) := ((below_alloc w _).cell (p := ⟨B, 0, none⟩) hB).trans hc
  obtain ⟨b0, b1, b2⟩ := (Box3.new (w := w) (g := w.heap.size) 61 (.int .i64 q.1) (.int .i64 q.2.1) (.int .i64 q.2.2) rfl).cells
  go_enter Try.func90, Try.ntmps90
  go_wp2_with fail
  go_ret
  exact ⟨rfl, below_alloc _ _⟩
structure BSt (w : World) (m : M.Mz) (r L bg : Nat) (ca cb : Option Addr) (cc cd : Nat) (x : Int) (wr : World) (ds : List M.Dr) (ks : List Int) : Prop where
  res : Box3 wr r 27 (.int .i64 0) (.slice none 0 0) (.slice none 0 0)
  cap : Box1 wr (w.heap.size + 1) 3 (.int .i64 x)
  out : Box3 wr bg 27 (.int .i64 m.size) (.slice ca ds.length cc) (.slice cb m.keys.length cd)
  own : MzOwn L bg wr ⟨m.size, ds, ks⟩ ca cc cb cd
  low : Below w.heap.size w wr
theorem BSt.later {w : World} {m : M.Mz} {r L bg : Nat} {ca cb : Option Addr} {cc cd : Nat} {x : Int} {wr wr' : World} {ds : List M.Dr} {ks : List Int} (h : BSt w m r L bg ca cb cc cd x wr ds ks) (hb : Below wr.heap.size wr wr') : BSt w m r L bg ca cb cc cd x wr' ds ks :=
  ⟨h.res.below hb, (hb.block _ h.cap.lt).trans h.cap, h.out.below hb, h.own.below hb (Nat.le_of_lt h.out.lt), h.low.trans (hb.mono h.low.size)⟩
theorem BSt.set {w : World} {m : M.Mz} {r L bg : Nat} {ca : Option Addr} {cc cd g off : Nat} {x : Int} {wr : World} {ds : List M.Dr} {ks : List Int} (h : BSt w m r L bg ca (some ⟨g, off, none⟩) cc cd x wr ds ks) (hL : w.heap.size + 1 < L) (hr : r < L) (hg1 : L ≤ g) (hg2 : g < bg) {k : Nat} (hk : k < ks.length) (v : Int) :
    BSt w m r L bg ca (some ⟨g, off, none⟩) cc cd x (wr.setCell ⟨g, off + k, none⟩ (.int .i64 v)) ds (ks.set k v) :=
  have t := Turned.setCell (lo := L) (hi := bg) wr g (off + k) (.int .i64 v) hg1 hg2
  ⟨h.res.turned t (.inl (by omega)), (t.block _ h.cap.lt (.inl (by omega))).trans h.cap, h.out.turned t (.inr (Nat.le_refl _)), h.own.setKey rfl k hk v, h.low.setCell (p := ⟨g, off + k, none⟩) (by show w.heap.size ≤ g; omega) _⟩
theorem implBar_lw (w : World) (lo hi : Nat) (m : M.Mz) (a b : Option Addr) (c d : Nat) (h : MzIn lo hi w m a c b d) (hz : hi ≤ w.heap.size) (h1 : m.doors.length ≤ 1048576) (h2 : m.keys.length ≤ 1048576) (x : Int) (_x1 : -9223372036854775808 ≤ x) (_x2 : x ≤ 9223372036854775807) :
    Calls Try.prog 42 #[.agg #[.int .i64 m.size, .slice a m.doors.length c, .slice b m.keys.length d], .int .i64 x] w (MzOkPost w (M.barV m x) (M.barB m x)) := by
  have H := Lib.hid h
  clear h
  go_enter Try.func42, Try.ntmps42
  go_wp2_with fail
  refine named ?_
  intro W hW
  have hb : Below w.heap.size w W := by rw [hW]; exact ((below_alloc _ _).alloc (by simp) _).alloc (by simp; omega) _
  have x1 : Box3 W w.heap.size 27 (.int .i64 m.size) (.slice a m.doors.length c) (.slice b m.keys.length d) := by rw [hW]; exact ((Box3.new _ _ _ _ rfl).alloc _).alloc _
  have y1 : Box3 W (w.heap.size + 1 + 1) 27 (.int .i64 0) (.slice none 0 0) (.slice none 0 0) := by rw [hW]; exact Box3.new _ _ _ _ (by simp)
  have i1 : Box1 W (w.heap.size + 1) 3 (.int .i64 x) := by rw [hW]; exact (Box1.new _ _ (by simp)).alloc _
  clear hW
  have hzw := hb.size
  have hwl := y1.lt
  refine (isMaze_any W lo hi m a b c d (H.out.below hb hz) (by omega)).mono ?_
  rintro e w1 ⟨rfl, hb1⟩
  have X1 := Lib.hid (x1.below hb1)
  have Y1 := Lib.hid (y1.below hb1)
  have I1 := Lib.hid (show Box1 w1 (w.heap.size + 1) 3 (.int .i64 x) from (hb1.block _ i1.lt).trans i1)
  have hbl := Y1.out.lt
  have HB1 := Lib.hid (hb.trans (hb1.mono hzw))
  have hz1w := hb1.size
  clear hb hb1 x1 y1 i1
  obtain ⟨c0, c1, c2⟩ := X1.out.cells
  have ci := cell_of_row w1 (w.heap.size + 1) 0 _ _ _ I1.out
  obtain ⟨k0, k1, k2⟩ := Y1.out.cells
  obtain ⟨f0, f1, f2⟩ := Y1.out.free
  cases q0 : M.mazeB m with
  | false =>
    have HF : Hid (M.barB m x = false) := Lib.hid (by unfold M.barB; rw [q0]; rfl)
    have HV := Lib.hid (M.barV_no HF.out)
    clear q0
    go_wp2_with fail
    refine bodyPost_ret (v := .tuple #[.agg #[.int .i64 0, .slice none 0 0, .slice none 0 0], .bool false]) (by simp [results, Try.results42, go_sem, k0, k1, k2]) rfl ?_
    rw [HF.out, HV.out]
    exact mzNo_endAt HB1.out (by omega)
  | true =>
    have HM := Lib.hid q0
    have HVA := Lib.hid (M.valid_of q0)
    clear q0
    go_wp2_with fail
    refine (isSet_any _ _).mono ?_
    rintro e w9 ⟨rfl, rfl⟩
    have X2 := X1
    have Y2 := Y1
    have I2 := I1
    have HB2 := HB1
    have hz2w := hz1w
    cases q1 : M.setB x with
    | false =>
      have HF : Hid (M.barB m x = false) := Lib.hid (by unfold M.barB; rw [q1, Bool.and_false])
      have HV := Lib.hid (M.barV_no HF.out)
      clear q1
      go_wp2_with fail
      refine bodyPost_ret (v := .tuple #[.agg #[.int .i64 0, .slice none 0 0, .slice none 0 0], .bool false]) (by simp [results, Try.results42, go_sem, k0, k1, k2]) rfl ?_
      rw [HF.out, HV.out]
      exact mzNo_endAt HB2.out (by omega)
    | true =>
      have HF : Hid (M.barB m x = true) := Lib.hid (by unfold M.barB; rw [q1, HM.out]; rfl)
      have HV := Lib.hid (M.barV_yes HF.out)
      have v30 := HVA.out.few
      have hwl2 := Y2.out.lt
      have hil2 := I2.out.lt
      clear q1
      go_wp2_with fail
      refine (clone_any w1 lo hi m a b c d (H.out.below HB2.out hz) (by omega) h1 h2).mono ?_
      rintro e w3 ⟨ca, cc, cb, cd, rfl, ho, hb3⟩
      have hz3w := hb3.size
      have ho3 := HB2.out.trans (hb3.mono (by omega))
      go_wp2_with fail
      refine named ?_
      intro W4 hW4
      have hb4 : Below w3.heap.size w3 W4 := by rw [hW4]; exact below_alloc _ _
      have t4 : Box3 W4 w3.heap.size 27 (.int .i64 m.size) (.slice ca m.doors.length cc) (.slice cb m.keys.length cd) := by rw [hW4]; exact Box3.new _ _ _ _ rfl
      have hb24 := hb3.trans (hb4.mono hb3.size)
      have Y4 := Lib.hid (Y2.out.below hb24)
      have I4 := Lib.hid (show Box1 W4 (w.heap.size + 1) 3 (.int .i64 x) from (hb24.block _ I2.out.lt).trans I2.out)
      have T4 := Lib.hid t4
      have O4 := Lib.hid (ho.below hb4 (Nat.le_refl _))
      have HB4 := Lib.hid (ho3.trans (hb4.mono ho3.size))
      have hz4 := hb4.size
      have htl := t4.lt
      have hci : W4.cell? ⟨w.heap.size + 1, 0, none⟩ = some (.int .i64 x) := (hb24.cell (p := ⟨w.heap.size + 1, 0, none⟩) hil2).trans (cell_of_row w1 (w.heap.size + 1) 0 _ _ _ I2.out)
      obtain ⟨l2, e2, he2, n1, n2, n3, n4⟩ := O4.out.doors.narrow2
      have CD := deleteFD_any 90 #[.pointer (some ⟨w.heap.size + 1, 0, none⟩)] (M.barD x) (enters_of Try.func90 (by kernel_rfl) rfl) W4 l2 e2 ca cc m.doors
        (fun W' q ht => bar1_any (w.heap.size + 1) x q W' ((World.cell?_of_block ((n2 W' ht).block (w.heap.size + 1) (by omega) (.inl (by omega)))).trans hci) (by have := ht.size; omega)) n1 he2 (by omega) O4.out.c1 O4.out.c2
      have hlen : (M.kept (M.barD x) m.doors).length ≤ m.doors.length := List.length_filter_le _ _
      have N2 := Lib.hid n2
      have N3 := Lib.hid n3
      have N4 := Lib.hid n4
      have hne4 : w.heap.size + 1 + 1 ≠ w3.heap.size := by omega
      clear hW4 hb3 hb4 hb24 ho ho3 t4 c0 c1 c2 k0 k1 k2 f0 f1 f2 hci n1 n2 n3 n4
      refine CD.mono ?_
      rintro e w5 ⟨rfl, ho5, ht5'⟩
      have ht5 := N2.out w5 ht5'
      have hz5 := ht5.size
      have t5 := T4.out.turned ht5 (.inr (Nat.le_refl _))
      have y5 := Y4.out.turned ht5 (.inl (by omega))
      have od5 := N3.out w5 _ (by rw [M.encDs_len, M.encDs_len]; omega) ho5
      have ok5 := N4.out _ _ _ _ _ w5 (by decide) O4.out.keys ht5'
      have hb5 := Below.thenTurned HB4.out ht5 (by omega) HB4.out.size
      have tt := Turned.setCell w5 w3.heap.size 1 (.slice ca (M.kept (M.barD x) m.doors).length cc) (Nat.le_refl _) (Nat.lt_succ_self _)
      have ST := Lib.hid (show BSt w m (w.heap.size + 1 + 1) w1.heap.size w3.heap.size ca cb cc cd x (w5.setCell ⟨w3.heap.size, 1, none⟩ (.slice ca (M.kept (M.barD x) m.doors).length cc)) (M.kept (M.barD x) m.doors) (M.repT (fun s => M.lessS s x) m.keys 0) from by
        rw [M.repT_zero]
        exact ⟨y5.other hne4 1 _, (tt.block _ (by have := I2.out.lt; omega) (.inl (by omega))).trans ((ht5.block _ (by omega) (.inl (by omega))).trans I4.out), t5.set1 _, ⟨od5.turned tt (by omega) (.inl (Nat.le_refl _)), ok5.turned tt (by omega) (.inl (Nat.le_refl _)), Nat.le_trans hlen O4.out.c1, O4.out.c2, O4.out.d1, O4.out.d2⟩, hb5.setCell (p := ⟨w3.heap.size, 1, none⟩) (by show w.heap.size ≤ w3.heap.size; omega) _⟩)
      obtain ⟨c0, c1, c2⟩ := t5.cells
      obtain ⟨g0, g1, g2⟩ := t5.free
      obtain ⟨r0, r1, r2⟩ := (t5.set1 (.slice ca (M.kept (M.barD x) m.doors).length cc)).cells
      have hzz := tt.size
      clear ht5 ht5' t5 y5 od5 ok5 hb5 ho5 CD tt
      go_wp2_with fail
      go_loopw [7, 27] (fun _ i wr => ∃ (k : Nat), k ≤ m.keys.length ∧ i = .int .i64 k ∧ BSt w m (w.heap.size + 1 + 1) w1.heap.size w3.heap.size ca cb cc cd x wr (M.kept (M.barD x) m.doors) (M.repT (fun s => M.lessS s x) m.keys k)) (fun _ i _ => m.keys.length - (intOf i).toNat)
      case atStart => exact ⟨0, Nat.zero_le _, rfl, ST.out⟩
      case round =>
        obtain ⟨k, hk, rfl, hst⟩ := hrel
        have SR := Lib.hid hst
        obtain ⟨o0, o1, o2⟩ := hst.out.cells
        have hol := hst.out.lt
        have hcc := cell_of_row wr (w.heap.size + 1) 0 _ _ _ hst.cap
        clear hst
        by_cases hkl' : k < m.keys.length
        · obtain ⟨g, off, hcb, hg1, hg2, hc0⟩ := SR.out.own.keys.row.at_ (k := k) (by rw [M.encIs_len]; show k < (M.repT _ m.keys k).length; rw [M.repT_len]; exact hkl')
          have cx : wr.cell? ⟨g, off + k, none⟩ = some (.int .i64 m.keys[k]) := hc0 _ _ (by show (M.encIs (M.repT _ m.keys k))[k]? = _; unfold M.encIs; rw [List.getElem?_map, M.repT_get hkl']; rfl)
          have fx : wr.frozen? ⟨g, off + k, none⟩ = false := SR.out.own.keys.free hcb (k := k) (by rw [M.encIs_len]; show k < (M.repT _ m.keys k).length; rw [M.repT_len]; exact hkl') _
          clear hc0
          subst hcb
          have hss := SR.out.set (by omega) (by omega) hg1 hg2 (k := k) (by rw [M.repT_len]; exact hkl') (M.lessS m.keys[k] x)
          rw [show (M.repT (fun s => M.lessS s x) m.keys k).set k (M.lessS m.keys[k] x) = _ from M.repT_set (f := fun s => M.lessS s x) hkl'] at hss
          have SS := Lib.hid hss
          have hless : bits .andNot .i64 m.keys[k] x = M.lessS m.keys[k] x := rfl
          have hol2 : w.heap.size + 1 < wr.heap.size := by omega
          clear hss
          go_wp2_with fail
          go_region_with (fail)
          all_goals
            go_wp2_with fail
            go_roundw
            case rel => exact ⟨k + 1, by omega, by go_num, SS.out.later (below_drawn _ _)⟩
            case measure => simp [intOf]; omega
        · obtain rfl : k = m.keys.length := by omega
          have hyb := SR.out.res
          obtain ⟨k0, k1, k2⟩ := hyb.cells
          obtain ⟨f0, f1, f2⟩ := hyb.free
          obtain ⟨r0, r1, r2⟩ := (hyb.setAll (.int .i64 m.size) (.slice ca (M.kept (M.barD x) m.doors).length cc) (.slice cb m.keys.length cd)).cells
          have hzr := SR.out.out.lt
          go_wp2_with fail
          refine bodyPost_ret (v := .tuple #[.agg #[.int .i64 m.size, .slice ca (M.kept (M.barD x) m.doors).length cc, .slice cb m.keys.length cd], .bool true]) (by simp [results, Try.results42, go_sem, r0, r1, r2]) rfl ?_
          have hown := SR.out.own
          rw [M.repT_all] at hown
          rw [HF.out, HV.out]
          exact mzYes_endAt (m := M.barred m x) SR.out.low hown (.inl (by omega)) (by omega) (by omega) (by omega) rfl (by simp [M.barred])
end C
end Go.Proofs.Ytcaaookecgdbdaa
