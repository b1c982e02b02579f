/-
  CONTRACT of spec.l2Numbered: the maze with other numbers of its nodes, in memory of its own; what lay in memory stays. Condition: a valid maze, a list with each of its nodes once.
-/
import Derived.Test.YtmccpjdgnenmeaaNumMath
import Derived.Test.YtmccpjdgnenmeaaPutN
import Derived.Test.YtmccpjdgnenmeaaStep
import Derived.Test.YtmccpjdgnenmeaaLate
import Derived.Test.YtmccpjdgnenmeaaMzEnd
import Derived.Test.YtmccpjdgnenmeaaMzAt
import Derived.Deep.RegionHeld3
import Derived.Deep.RegionWith
import Derived.Deep.RegionLaw
import Derived.Deep.DeepCutAuto
import Derived.OwnWalk
namespace Go.Proofs.Ytmccpjdgnenmeaa
open Go.RowKit
namespace C
set_option maxHeartbeats 3200000
set_option maxRecDepth 20000
theorem num_made_zero (n : Nat) : (madeCells (Value.int .i64 0).cells (n * 1)).toList = M.encIs (List.replicate n 0) := by
  refine List.ext_getElem? fun k => ?_
  unfold madeCells M.encIs
  rcases Nat.lt_or_ge k n with h | h
  · simp [h, Value.cells, Nat.mod_one]
  · simp [h]
theorem num_make_run {i : TypeInfo} (hi : Try.prog.info? 3 = some i) (hz : i.zero = some (.int .i64 0)) (hs : i.size = 1) (hb : i.bytes = 8) {x : Int} {n : Nat} (hx : x = (n : Int)) (hn : n ≤ 1000) : ∃ zs : Array Value, zs.size = n ∧ zs.toList = M.encIs (List.replicate n 0) ∧ ∀ w : World,
    (Instr.makeSlice 25 (.int .i64 x) (.int .i64 x)).run Try.prog w = .ok (.slice (some ⟨w.heap.size, 0, none⟩) n n) (w.alloc (.cells zs 3)) := by
  subst hx
  refine ⟨madeCells (Value.int .i64 0).cells (n * 1), by rw [size_madeCells]; omega, num_made_zero n, fun w => ?_⟩
  have := run_make (P := Try.prog) w 25 3 i (.int .i64 0) Try.underlying25 hi hz .i64 .i64 n n (by omega) (Int.le_refl _) (by rw [hb]; omega) (by omega)
  rw [Int.toNat_natCast, hs] at this
  exact this
theorem obj_new {w : World} {o : Obj} {k : Nat} (hk : k = w.heap.size) : (w.alloc o).heap[k]? = some o := by subst hk; exact heap_alloc_new w o
theorem obj_alloc {w : World} {o : Obj} {k : Nat} (o' : Obj) (h : w.heap[k]? = some o) : (w.alloc o').heap[k]? = some o := (Below.heap_alloc w o' k (heap_lt h)).trans h
theorem obj3_0 (W : World) (o1 o2 o3 : Obj) : (((W.alloc o1).alloc o2).alloc o3).drew.heap[W.heap.size]? = some o1 := obj_alloc o3 (obj_alloc o2 (obj_new rfl))
theorem obj3_1 (W : World) (o1 o2 o3 : Obj) : (((W.alloc o1).alloc o2).alloc o3).drew.heap[W.heap.size + 1]? = some o2 := obj_alloc o3 (obj_new (by rw [World.size_alloc]))
theorem obj3_2 (W : World) (o1 o2 o3 : Obj) : (((W.alloc o1).alloc o2).alloc o3).drew.heap[W.heap.size + 1 + 1]? = some o3 := obj_new (by rw [World.size_alloc, World.size_alloc])
theorem size3 (W : World) (o1 o2 o3 : Obj) : (((W.alloc o1).alloc o2).alloc o3).drew.heap.size = W.heap.size + 1 + 1 + 1 := by
  show (((W.alloc o1).alloc o2).alloc o3).heap.size = _
  rw [World.size_alloc, World.size_alloc, World.size_alloc]
theorem below3 (W : World) (o1 o2 o3 : Obj) : Below W.heap.size W (((W.alloc o1).alloc o2).alloc o3).drew :=
  ((((Below.refl W.heap.size W).alloc (Nat.le_refl _) o1).alloc (by rw [World.size_alloc]; omega) o2).alloc (by rw [World.size_alloc, World.size_alloc]; omega) o3).drew
/-- the maze that is built, in a box of its own -/
structure NSt (w : World) (m : M.Mz) (a b : Option Addr) (c d : Nat) (g ka B : Nat) (wr : World) (ds : List M.Dr) (ks : List Int) : Prop where
  dm : ∃ pa pc, Box3 wr g 27 (.int .i64 m.size) (.slice pa ds.length pc) (.slice (some ⟨ka, 0, none⟩) ks.length ks.length) ∧ OwnAt B wr.heap.size wr 60 pa (M.encDs ds) ∧ ds.length ≤ pc ∧ pc ≤ 9223372036854775807
  keys : OwnAt ka (ka + 1) wr 3 (some ⟨ka, 0, none⟩) (M.encIs ks)
  box : Box3 wr w.heap.size 27 (.int .i64 m.size) (.slice a m.doors.length c) (.slice b m.keys.length d)
  res : Box3 wr (w.heap.size + 1) 27 (.int .i64 0) (.slice none 0 0) (.slice none 0 0)
  below : Below w.heap.size w wr
  kalt : ka < wr.heap.size
theorem l2Numbered_lw (w : World) (lo hi : Nat) (m : M.Mz) (a b : Option Addr) (c d : Nat) (h : MzIn lo hi w m a c b d) (hz : hi ≤ w.heap.size) (V : M.Valid m) (nt : List Int) (ta : Option Addr) (tc tlo thi : Nat) (ht : RowIn tlo thi w ta (M.encIs nt)) (htz : thi ≤ w.heap.size) (ho : M.orderB nt m.size.toNat = true) :
    Calls Try.prog 65 #[.agg #[.int .i64 m.size, .slice a m.doors.length c, .slice b m.keys.length d], .slice ta nt.length tc] w (MzPost w (M.numOf m nt)) := by
  obtain ⟨ii0, hi0, hz0, hzz1, hz2⟩ := info_parts infoI
  have H := Lib.hid h
  have HT := Lib.hid ht
  have HVA := Lib.hid V
  have HO := Lib.hid ho
  have hkl := V.keysLen
  have v12 := V.size12
  have v1 := V.size1
  have hdl := V.few
  have HTL := Lib.hid (M.order_len ho)
  clear h V ht ho
  obtain ⟨n, hn⟩ : ∃ n : Nat, m.size = (n : Int) := ⟨m.size.toNat, by omega⟩
  have hn12 : n ≤ 12 := by omega
  have hnn : m.size.toNat = n := by omega
  have HNS := Lib.hid hn
  clear hn
  go_enter Try.func65, Try.ntmps65
  go_upto_region 1 with fail
  refine wp_named ?_
  intro W hW
  have hb : Below w.heap.size w W := by rw [hW]; exact (below_alloc _ _).alloc (by simp) _
  have x1 : Box3 W w.heap.size 27 (.int .i64 m.size) (.slice a m.doors.length c) (.slice b m.keys.length d) := by rw [hW]; exact (Box3.new _ _ _ _ rfl).alloc _
  have y1 : Box3 W (w.heap.size + 1) 27 (.int .i64 0) (.slice none 0 0) (.slice none 0 0) := by rw [hW]; exact Box3.new _ _ _ _ (by simp)
  clear hW
  have hzw := hb.size
  have hyl := y1.lt
  have HB := Lib.hid hb
  have X1 := Lib.hid x1
  have Y1 := Lib.hid y1
  obtain ⟨d0, d1, d2⟩ := x1.cells
  obtain ⟨zs, hzs1, hzs2, hmr⟩ := num_make_run hi0 hz0 hzz1 hz2 HNS.out (by omega)
  have SX : ∀ wq, Below W.heap.size W wq → (wq.cell? ⟨w.heap.size, 0, none⟩ = some (.int .i64 m.size) ∧ wq.cell? ⟨w.heap.size, 1, none⟩ = some (.slice a m.doors.length c) ∧ wq.cell? ⟨w.heap.size, 2, none⟩ = some (.slice b m.keys.length d)) := fun wq hq => (X1.out.below hq).cells
  clear hb x1 y1
  go_cut [5] (fun s5 wx => ∃ g ka pa, s5 = .pointer (some ⟨g, 0, none⟩) ∧ Box3 wx g 27 (.int .i64 m.size) (.slice pa 0 0) (.slice (some ⟨ka, 0, none⟩) n n) ∧ OwnAt ka (ka + 1) wx 3 (some ⟨ka, 0, none⟩) (M.encIs (List.replicate n 0)) ∧ g ≠ ka ∧ W.heap.size ≤ g ∧ W.heap.size ≤ ka ∧ ka < wx.heap.size ∧ Below W.heap.size W wx)
  case first =>
    go_region_held3 (fun wq => wq.cell? ⟨w.heap.size, 0, none⟩ = some (.int .i64 m.size) ∧ wq.cell? ⟨w.heap.size, 1, none⟩ = some (.slice a m.doors.length c) ∧ wq.cell? ⟨w.heap.size, 2, none⟩ = some (.slice b m.keys.length d)) (first | exact ⟨d0, d1, d2⟩ | (refine SX _ ?_; repeat (first | exact Below.refl _ _ | refine Below.drew ?_ | refine Below.alloc ?_ (by first | exact Nat.le_refl _ | (simp; done) | (simp; omega)) _)) | go_keep) (fail)
    all_goals
      go_wp2_with fail
      go_meet
      have hnr : M.encIs (List.replicate n 0) = zs.toList := hzs2.symm
      rw [hnr]
      first
      | exact ⟨W.heap.size, W.heap.size + 1, some ⟨W.heap.size + 1 + 1, 0, none⟩, rfl, obj3_0 _ _ _ _, .inr ⟨W.heap.size + 1, 0, zs, rfl, Nat.le_refl _, Nat.lt_succ_self _, obj3_1 _ _ _ _, fun i u hu => by simpa using hu⟩, by omega, by omega, by omega, (size3 _ _ _ _).symm ▸ by omega, below3 _ _ _ _⟩
      | exact ⟨W.heap.size, W.heap.size + 1 + 1, some ⟨W.heap.size + 1, 0, none⟩, rfl, obj3_0 _ _ _ _, .inr ⟨W.heap.size + 1 + 1, 0, zs, rfl, Nat.le_refl _, Nat.lt_succ_self _, obj3_2 _ _ _ _, fun i u hu => by simpa using hu⟩, by omega, by omega, by omega, (size3 _ _ _ _).symm ▸ by omega, below3 _ _ _ _⟩
      | exact ⟨W.heap.size + 1, W.heap.size, some ⟨W.heap.size + 1 + 1, 0, none⟩, rfl, obj3_1 _ _ _ _, .inr ⟨W.heap.size, 0, zs, rfl, Nat.le_refl _, Nat.lt_succ_self _, obj3_0 _ _ _ _, fun i u hu => by simpa using hu⟩, by omega, by omega, by omega, (size3 _ _ _ _).symm ▸ by omega, below3 _ _ _ _⟩
      | exact ⟨W.heap.size + 1, W.heap.size + 1 + 1, some ⟨W.heap.size, 0, none⟩, rfl, obj3_1 _ _ _ _, .inr ⟨W.heap.size + 1 + 1, 0, zs, rfl, Nat.le_refl _, Nat.lt_succ_self _, obj3_2 _ _ _ _, fun i u hu => by simpa using hu⟩, by omega, by omega, by omega, (size3 _ _ _ _).symm ▸ by omega, below3 _ _ _ _⟩
      | exact ⟨W.heap.size + 1 + 1, W.heap.size, some ⟨W.heap.size + 1, 0, none⟩, rfl, obj3_2 _ _ _ _, .inr ⟨W.heap.size, 0, zs, rfl, Nat.le_refl _, Nat.lt_succ_self _, obj3_0 _ _ _ _, fun i u hu => by simpa using hu⟩, by omega, by omega, by omega, (size3 _ _ _ _).symm ▸ by omega, below3 _ _ _ _⟩
      | exact ⟨W.heap.size + 1 + 1, W.heap.size + 1, some ⟨W.heap.size, 0, none⟩, rfl, obj3_2 _ _ _ _, .inr ⟨W.heap.size + 1, 0, zs, rfl, Nat.le_refl _, Nat.lt_succ_self _, obj3_1 _ _ _ _, fun i u hu => by simpa using hu⟩, by omega, by omega, by omega, (size3 _ _ _ _).symm ▸ by omega, below3 _ _ _ _⟩
  case rest =>
    obtain ⟨g, ka, pa0, rfl, hbx, hks, hgk, hgW, hkW, hkl2, hbc⟩ := hcut
    have st0 : NSt w m a b c d g ka W.heap.size wc (M.putAll M.ltD [] (M.numDs m nt 0)) (M.numKs m nt 0) := by
      have e : M.numKs m nt 0 = List.replicate n 0 := by show List.replicate m.size.toNat 0 = _; rw [hnn]
      rw [e]
      refine ⟨⟨pa0, 0, ?_, OwnAt.nil _ _ _ _ _, Nat.le_refl _, by omega⟩, hks, X1.out.below hbc, Y1.out.below hbc, HB.out.trans (hbc.mono hzw), hkl2⟩
      rw [List.length_replicate]
      exact hbx
    have ST0 := Lib.hid st0
    have hwc := hbc.size
    clear st0 hbx hks hbc d0 d1 d2 hmr hzs2
    go_wp2_with fail
    go_loopw [6] (fun i wr => ∃ (k : Nat), k ≤ m.doors.length ∧ i = .int .i64 k ∧ NSt w m a b c d g ka W.heap.size wr (M.putAll M.ltD [] (M.numDs m nt k)) (M.numKs m nt 0)) (fun i _ => m.doors.length - (intOf i).toNat)
    case atStart => exact ⟨0, Nat.zero_le _, rfl, ST0.out⟩
    case round =>
      obtain ⟨k, hk, rfl, hst⟩ := hrel
      have ST := Lib.hid hst
      clear hst
      by_cases hlt : k < m.doors.length
      · obtain ⟨pa, pc, hbx, hpd, hp1, hp2⟩ := ST.out.dm
        have hlen : (M.putAll M.ltD [] (M.numDs m nt k)).length ≤ 30 := by
          have h1 := M.len_putAll_le (lt := M.ltD) [] (M.numDs m nt k)
          rw [M.numDs_len hk, List.length_nil] at h1
          omega
        have BX := Lib.hid hbx
        have PD := Lib.hid hpd
        have hzr := ST.out.below.size
        have hxl := ST.out.box.lt
        have hgl := hbx.lt
        obtain ⟨d0, d1, d2⟩ := ST.out.box.cells
        obtain ⟨b0, b1, b2⟩ := hbx.cells
        obtain ⟨db, off, hda, _, hdb, hc0⟩ := (H.out.doors.below ST.out.below hz).at_ (k := k * 3) (by rw [M.encDs_len]; omega)
        subst hda
        obtain ⟨q1, q2, q3, q4, q5, q6, q7⟩ := HVA.out.door k hlt
        obtain ⟨x1, hx1⟩ : ∃ x : Nat, m.doors[k].1 = (x : Int) := ⟨m.doors[k].1.toNat, by omega⟩
        obtain ⟨x2, hx2⟩ : ∃ x : Nat, m.doors[k].2.1 = (x : Int) := ⟨m.doors[k].2.1.toNat, by omega⟩
        have hx1n : x1 < nt.length := by rw [HTL.out]; omega
        have hx2n : x2 < nt.length := by rw [HTL.out]; omega
        obtain ⟨tb, toff, hta, _, htb, ht0⟩ := (HT.out.below ST.out.below htz).at_ (k := x1) (by rw [M.encIs_len]; exact hx1n)
        subst hta
        have hdbw : db < w.heap.size := by omega
        have htbw : tb < w.heap.size := by omega
        obtain ⟨v1, hv1⟩ : ∃ v, nt.getD x1 0 = v := ⟨_, rfl⟩
        obtain ⟨v2, hv2⟩ : ∃ v, nt.getD x2 0 = v := ⟨_, rfl⟩
        have P0 : Hid (wr.cell? ⟨db, off + k * 3, none⟩ = some (.int .i64 (x1 : Int))) := Lib.hid (by rw [← hx1]; exact hc0 _ _ (M.encDs_at0 hlt))
        have P1 : Hid (wr.cell? ⟨db, off + k * 3 + 1, none⟩ = some (.int .i64 (x2 : Int))) := Lib.hid (by rw [← hx2]; exact hc0 _ _ (M.encDs_at1 hlt))
        have P2 : Hid (wr.cell? ⟨db, off + k * 3 + 2, none⟩ = some (.int .i64 m.doors[k].2.2)) := Lib.hid (hc0 _ _ (M.encDs_at2 hlt))
        have T1 : Hid (wr.cell? ⟨tb, toff + x1, none⟩ = some (.int .i64 v1)) := Lib.hid (by rw [← hv1, List.getD_eq_getElem?_getD, List.getElem?_eq_getElem hx1n]; exact ht0 _ _ (M.encIs_at hx1n))
        have T2 : Hid (wr.cell? ⟨tb, toff + x2, none⟩ = some (.int .i64 v2)) := Lib.hid (by rw [← hv2, List.getD_eq_getElem?_getD, List.getElem?_eq_getElem hx2n]; exact ht0 _ _ (M.encIs_at hx2n))
        have hmin : ((min v1 v2, max v1 v2, m.doors[k].2.2) : M.Dr) = M.numD nt m.doors[k] := by
          unfold M.numD M.doorOf
          rw [hx1, hx2, Int.toNat_natCast, Int.toNat_natCast, hv1, hv2]
        have HMIN := Lib.hid hmin
        have hltI : (k : Int) < (m.doors.length : Int) := by omega
        have hx1I : (x1 : Int) < (nt.length : Int) := by omega
        have hx2I : (x2 : Int) < (nt.length : Int) := by omega
        have PA := Lib.hid (fun W' (hq : Below wr.heap.size wr W') => put_any W' W.heap.size wr.heap.size pa pc (M.putAll M.ltD [] (M.numDs m nt k)) v1 v2 m.doors[k].2.2 (PD.out.below hq (Nat.le_refl _)) hq.size (by have := hq.size; omega) (by omega) hp1 hp2)
        have HX1 := Lib.hid hx1
        have HX2 := Lib.hid hx2
        clear hbx hpd hc0 ht0 hmin hx1 hx2 hv1 hv2
        go_wp2_with fail
        refine wp_region_late2 (fun wq => wq.cell? ⟨w.heap.size, 1, none⟩ = some (.slice (some ⟨db, off, none⟩) m.doors.length c) ∧ wq.cell? ⟨g, 1, none⟩ = some (.slice pa (M.putAll M.ltD [] (M.numDs m nt k)).length pc) ∧ wq.cell? ⟨db, off + k * 3, none⟩ = some (.int .i64 (x1 : Int)) ∧ wq.cell? ⟨db, off + k * 3 + 1, none⟩ = some (.int .i64 (x2 : Int)) ∧ wq.cell? ⟨db, off + k * 3 + 2, none⟩ = some (.int .i64 m.doors[k].2.2) ∧ wq.cell? ⟨tb, toff + x1, none⟩ = some (.int .i64 v1) ∧ wq.cell? ⟨tb, toff + x2, none⟩ = some (.int .i64 v2)) [28] 29 #[false, false, false, false, false, false, false, false, false, false, false, false, false, false, false, false, false, false, false, false, false, false, false, false, false, false, false, false, false] rfl rfl (by kernel_rfl) ?_
        have hS : (fun wq => wq.cell? ⟨w.heap.size, 1, none⟩ = some (.slice (some ⟨db, off, none⟩) m.doors.length c) ∧ wq.cell? ⟨g, 1, none⟩ = some (.slice pa (M.putAll M.ltD [] (M.numDs m nt k)).length pc) ∧ wq.cell? ⟨db, off + k * 3, none⟩ = some (.int .i64 (x1 : Int)) ∧ wq.cell? ⟨db, off + k * 3 + 1, none⟩ = some (.int .i64 (x2 : Int)) ∧ wq.cell? ⟨db, off + k * 3 + 2, none⟩ = some (.int .i64 m.doors[k].2.2) ∧ wq.cell? ⟨tb, toff + x1, none⟩ = some (.int .i64 v1) ∧ wq.cell? ⟨tb, toff + x2, none⟩ = some (.int .i64 v2)) wr.drew := ⟨d1, b1, P0.out, P1.out, P2.out, T1.out, T2.out⟩
        refine wpAnyL_take (i := 0) (oi := { dst := some 22, op := Go.Op.fieldAddr 27 (Go.Operand.tmp 5) 1, type := 0, pos := "l2_mazes.go:221", after := #[], guard := none }) (v := ?av0) rfl (by kernel_rfl) (by kernel_rfl) (by kernel_rfl) (by kernel_rfl) (fun _ _ _ h => h) (Or.inl ⟨by rfl, ?ah0⟩) hS ?ar0
        case ah0 => (intro wS hSw; (try dsimp only at hSw); go_split_ands; go_simp; try with_reducible rfl)
        try simp only [Act.put, List.setIfInBounds_toArray, List.set_cons_zero, List.set_cons_succ]
        refine wpAnyL_take (i := 1) (oi := { dst := some 23, op := Go.Op.load 24 (Go.Operand.tmp 22), type := 24, pos := "l2_mazes.go:221", after := #[{ on := 0, ground := Go.Ground.data }], guard := none }) (v := ?av1) rfl (by kernel_rfl) (by kernel_rfl) (by kernel_rfl) (by kernel_rfl) (fun _ _ _ h => h) (Or.inl ⟨by rfl, ?ah1⟩) hS ?ar1
        case ah1 => (intro wS hSw; (try dsimp only at hSw); go_split_ands; go_simp; try with_reducible rfl)
        try simp only [Act.put, List.setIfInBounds_toArray, List.set_cons_zero, List.set_cons_succ]
        refine wpAnyL_take (i := 2) (oi := { dst := some 24, op := Go.Op.move (Go.Operand.tmp 1), type := 25, pos := "l2_mazes.go:221", after := #[], guard := none }) (v := ?av2) rfl (by kernel_rfl) (by kernel_rfl) (by kernel_rfl) (by kernel_rfl) (fun _ _ _ h => h) (Or.inl ⟨by rfl, ?ah2⟩) hS ?ar2
        case ah2 => (intro wS hSw; (try dsimp only at hSw); go_split_ands; go_simp; try with_reducible rfl)
        try simp only [Act.put, List.setIfInBounds_toArray, List.set_cons_zero, List.set_cons_succ]
        refine wpAnyL_take (i := 3) (oi := { dst := some 25, op := Go.Op.fieldAddr 27 (Go.Operand.tmp 2) 1, type := 0, pos := "l2_mazes.go:221", after := #[], guard := none }) (v := ?av3) rfl (by kernel_rfl) (by kernel_rfl) (by kernel_rfl) (by kernel_rfl) (fun _ _ _ h => h) (Or.inl ⟨by rfl, ?ah3⟩) hS ?ar3
        case ah3 => (intro wS hSw; (try dsimp only at hSw); go_split_ands; go_simp; try with_reducible rfl)
        try simp only [Act.put, List.setIfInBounds_toArray, List.set_cons_zero, List.set_cons_succ]
        refine wpAnyL_take (i := 4) (oi := { dst := some 26, op := Go.Op.load 24 (Go.Operand.tmp 25), type := 24, pos := "l2_mazes.go:221", after := #[{ on := 3, ground := Go.Ground.data }], guard := none }) (v := ?av4) rfl (by kernel_rfl) (by kernel_rfl) (by kernel_rfl) (by kernel_rfl) (fun _ _ _ h => h) (Or.inl ⟨by rfl, ?ah4⟩) hS ?ar4
        case ah4 => (intro wS hSw; (try dsimp only at hSw); go_split_ands; go_simp; try with_reducible rfl)
        try simp only [Act.put, List.setIfInBounds_toArray, List.set_cons_zero, List.set_cons_succ]
        refine wpAnyL_take (i := 5) (oi := { dst := some 27, op := Go.Op.move (Go.Operand.tmp 6), type := 3, pos := "l2_mazes.go:221", after := #[], guard := none }) (v := ?av5) rfl (by kernel_rfl) (by kernel_rfl) (by kernel_rfl) (by kernel_rfl) (fun _ _ _ h => h) (Or.inl ⟨by rfl, ?ah5⟩) hS ?ar5
        case ah5 => (intro wS hSw; (try dsimp only at hSw); go_split_ands; go_simp; try with_reducible rfl)
        try simp only [Act.put, List.setIfInBounds_toArray, List.set_cons_zero, List.set_cons_succ]
        refine wpAnyL_take (i := 6) (oi := { dst := some 28, op := Go.Op.indexAddr 24 (Go.Operand.tmp 26) (Go.Operand.tmp 27), type := 0, pos := "l2_mazes.go:221", after := #[{ on := 4, ground := Go.Ground.data }, { on := 5, ground := Go.Ground.data }], guard := none }) (v := ?av6) rfl (by kernel_rfl) (by kernel_rfl) (by kernel_rfl) (by kernel_rfl) (fun _ _ _ h => h) (Or.inl ⟨by rfl, ?ah6⟩) hS ?ar6
        case ah6 => (intro wS hSw; (try dsimp only at hSw); go_split_ands; go_simp; try with_reducible rfl)
        try simp only [Act.put, List.setIfInBounds_toArray, List.set_cons_zero, List.set_cons_succ]
        refine wpAnyL_take (i := 7) (oi := { dst := some 29, op := Go.Op.indexAddr 60 (Go.Operand.tmp 28) (Go.Operand.const (Go.Value.int Go.IntKind.i64 0)), type := 0, pos := "l2_mazes.go:221", after := #[{ on := 6, ground := Go.Ground.data }], guard := none }) (v := ?av7) rfl (by kernel_rfl) (by kernel_rfl) (by kernel_rfl) (by kernel_rfl) (fun _ _ _ h => h) (Or.inl ⟨by rfl, ?ah7⟩) hS ?ar7
        case ah7 => (intro wS hSw; (try dsimp only at hSw); go_split_ands; go_simp; try with_reducible rfl)
        try simp only [Act.put, List.setIfInBounds_toArray, List.set_cons_zero, List.set_cons_succ]
        refine wpAnyL_take (i := 8) (oi := { dst := some 30, op := Go.Op.load 3 (Go.Operand.tmp 29), type := 3, pos := "l2_mazes.go:221", after := #[{ on := 7, ground := Go.Ground.data }], guard := none }) (v := ?av8) rfl (by kernel_rfl) (by kernel_rfl) (by kernel_rfl) (by kernel_rfl) (fun _ _ _ h => h) (Or.inl ⟨by rfl, ?ah8⟩) hS ?ar8
        case ah8 => (intro wS hSw; (try dsimp only at hSw); go_split_ands; go_simp; try with_reducible rfl)
        try simp only [Act.put, List.setIfInBounds_toArray, List.set_cons_zero, List.set_cons_succ]
        refine wpAnyL_take (i := 9) (oi := { dst := some 31, op := Go.Op.indexAddr 25 (Go.Operand.tmp 24) (Go.Operand.tmp 30), type := 0, pos := "l2_mazes.go:221", after := #[{ on := 2, ground := Go.Ground.data }, { on := 8, ground := Go.Ground.data }], guard := none }) (v := ?av9) rfl (by kernel_rfl) (by kernel_rfl) (by kernel_rfl) (by kernel_rfl) (fun _ _ _ h => h) (Or.inl ⟨by rfl, ?ah9⟩) hS ?ar9
        case ah9 => (intro wS hSw; (try dsimp only at hSw); go_split_ands; go_simp; try with_reducible rfl)
        try simp only [Act.put, List.setIfInBounds_toArray, List.set_cons_zero, List.set_cons_succ]
        refine wpAnyL_take (i := 10) (oi := { dst := some 32, op := Go.Op.load 3 (Go.Operand.tmp 31), type := 3, pos := "l2_mazes.go:221", after := #[{ on := 9, ground := Go.Ground.data }], guard := none }) (v := ?av10) rfl (by kernel_rfl) (by kernel_rfl) (by kernel_rfl) (by kernel_rfl) (fun _ _ _ h => h) (Or.inl ⟨by rfl, ?ah10⟩) hS ?ar10
        case ah10 => (intro wS hSw; (try dsimp only at hSw); go_split_ands; go_simp; try with_reducible rfl)
        try simp only [Act.put, List.setIfInBounds_toArray, List.set_cons_zero, List.set_cons_succ]
        refine wpAnyL_take (i := 11) (oi := { dst := some 33, op := Go.Op.move (Go.Operand.tmp 1), type := 25, pos := "l2_mazes.go:221", after := #[], guard := none }) (v := ?av11) rfl (by kernel_rfl) (by kernel_rfl) (by kernel_rfl) (by kernel_rfl) (fun _ _ _ h => h) (Or.inl ⟨by rfl, ?ah11⟩) hS ?ar11
        case ah11 => (intro wS hSw; (try dsimp only at hSw); go_split_ands; go_simp; try with_reducible rfl)
        try simp only [Act.put, List.setIfInBounds_toArray, List.set_cons_zero, List.set_cons_succ]
        refine wpAnyL_take (i := 12) (oi := { dst := some 34, op := Go.Op.fieldAddr 27 (Go.Operand.tmp 2) 1, type := 0, pos := "l2_mazes.go:221", after := #[], guard := none }) (v := ?av12) rfl (by kernel_rfl) (by kernel_rfl) (by kernel_rfl) (by kernel_rfl) (fun _ _ _ h => h) (Or.inl ⟨by rfl, ?ah12⟩) hS ?ar12
        case ah12 => (intro wS hSw; (try dsimp only at hSw); go_split_ands; go_simp; try with_reducible rfl)
        try simp only [Act.put, List.setIfInBounds_toArray, List.set_cons_zero, List.set_cons_succ]
        refine wpAnyL_take (i := 13) (oi := { dst := some 35, op := Go.Op.load 24 (Go.Operand.tmp 34), type := 24, pos := "l2_mazes.go:221", after := #[{ on := 12, ground := Go.Ground.data }], guard := none }) (v := ?av13) rfl (by kernel_rfl) (by kernel_rfl) (by kernel_rfl) (by kernel_rfl) (fun _ _ _ h => h) (Or.inl ⟨by rfl, ?ah13⟩) hS ?ar13
        case ah13 => (intro wS hSw; (try dsimp only at hSw); go_split_ands; go_simp; try with_reducible rfl)
        try simp only [Act.put, List.setIfInBounds_toArray, List.set_cons_zero, List.set_cons_succ]
        refine wpAnyL_take (i := 14) (oi := { dst := some 36, op := Go.Op.move (Go.Operand.tmp 6), type := 3, pos := "l2_mazes.go:221", after := #[], guard := none }) (v := ?av14) rfl (by kernel_rfl) (by kernel_rfl) (by kernel_rfl) (by kernel_rfl) (fun _ _ _ h => h) (Or.inl ⟨by rfl, ?ah14⟩) hS ?ar14
        case ah14 => (intro wS hSw; (try dsimp only at hSw); go_split_ands; go_simp; try with_reducible rfl)
        try simp only [Act.put, List.setIfInBounds_toArray, List.set_cons_zero, List.set_cons_succ]
        refine wpAnyL_take (i := 15) (oi := { dst := some 37, op := Go.Op.indexAddr 24 (Go.Operand.tmp 35) (Go.Operand.tmp 36), type := 0, pos := "l2_mazes.go:221", after := #[{ on := 13, ground := Go.Ground.data }, { on := 14, ground := Go.Ground.data }], guard := none }) (v := ?av15) rfl (by kernel_rfl) (by kernel_rfl) (by kernel_rfl) (by kernel_rfl) (fun _ _ _ h => h) (Or.inl ⟨by rfl, ?ah15⟩) hS ?ar15
        case ah15 => (intro wS hSw; (try dsimp only at hSw); go_split_ands; go_simp; try with_reducible rfl)
        try simp only [Act.put, List.setIfInBounds_toArray, List.set_cons_zero, List.set_cons_succ]
        refine wpAnyL_take (i := 16) (oi := { dst := some 38, op := Go.Op.indexAddr 60 (Go.Operand.tmp 37) (Go.Operand.const (Go.Value.int Go.IntKind.i64 1)), type := 0, pos := "l2_mazes.go:221", after := #[{ on := 15, ground := Go.Ground.data }], guard := none }) (v := ?av16) rfl (by kernel_rfl) (by kernel_rfl) (by kernel_rfl) (by kernel_rfl) (fun _ _ _ h => h) (Or.inl ⟨by rfl, ?ah16⟩) hS ?ar16
        case ah16 => (intro wS hSw; (try dsimp only at hSw); go_split_ands; go_simp; try with_reducible rfl)
        try simp only [Act.put, List.setIfInBounds_toArray, List.set_cons_zero, List.set_cons_succ]
        refine wpAnyL_take (i := 17) (oi := { dst := some 39, op := Go.Op.load 3 (Go.Operand.tmp 38), type := 3, pos := "l2_mazes.go:221", after := #[{ on := 16, ground := Go.Ground.data }], guard := none }) (v := ?av17) rfl (by kernel_rfl) (by kernel_rfl) (by kernel_rfl) (by kernel_rfl) (fun _ _ _ h => h) (Or.inl ⟨by rfl, ?ah17⟩) hS ?ar17
        case ah17 => (intro wS hSw; (try dsimp only at hSw); go_split_ands; go_simp; try with_reducible rfl)
        try simp only [Act.put, List.setIfInBounds_toArray, List.set_cons_zero, List.set_cons_succ]
        refine wpAnyL_take (i := 18) (oi := { dst := some 40, op := Go.Op.indexAddr 25 (Go.Operand.tmp 33) (Go.Operand.tmp 39), type := 0, pos := "l2_mazes.go:221", after := #[{ on := 11, ground := Go.Ground.data }, { on := 17, ground := Go.Ground.data }], guard := none }) (v := ?av18) rfl (by kernel_rfl) (by kernel_rfl) (by kernel_rfl) (by kernel_rfl) (fun _ _ _ h => h) (Or.inl ⟨by rfl, ?ah18⟩) hS ?ar18
        case ah18 => (intro wS hSw; (try dsimp only at hSw); go_split_ands; go_simp; try with_reducible rfl)
        try simp only [Act.put, List.setIfInBounds_toArray, List.set_cons_zero, List.set_cons_succ]
        refine wpAnyL_take (i := 19) (oi := { dst := some 41, op := Go.Op.load 3 (Go.Operand.tmp 40), type := 3, pos := "l2_mazes.go:221", after := #[{ on := 18, ground := Go.Ground.data }], guard := none }) (v := ?av19) rfl (by kernel_rfl) (by kernel_rfl) (by kernel_rfl) (by kernel_rfl) (fun _ _ _ h => h) (Or.inl ⟨by rfl, ?ah19⟩) hS ?ar19
        case ah19 => (intro wS hSw; (try dsimp only at hSw); go_split_ands; go_simp; try with_reducible rfl)
        try simp only [Act.put, List.setIfInBounds_toArray, List.set_cons_zero, List.set_cons_succ]
        refine wpAnyL_take (i := 20) (oi := { dst := some 42, op := Go.Op.fieldAddr 27 (Go.Operand.tmp 2) 1, type := 0, pos := "l2_mazes.go:221", after := #[], guard := none }) (v := ?av20) rfl (by kernel_rfl) (by kernel_rfl) (by kernel_rfl) (by kernel_rfl) (fun _ _ _ h => h) (Or.inl ⟨by rfl, ?ah20⟩) hS ?ar20
        case ah20 => (intro wS hSw; (try dsimp only at hSw); go_split_ands; go_simp; try with_reducible rfl)
        try simp only [Act.put, List.setIfInBounds_toArray, List.set_cons_zero, List.set_cons_succ]
        refine wpAnyL_take (i := 21) (oi := { dst := some 43, op := Go.Op.load 24 (Go.Operand.tmp 42), type := 24, pos := "l2_mazes.go:221", after := #[{ on := 20, ground := Go.Ground.data }], guard := none }) (v := ?av21) rfl (by kernel_rfl) (by kernel_rfl) (by kernel_rfl) (by kernel_rfl) (fun _ _ _ h => h) (Or.inl ⟨by rfl, ?ah21⟩) hS ?ar21
        case ah21 => (intro wS hSw; (try dsimp only at hSw); go_split_ands; go_simp; try with_reducible rfl)
        try simp only [Act.put, List.setIfInBounds_toArray, List.set_cons_zero, List.set_cons_succ]
        refine wpAnyL_take (i := 22) (oi := { dst := some 44, op := Go.Op.move (Go.Operand.tmp 6), type := 3, pos := "l2_mazes.go:221", after := #[], guard := none }) (v := ?av22) rfl (by kernel_rfl) (by kernel_rfl) (by kernel_rfl) (by kernel_rfl) (fun _ _ _ h => h) (Or.inl ⟨by rfl, ?ah22⟩) hS ?ar22
        case ah22 => (intro wS hSw; (try dsimp only at hSw); go_split_ands; go_simp; try with_reducible rfl)
        try simp only [Act.put, List.setIfInBounds_toArray, List.set_cons_zero, List.set_cons_succ]
        refine wpAnyL_take (i := 23) (oi := { dst := some 45, op := Go.Op.indexAddr 24 (Go.Operand.tmp 43) (Go.Operand.tmp 44), type := 0, pos := "l2_mazes.go:221", after := #[{ on := 21, ground := Go.Ground.data }, { on := 22, ground := Go.Ground.data }], guard := none }) (v := ?av23) rfl (by kernel_rfl) (by kernel_rfl) (by kernel_rfl) (by kernel_rfl) (fun _ _ _ h => h) (Or.inl ⟨by rfl, ?ah23⟩) hS ?ar23
        case ah23 => (intro wS hSw; (try dsimp only at hSw); go_split_ands; go_simp; try with_reducible rfl)
        try simp only [Act.put, List.setIfInBounds_toArray, List.set_cons_zero, List.set_cons_succ]
        refine wpAnyL_take (i := 24) (oi := { dst := some 46, op := Go.Op.indexAddr 60 (Go.Operand.tmp 45) (Go.Operand.const (Go.Value.int Go.IntKind.i64 2)), type := 0, pos := "l2_mazes.go:221", after := #[{ on := 23, ground := Go.Ground.data }], guard := none }) (v := ?av24) rfl (by kernel_rfl) (by kernel_rfl) (by kernel_rfl) (by kernel_rfl) (fun _ _ _ h => h) (Or.inl ⟨by rfl, ?ah24⟩) hS ?ar24
        case ah24 => (intro wS hSw; (try dsimp only at hSw); go_split_ands; go_simp; try with_reducible rfl)
        try simp only [Act.put, List.setIfInBounds_toArray, List.set_cons_zero, List.set_cons_succ]
        refine wpAnyL_take (i := 25) (oi := { dst := some 47, op := Go.Op.load 3 (Go.Operand.tmp 46), type := 3, pos := "l2_mazes.go:221", after := #[{ on := 24, ground := Go.Ground.data }], guard := none }) (v := ?av25) rfl (by kernel_rfl) (by kernel_rfl) (by kernel_rfl) (by kernel_rfl) (fun _ _ _ h => h) (Or.inl ⟨by rfl, ?ah25⟩) hS ?ar25
        case ah25 => (intro wS hSw; (try dsimp only at hSw); go_split_ands; go_simp; try with_reducible rfl)
        try simp only [Act.put, List.setIfInBounds_toArray, List.set_cons_zero, List.set_cons_succ]
        refine wpAnyL_one (i := 26) (oi := { dst := some 48, op := Go.Op.call { callee := Go.Callee.value (Go.Operand.func 76), args := #[Go.Operand.tmp 23, Go.Operand.tmp 32, Go.Operand.tmp 41, Go.Operand.tmp 47], argTypes := #[24, 3, 3, 3] }, type := 24, pos := "l2_mazes.go:221", after := #[{ on := 1, ground := Go.Ground.data }, { on := 10, ground := Go.Ground.data }, { on := 19, ground := Go.Ground.data }, { on := 25, ground := Go.Ground.data }], guard := none }) (by kernel_rfl) rfl (fun K1 hK1 => ?_)
        refine step_call (by rfl) 76 #[.slice pa (M.putAll M.ltD [] (M.numDs m nt k)).length pc, .int .i64 v1, .int .i64 v2, .int .i64 m.doors[k].2.2] (by go_simp; try rfl) (PA.out wr.drew (Below.refl wr.heap.size wr).drew) ?_
        rintro e w5 ⟨pa2, pc2, rfl, hpp, hpp1, hpp2, hb5⟩
        refine ⟨_, rfl, ?_⟩
        have hb5' : Below wr.heap.size wr w5 := (Below.refl wr.heap.size wr).drew.trans hb5
        have bx5 := BX.out.below hb5'
        have mx5 := ST.out.box.below hb5'
        have hS5 : (fun wq => wq.cell? ⟨w.heap.size, 1, none⟩ = some (.slice (some ⟨db, off, none⟩) m.doors.length c) ∧ wq.cell? ⟨g, 1, none⟩ = some (.slice pa (M.putAll M.ltD [] (M.numDs m nt k)).length pc) ∧ wq.cell? ⟨db, off + k * 3, none⟩ = some (.int .i64 (x1 : Int)) ∧ wq.cell? ⟨db, off + k * 3 + 1, none⟩ = some (.int .i64 (x2 : Int)) ∧ wq.cell? ⟨db, off + k * 3 + 2, none⟩ = some (.int .i64 m.doors[k].2.2) ∧ wq.cell? ⟨tb, toff + x1, none⟩ = some (.int .i64 v1) ∧ wq.cell? ⟨tb, toff + x2, none⟩ = some (.int .i64 v2)) w5 := ⟨mx5.cells.2.1, bx5.cells.2.1, (hb5'.cell (p := ⟨db, off + k * 3, none⟩) (show db < _ by omega)).trans P0.out, (hb5'.cell (p := ⟨db, off + k * 3 + 1, none⟩) (show db < _ by omega)).trans P1.out, (hb5'.cell (p := ⟨db, off + k * 3 + 2, none⟩) (show db < _ by omega)).trans P2.out, (hb5'.cell (p := ⟨tb, toff + x1, none⟩) (show tb < _ by omega)).trans T1.out, (hb5'.cell (p := ⟨tb, toff + x2, none⟩) (show tb < _ by omega)).trans T2.out⟩
        refine hK1 _ _ (fun _ => hS5) ?_
        clear hS
        have hS := hS5
        try simp only [Act.put, List.setIfInBounds_toArray, List.set_cons_zero, List.set_cons_succ]
        refine wpAnyL_take (i := 27) (oi := { dst := some 49, op := Go.Op.fieldAddr 27 (Go.Operand.tmp 5) 1, type := 0, pos := "l2_mazes.go:221", after := #[{ on := 0, ground := Go.Ground.phase }, { on := 1, ground := Go.Ground.phase }, { on := 2, ground := Go.Ground.phase }, { on := 3, ground := Go.Ground.phase }, { on := 4, ground := Go.Ground.phase }, { on := 5, ground := Go.Ground.phase }, { on := 6, ground := Go.Ground.phase }, { on := 7, ground := Go.Ground.phase }, { on := 8, ground := Go.Ground.phase }, { on := 9, ground := Go.Ground.phase }, { on := 10, ground := Go.Ground.phase }, { on := 11, ground := Go.Ground.phase }, { on := 12, ground := Go.Ground.phase }, { on := 13, ground := Go.Ground.phase }, { on := 14, ground := Go.Ground.phase }, { on := 15, ground := Go.Ground.phase }, { on := 16, ground := Go.Ground.phase }, { on := 17, ground := Go.Ground.phase }, { on := 18, ground := Go.Ground.phase }, { on := 19, ground := Go.Ground.phase }, { on := 20, ground := Go.Ground.phase }, { on := 21, ground := Go.Ground.phase }, { on := 22, ground := Go.Ground.phase }, { on := 23, ground := Go.Ground.phase }, { on := 24, ground := Go.Ground.phase }, { on := 25, ground := Go.Ground.phase }, { on := 26, ground := Go.Ground.phase }], guard := none }) (v := ?bv27) rfl (by kernel_rfl) (by kernel_rfl) (by kernel_rfl) (by kernel_rfl) (fun _ _ _ h => h) (Or.inl ⟨by rfl, ?bh27⟩) hS ?br27
        case bh27 => (intro wS hSw; (try dsimp only at hSw); go_split_ands; go_simp; try with_reducible rfl)
        try simp only [Act.put, List.setIfInBounds_toArray, List.set_cons_zero, List.set_cons_succ]
        obtain ⟨b0, b1, b2⟩ := bx5.cells
        obtain ⟨g0, g1, g2⟩ := bx5.free
        have hl5 := bx5.lt
        refine wpAnyL_one (i := 28) (oi := { dst := none, op := Go.Op.store 24 (Go.Operand.tmp 49) (Go.Operand.tmp 48), type := 0, pos := "l2_mazes.go:221", after := #[{ on := 27, ground := Go.Ground.data }, { on := 26, ground := Go.Ground.data }, { on := 26, ground := Go.Ground.chain }, { on := 0, ground := Go.Ground.phase }, { on := 1, ground := Go.Ground.phase }, { on := 2, ground := Go.Ground.phase }, { on := 3, ground := Go.Ground.phase }, { on := 4, ground := Go.Ground.phase }, { on := 5, ground := Go.Ground.phase }, { on := 6, ground := Go.Ground.phase }, { on := 7, ground := Go.Ground.phase }, { on := 8, ground := Go.Ground.phase }, { on := 9, ground := Go.Ground.phase }, { on := 10, ground := Go.Ground.phase }, { on := 11, ground := Go.Ground.phase }, { on := 12, ground := Go.Ground.phase }, { on := 13, ground := Go.Ground.phase }, { on := 14, ground := Go.Ground.phase }, { on := 15, ground := Go.Ground.phase }, { on := 16, ground := Go.Ground.phase }, { on := 17, ground := Go.Ground.phase }, { on := 18, ground := Go.Ground.phase }, { on := 19, ground := Go.Ground.phase }, { on := 20, ground := Go.Ground.phase }, { on := 21, ground := Go.Ground.phase }, { on := 22, ground := Go.Ground.phase }, { on := 23, ground := Go.Ground.phase }, { on := 24, ground := Go.Ground.phase }, { on := 25, ground := Go.Ground.phase }, { on := 26, ground := Go.Ground.phase }], guard := none }) (by kernel_rfl) rfl (fun K2 hK2 => ?_)
        go_simp
        refine hK2 _ _ (fun h => absurd h (by decide)) ?_
        refine wpAnyL_done (by kernel_rfl) ?_ _
        all_goals
          go_wp2_with fail
          go_roundw
          case rel =>
            refine ⟨k + 1, by omega, by go_num, ?_⟩
            have hs5 := hb5'.size
            have hgne : w.heap.size ≠ g := by omega
            have hrne : w.heap.size + 1 ≠ g := by omega
            have kl := ST.out.kalt
            rw [M.numDs_succ hlt, M.putAll_snoc]
            rw [HMIN.out] at hpp hpp1 ⊢
            exact ⟨⟨pa2, pc2, bx5.set1 _, (hpp.boxed bx5 (by decide) 1 _).mono (Nat.le_refl _) (by simp [World.setCell]), hpp1, hpp2⟩, (ST.out.keys.below hb5' (by omega)).boxed bx5 (by decide) 1 _, mx5.other hgne 1 _, (ST.out.res.below hb5').other hrne 1 _, (ST.out.below.trans (hb5'.mono ST.out.below.size)).setCell (p := ⟨g, 1, none⟩) (by show w.heap.size ≤ g; omega) _, by simp [World.setCell]; omega⟩
          case measure => simp [intOf]; omega
      · obtain rfl : k = m.doors.length := by omega
        have hnlt : ¬ (m.doors.length : Int) < (m.doors.length : Int) := by omega
        obtain ⟨d0, d1, d2⟩ := ST.out.box.cells
        have hxl := ST.out.box.lt
        go_wp2_with fail
        go_loopw [7] (fun i wr => ∃ (k : Nat), k ≤ m.keys.length ∧ i = .int .i64 k ∧ NSt w m a b c d g ka W.heap.size wr (M.putAll M.ltD [] (M.numDs m nt m.doors.length)) (M.numKs m nt k)) (fun i _ => m.keys.length - (intOf i).toNat)
        case atStart => exact ⟨0, Nat.zero_le _, rfl, ST.out⟩
        case round =>
          obtain ⟨k, hk, rfl, hst2⟩ := hrel
          have ST2 := Lib.hid hst2
          clear hst2 d0 d1 d2
          obtain ⟨d0, d1, d2⟩ := ST2.out.box.cells
          by_cases hlt : k < m.keys.length
          · obtain ⟨kb, koff, hka, _, hkb, hc0⟩ := (H.out.keys.below ST2.out.below hz).at_ (k := k) (by rw [M.encIs_len]; exact hlt)
            have hkn : k < nt.length := by rw [HTL.out]; omega
            obtain ⟨tb, toff, hta, _, htb, ht0⟩ := (HT.out.below ST2.out.below htz).at_ (k := k) (by rw [M.encIs_len]; exact hkn)
            subst hka; subst hta
            obtain ⟨r1, r2⟩ := M.order_at HO.out (k := k) (by omega)
            obtain ⟨y, hy⟩ : ∃ y : Nat, nt.getD k 0 = (y : Int) := ⟨(nt.getD k 0).toNat, by omega⟩
            obtain ⟨v, hv⟩ : ∃ v, m.keys.getD k 0 = v := ⟨_, rfl⟩
            have T1 : wr.cell? ⟨tb, toff + k, none⟩ = some (.int .i64 (y : Int)) := by rw [← hy, List.getD_eq_getElem?_getD, List.getElem?_eq_getElem hkn]; exact ht0 _ _ (M.encIs_at hkn)
            have K1 : wr.cell? ⟨kb, koff + k, none⟩ = some (.int .i64 v) := by rw [← hv, List.getD_eq_getElem?_getD, List.getElem?_eq_getElem hlt]; exact hc0 _ _ (M.encIs_at hlt)
            obtain ⟨pa, pc, hbx, hpd, hp1, hp2⟩ := ST2.out.dm
            have hkl3 := M.numKs_len m nt k
            rw [hkl3, hnn] at hbx
            have hyn : y < n := by omega
            obtain ⟨ov, hov, co, fo⟩ := ST2.out.keys.cell0 (k := y) (by rw [M.encIs_len, hkl3, hnn]; exact hyn)
            obtain ⟨b0, b1, b2⟩ := hbx.cells
            have BX := Lib.hid hbx
            have PD := Lib.hid hpd
            have HY := Lib.hid hy
            have HV := Lib.hid hv
            have hltI : (k : Int) < m.size := by omega
            have hknI : (k : Int) < (nt.length : Int) := by omega
            have hynI : (y : Int) < (n : Int) := by omega
            have hkI : (k : Int) < (m.keys.length : Int) := by omega
            clear hbx hpd hc0 ht0 hy hv hov
            go_wp2_with fail
            refine wp_region_late2 (fun wq => wq.cell? ⟨w.heap.size, 2, none⟩ = some (.slice (some ⟨kb, koff, none⟩) m.keys.length d) ∧ wq.cell? ⟨g, 2, none⟩ = some (.slice (some ⟨ka, 0, none⟩) n n) ∧ wq.cell? ⟨tb, toff + k, none⟩ = some (.int .i64 (y : Int)) ∧ wq.cell? ⟨kb, koff + k, none⟩ = some (.int .i64 v)) [12] 13 #[false, false, false, false, false, false, false, false, false, false, false, false, false] rfl rfl (by kernel_rfl) ?_
            have hS : (fun wq => wq.cell? ⟨w.heap.size, 2, none⟩ = some (.slice (some ⟨kb, koff, none⟩) m.keys.length d) ∧ wq.cell? ⟨g, 2, none⟩ = some (.slice (some ⟨ka, 0, none⟩) n n) ∧ wq.cell? ⟨tb, toff + k, none⟩ = some (.int .i64 (y : Int)) ∧ wq.cell? ⟨kb, koff + k, none⟩ = some (.int .i64 v)) wr.drew := ⟨d2, b2, T1, K1⟩
            refine wpAnyL_take (i := 0) (oi := { dst := some 56, op := Go.Op.fieldAddr 27 (Go.Operand.tmp 5) 2, type := 0, pos := "l2_mazes.go:224", after := #[], guard := none }) (v := ?cv0) rfl (by kernel_rfl) (by kernel_rfl) (by kernel_rfl) (by kernel_rfl) (fun _ _ _ h => h) (Or.inl ⟨by rfl, ?ch0⟩) hS ?cr0
            case ch0 => (intro wS hSw; (try dsimp only at hSw); go_split_ands; go_simp; try with_reducible rfl)
            try simp only [Act.put, List.setIfInBounds_toArray, List.set_cons_zero, List.set_cons_succ]
            refine wpAnyL_take (i := 1) (oi := { dst := some 57, op := Go.Op.load 25 (Go.Operand.tmp 56), type := 25, pos := "l2_mazes.go:224", after := #[{ on := 0, ground := Go.Ground.data }], guard := none }) (v := ?cv1) rfl (by kernel_rfl) (by kernel_rfl) (by kernel_rfl) (by kernel_rfl) (fun _ _ _ h => h) (Or.inl ⟨by rfl, ?ch1⟩) hS ?cr1
            case ch1 => (intro wS hSw; (try dsimp only at hSw); go_split_ands; go_simp; try with_reducible rfl)
            try simp only [Act.put, List.setIfInBounds_toArray, List.set_cons_zero, List.set_cons_succ]
            refine wpAnyL_take (i := 2) (oi := { dst := some 58, op := Go.Op.move (Go.Operand.tmp 1), type := 25, pos := "l2_mazes.go:224", after := #[], guard := none }) (v := ?cv2) rfl (by kernel_rfl) (by kernel_rfl) (by kernel_rfl) (by kernel_rfl) (fun _ _ _ h => h) (Or.inl ⟨by rfl, ?ch2⟩) hS ?cr2
            case ch2 => (intro wS hSw; (try dsimp only at hSw); go_split_ands; go_simp; try with_reducible rfl)
            try simp only [Act.put, List.setIfInBounds_toArray, List.set_cons_zero, List.set_cons_succ]
            refine wpAnyL_take (i := 3) (oi := { dst := some 59, op := Go.Op.move (Go.Operand.tmp 7), type := 3, pos := "l2_mazes.go:224", after := #[], guard := none }) (v := ?cv3) rfl (by kernel_rfl) (by kernel_rfl) (by kernel_rfl) (by kernel_rfl) (fun _ _ _ h => h) (Or.inl ⟨by rfl, ?ch3⟩) hS ?cr3
            case ch3 => (intro wS hSw; (try dsimp only at hSw); go_split_ands; go_simp; try with_reducible rfl)
            try simp only [Act.put, List.setIfInBounds_toArray, List.set_cons_zero, List.set_cons_succ]
            refine wpAnyL_take (i := 4) (oi := { dst := some 60, op := Go.Op.indexAddr 25 (Go.Operand.tmp 58) (Go.Operand.tmp 59), type := 0, pos := "l2_mazes.go:224", after := #[{ on := 2, ground := Go.Ground.data }, { on := 3, ground := Go.Ground.data }], guard := none }) (v := ?cv4) rfl (by kernel_rfl) (by kernel_rfl) (by kernel_rfl) (by kernel_rfl) (fun _ _ _ h => h) (Or.inl ⟨by rfl, ?ch4⟩) hS ?cr4
            case ch4 => (intro wS hSw; (try dsimp only at hSw); go_split_ands; go_simp; try with_reducible rfl)
            try simp only [Act.put, List.setIfInBounds_toArray, List.set_cons_zero, List.set_cons_succ]
            refine wpAnyL_take (i := 5) (oi := { dst := some 61, op := Go.Op.load 3 (Go.Operand.tmp 60), type := 3, pos := "l2_mazes.go:224", after := #[{ on := 4, ground := Go.Ground.data }], guard := none }) (v := ?cv5) rfl (by kernel_rfl) (by kernel_rfl) (by kernel_rfl) (by kernel_rfl) (fun _ _ _ h => h) (Or.inl ⟨by rfl, ?ch5⟩) hS ?cr5
            case ch5 => (intro wS hSw; (try dsimp only at hSw); go_split_ands; go_simp; try with_reducible rfl)
            try simp only [Act.put, List.setIfInBounds_toArray, List.set_cons_zero, List.set_cons_succ]
            refine wpAnyL_take (i := 6) (oi := { dst := some 62, op := Go.Op.fieldAddr 27 (Go.Operand.tmp 2) 2, type := 0, pos := "l2_mazes.go:224", after := #[], guard := none }) (v := ?cv6) rfl (by kernel_rfl) (by kernel_rfl) (by kernel_rfl) (by kernel_rfl) (fun _ _ _ h => h) (Or.inl ⟨by rfl, ?ch6⟩) hS ?cr6
            case ch6 => (intro wS hSw; (try dsimp only at hSw); go_split_ands; go_simp; try with_reducible rfl)
            try simp only [Act.put, List.setIfInBounds_toArray, List.set_cons_zero, List.set_cons_succ]
            refine wpAnyL_take (i := 7) (oi := { dst := some 63, op := Go.Op.load 25 (Go.Operand.tmp 62), type := 25, pos := "l2_mazes.go:224", after := #[{ on := 6, ground := Go.Ground.data }], guard := none }) (v := ?cv7) rfl (by kernel_rfl) (by kernel_rfl) (by kernel_rfl) (by kernel_rfl) (fun _ _ _ h => h) (Or.inl ⟨by rfl, ?ch7⟩) hS ?cr7
            case ch7 => (intro wS hSw; (try dsimp only at hSw); go_split_ands; go_simp; try with_reducible rfl)
            try simp only [Act.put, List.setIfInBounds_toArray, List.set_cons_zero, List.set_cons_succ]
            refine wpAnyL_take (i := 8) (oi := { dst := some 64, op := Go.Op.move (Go.Operand.tmp 7), type := 3, pos := "l2_mazes.go:224", after := #[], guard := none }) (v := ?cv8) rfl (by kernel_rfl) (by kernel_rfl) (by kernel_rfl) (by kernel_rfl) (fun _ _ _ h => h) (Or.inl ⟨by rfl, ?ch8⟩) hS ?cr8
            case ch8 => (intro wS hSw; (try dsimp only at hSw); go_split_ands; go_simp; try with_reducible rfl)
            try simp only [Act.put, List.setIfInBounds_toArray, List.set_cons_zero, List.set_cons_succ]
            refine wpAnyL_take (i := 9) (oi := { dst := some 65, op := Go.Op.indexAddr 25 (Go.Operand.tmp 63) (Go.Operand.tmp 64), type := 0, pos := "l2_mazes.go:224", after := #[{ on := 7, ground := Go.Ground.data }, { on := 8, ground := Go.Ground.data }], guard := none }) (v := ?cv9) rfl (by kernel_rfl) (by kernel_rfl) (by kernel_rfl) (by kernel_rfl) (fun _ _ _ h => h) (Or.inl ⟨by rfl, ?ch9⟩) hS ?cr9
            case ch9 => (intro wS hSw; (try dsimp only at hSw); go_split_ands; go_simp; try with_reducible rfl)
            try simp only [Act.put, List.setIfInBounds_toArray, List.set_cons_zero, List.set_cons_succ]
            refine wpAnyL_take (i := 10) (oi := { dst := some 66, op := Go.Op.load 3 (Go.Operand.tmp 65), type := 3, pos := "l2_mazes.go:224", after := #[{ on := 9, ground := Go.Ground.data }], guard := none }) (v := ?cv10) rfl (by kernel_rfl) (by kernel_rfl) (by kernel_rfl) (by kernel_rfl) (fun _ _ _ h => h) (Or.inl ⟨by rfl, ?ch10⟩) hS ?cr10
            case ch10 => (intro wS hSw; (try dsimp only at hSw); go_split_ands; go_simp; try with_reducible rfl)
            try simp only [Act.put, List.setIfInBounds_toArray, List.set_cons_zero, List.set_cons_succ]
            refine wpAnyL_take (i := 11) (oi := { dst := some 67, op := Go.Op.indexAddr 25 (Go.Operand.tmp 57) (Go.Operand.tmp 61), type := 0, pos := "l2_mazes.go:224", after := #[{ on := 1, ground := Go.Ground.data }, { on := 5, ground := Go.Ground.data }, { on := 0, ground := Go.Ground.phase }, { on := 1, ground := Go.Ground.phase }, { on := 2, ground := Go.Ground.phase }, { on := 3, ground := Go.Ground.phase }, { on := 4, ground := Go.Ground.phase }, { on := 5, ground := Go.Ground.phase }, { on := 6, ground := Go.Ground.phase }, { on := 7, ground := Go.Ground.phase }, { on := 8, ground := Go.Ground.phase }, { on := 9, ground := Go.Ground.phase }, { on := 10, ground := Go.Ground.phase }], guard := none }) (v := ?cv11) rfl (by kernel_rfl) (by kernel_rfl) (by kernel_rfl) (by kernel_rfl) (fun _ _ _ h => h) (Or.inl ⟨by rfl, ?ch11⟩) hS ?cr11
            case ch11 => (intro wS hSw; (try dsimp only at hSw); go_split_ands; go_simp; try with_reducible rfl)
            try simp only [Act.put, List.setIfInBounds_toArray, List.set_cons_zero, List.set_cons_succ]
            refine wpAnyL_one (i := 12) (oi := { dst := none, op := Go.Op.store 3 (Go.Operand.tmp 67) (Go.Operand.tmp 66), type := 0, pos := "l2_mazes.go:224", after := #[{ on := 11, ground := Go.Ground.data }, { on := 10, ground := Go.Ground.data }, { on := 0, ground := Go.Ground.phase }, { on := 1, ground := Go.Ground.phase }, { on := 2, ground := Go.Ground.phase }, { on := 3, ground := Go.Ground.phase }, { on := 4, ground := Go.Ground.phase }, { on := 5, ground := Go.Ground.phase }, { on := 6, ground := Go.Ground.phase }, { on := 7, ground := Go.Ground.phase }, { on := 8, ground := Go.Ground.phase }, { on := 9, ground := Go.Ground.phase }, { on := 10, ground := Go.Ground.phase }], guard := none }) (by kernel_rfl) rfl (fun K2 hK2 => ?_)
            go_simp
            refine hK2 _ _ (fun h => absurd h (by decide)) ?_
            refine wpAnyL_done (by kernel_rfl) ?_ _
            all_goals
              go_wp2_with fail
              go_roundw
              case rel =>
                refine ⟨k + 1, by omega, by go_num, ?_⟩
                have e : M.numKs m nt (k + 1) = (M.numKs m nt k).set y v := by rw [M.numKs, HY.out, HV.out, Int.toNat_natCast]
                have hgne : w.heap.size ≠ ka := by omega
                have hrne : w.heap.size + 1 ≠ ka := by omega
                have kl := ST2.out.kalt
                rw [e]
                exact ⟨⟨pa, pc, by rw [List.length_set, hkl3, hnn]; exact BX.out.other hgk y _, (PD.out.far ST2.out.keys (by decide) rfl (k := y) (by rw [M.encIs_len, hkl3, hnn]; exact hyn) y _).mono (Nat.le_refl _) (by simp [World.setCell]), hp1, hp2⟩, by rw [encIs_set]; exact ST2.out.keys.set0 y _, ST2.out.box.other hgne y _, ST2.out.res.other hrne y _, (ST2.out.below.setCell (p := ⟨ka, y, none⟩) (by show w.heap.size ≤ ka; omega) _).drew, by simpa [World.setCell, World.drew] using kl⟩
              case measure => simp [intOf]; omega
          · obtain rfl : k = m.keys.length := by omega
            have hnlt2 : ¬ (m.keys.length : Int) < m.size := by omega
            obtain ⟨pa, pc, hbx, hpd, hp1, hp2⟩ := ST2.out.dm
            have hkl3 := M.numKs_len m nt m.keys.length
            have hmo : MzOwn W.heap.size wr.heap.size wr (M.numOf m nt) pa pc (some ⟨ka, 0, none⟩) (M.numKs m nt m.keys.length).length := by
              have kl := ST2.out.kalt
              have e : (M.numOf m nt).doors = M.putAll M.ltD [] (M.numDs m nt m.doors.length) := (M.num_put HVA.out HO.out).symm
              exact ⟨by rw [e]; exact hpd, (ST2.out.keys.mono hkW (by omega)), by rw [e]; exact hp1, hp2, Nat.le_refl _, by rw [hkl3]; omega⟩
            obtain ⟨b0, b1, b2⟩ := hbx.cells
            obtain ⟨k0, k1, k2⟩ := ST2.out.res.cells
            obtain ⟨f0, f1, f2⟩ := ST2.out.res.free
            have hyl2 := ST2.out.res.lt
            have HMO := Lib.hid hmo
            have hle : (M.putAll M.ltD [] (M.numDs m nt m.doors.length)).length = (M.numOf m nt).doors.length := by rw [M.num_put HVA.out HO.out]; rfl
            have HLE := Lib.hid hle
            clear hbx hpd hmo hkl3 hle
            go_wp2_with fail
            refine bodyPost_ret (v := .agg #[.int .i64 m.size, .slice pa (M.putAll M.ltD [] (M.numDs m nt m.doors.length)).length pc, .slice (some ⟨ka, 0, none⟩) (M.numKs m nt m.keys.length).length (M.numKs m nt m.keys.length).length]) (by simp [results, Try.results65, go_sem, k0, k1, k2]) rfl ?_
            rw [HLE.out]
            exact mz_endAt (m := M.numOf m nt) (lo := W.heap.size) ST2.out.below HMO.out (.inl (by omega)) (by omega) (by omega) (Nat.le_refl _) rfl rfl
end C
end Go.Proofs.Ytmccpjdgnenmeaa
