/-
  CONTRACT of impl.NumberMaze: the maze with other numbers of its nodes, in memory of its own, or the empty one and false; what lay in memory stays. No condition but that the arguments read so.
-/
import Derived.Test.YtmccpjdgnenmeaaAdd
import Derived.Test.YtmccpjdgnenmeaaNumMath
import Derived.Test.YtmccpjdgnenmeaaRen
import Derived.Test.YtmccpjdgnenmeaaMzAt
import Derived.Test.YtmccpjdgnenmeaaLate
import Derived.Deep.RegionHeld3
import Derived.Deep.DeepCutAuto
import Derived.OwnWalk
namespace Go.Proofs.Ytmccpjdgnenmeaa
open Go.RowKit
namespace M
def numRaw (m : Mz) (nt : List Int) : Mz := ⟨m.size, numDs m nt m.doors.length, numKs m nt m.keys.length⟩
theorem numRaw_B {m : Mz} {nt : List Int} (h : numB m nt = true) : sortedB (numRaw m nt) = true := by
  have h' := h
  unfold numB at h
  rw [Bool.and_eq_true] at h
  exact num_valid (valid_of h.1) h.2
theorem numRaw_V {m : Mz} {nt : List Int} (h : numB m nt = true) : sortedV (numRaw m nt) = numV m nt := by
  rw [sortedV_yes (numRaw_B h), numV_yes h]
  rfl
end M
namespace C
set_option maxHeartbeats 3200000
set_option maxRecDepth 20000
theorem ni_make_zero (n : Nat) : (madeCells (Value.int .i64 0).cells (n * 1)).toList = M.encIs (List.replicate n 0) := by
  refine List.ext_getElem? fun k => ?_
  unfold madeCells M.encIs
  rcases Nat.lt_or_ge k n with h | h
  · simp [h, Value.cells, Nat.mod_one]
  · simp [h]
theorem ni_make_run {i : TypeInfo} (hi : Try.prog.info? 3 = some i) (hz : i.zero = some (.int .i64 0)) (hs : i.size = 1) (hb : i.bytes = 8) {x : Int} {n : Nat} (hx : x = (n : Int)) (hn : n ≤ 1000) : ∃ zs : Array Value, zs.size = n ∧ zs.toList = M.encIs (List.replicate n 0) ∧ ∀ w : World,
    (Instr.makeSlice 25 (.int .i64 x) (.int .i64 x)).run Try.prog w = .ok (.slice (some ⟨w.heap.size, 0, none⟩) n n) (w.alloc (.cells zs 3)) := by
  subst hx
  refine ⟨madeCells (Value.int .i64 0).cells (n * 1), by rw [size_madeCells]; omega, ni_make_zero n, fun w => ?_⟩
  have := run_make (P := Try.prog) w 25 3 i (.int .i64 0) Try.underlying25 hi hz .i64 .i64 n n (by omega) (Int.le_refl _) (by rw [hb]; omega) (by omega)
  rw [Int.toNat_natCast, hs] at this
  exact this
theorem nobj_new {w : World} {o : Obj} {k : Nat} (hk : k = w.heap.size) : (w.alloc o).heap[k]? = some o := by subst hk; exact heap_alloc_new w o
theorem nobj_alloc {w : World} {o : Obj} {k : Nat} (o' : Obj) (h : w.heap[k]? = some o) : (w.alloc o').heap[k]? = some o := (Below.heap_alloc w o' k (heap_lt h)).trans h
theorem nobj2_0 (W : World) (o1 o2 : Obj) : ((W.alloc o1).alloc o2).drew.heap[W.heap.size]? = some o1 := nobj_alloc o2 (nobj_new rfl)
theorem nobj2_1 (W : World) (o1 o2 : Obj) : ((W.alloc o1).alloc o2).drew.heap[W.heap.size + 1]? = some o2 := nobj_new (by rw [World.size_alloc])
theorem nsize2 (W : World) (o1 o2 : Obj) : ((W.alloc o1).alloc o2).drew.heap.size = W.heap.size + 1 + 1 := by
  show ((W.alloc o1).alloc o2).heap.size = _
  rw [World.size_alloc, World.size_alloc]
theorem nbelow2 (W : World) (o1 o2 : Obj) : Below W.heap.size W ((W.alloc o1).alloc o2).drew :=
  (((Below.refl W.heap.size W).alloc (Nat.le_refl _) o1).alloc (by rw [World.size_alloc]; omega) o2).drew
theorem ni_grownRow {lo hi B size n : Nat} {w w' : World} {T e : TypeId} {a : Option Addr} {xs ys : List Value} {v : Value} (h : OwnAt lo hi w T a xs) (ho : w.ownsRow B e size v n ys) (hne : e ≠ T) (hg : w.grownBy w' v.ownBlock) : OwnAt lo hi w' T a xs := by
  rcases h with h | ⟨g, off, cur, ha, h1, h2, hh, hc⟩
  · exact .inl h
  · refine .inr ⟨g, off, cur, ha, h1, h2, (hg.block g (heap_lt hh) ?_).trans hh, hc⟩
    intro he
    rcases ho.2 with ⟨rfl, _⟩ | ⟨g', cap', cur', rfl, _, hh', _⟩
    · simp [Value.ownBlock] at he
    · have : g' = g := by simpa [Value.ownBlock] using he.symm
      subst this
      rw [hh] at hh'
      injection hh' with hh'
      injection hh' with _ ht
      exact hne ht.symm
/-- the maze that is built, in a box of its own -/
structure ISt (w : World) (m : M.Mz) (a b : Option Addr) (c d : Nat) (g ka B : Nat) (wr : World) (va : Option Addr) (vc : Nat) (ds : List M.Dr) (ks : List Int) : Prop where
  row : wr.ownsRow B 60 3 (.slice va ds.length vc) ds.length (M.encDs ds)
  keys : OwnAt ka (ka + 1) wr 3 (some ⟨ka, 0, none⟩) (M.encIs ks)
  box : Box3 wr w.heap.size 27 (.int .i64 m.size) (.slice a m.doors.length c) (.slice b m.keys.length d)
  res : Box3 wr (w.heap.size + 1) 27 (.int .i64 0) (.slice none 0 0) (.slice none 0 0)
  out : Box3 wr g 27 (.int .i64 m.size) (.slice va ds.length vc) (.slice (some ⟨ka, 0, none⟩) ks.length ks.length)
  low : Below w.heap.size w wr
  kalt : ka < wr.heap.size
theorem ISt.later {w : World} {m : M.Mz} {a b : Option Addr} {c d g ka B : Nat} {wr wr' : World} {va : Option Addr} {vc : Nat} {ds : List M.Dr} {ks : List Int} (h : ISt w m a b c d g ka B wr va vc ds ks) (hb : Below wr.heap.size wr wr') : ISt w m a b c d g ka B wr' va vc ds ks :=
  ⟨own_below h.row hb, h.keys.below hb h.kalt, h.box.below hb, h.res.below hb, h.out.below hb, h.low.trans (hb.mono h.low.size), Nat.lt_of_lt_of_le h.kalt hb.size⟩
theorem implNum_lw (w : World) (lo hi : Nat) (m : M.Mz) (a b : Option Addr) (c d : Nat) (h : MzIn lo hi w m a c b d) (hz : hi ≤ w.heap.size) (_h1 : m.doors.length ≤ 1048576) (_h2 : m.keys.length ≤ 1048576) (lo' hi' : Nat) (ta : Option Addr) (tc : Nat) (nt : List Int) (ht : RowIn lo' hi' w ta (M.encIs nt)) (hz' : hi' ≤ w.heap.size) (hl : nt.length ≤ 1048576) (_u1 : nt.length ≤ tc) (_u2 : tc ≤ 9223372036854775807) (_u3 : ∀ z ∈ nt, -9223372036854775808 ≤ z ∧ z ≤ 9223372036854775807) :
    Calls Try.prog 32 #[.agg #[.int .i64 m.size, .slice a m.doors.length c, .slice b m.keys.length d], .slice ta nt.length tc] w (MzOkPost w (M.numV m nt) (M.numB m nt)) := by
  obtain ⟨i0, hi0, hz0, hz1, hz2⟩ := info_parts infoD
  obtain ⟨ii0, hii0, hiz0, hiz1, hiz2⟩ := info_parts infoI
  have H := Lib.hid h
  have HT := Lib.hid ht
  clear h ht _u3
  go_enter Try.func32, Try.ntmps32
  go_wp2_with fail
  refine named ?_
  intro W hW
  have hb : Below w.heap.size w W := by rw [hW]; exact (below_alloc _ _).alloc (by simp) _
  have x1 : Box3 W w.heap.size 27 (.int .i64 m.size) (.slice a m.doors.length c) (.slice b m.keys.length d) := by rw [hW]; exact (Box3.new _ _ _ _ rfl).alloc _
  have y1 : Box3 W (w.heap.size + 1) 27 (.int .i64 0) (.slice none 0 0) (.slice none 0 0) := by rw [hW]; exact Box3.new _ _ _ _ (by simp)
  clear hW
  have hzw := hb.size
  refine (isMaze_any W lo hi m a b c d (H.out.below hb hz) (by omega)).mono ?_
  rintro e w1 ⟨rfl, hb1⟩
  have X1 := Lib.hid (x1.below hb1)
  have Y1 := Lib.hid (y1.below hb1)
  have hbl := Y1.out.lt
  have HB1 := Lib.hid (hb.trans (hb1.mono hzw))
  have hz1w := hb1.size
  clear hb hb1 x1 y1
  obtain ⟨c0, c1, c2⟩ := X1.out.cells
  obtain ⟨k0, k1, k2⟩ := Y1.out.cells
  obtain ⟨f0, f1, f2⟩ := Y1.out.free
  cases q0 : M.mazeB m with
  | false =>
    have HF : Hid (M.numB m nt = false) := Lib.hid (by unfold M.numB; rw [q0]; rfl)
    have HV := Lib.hid (M.numV_no HF.out)
    clear q0
    go_wp2_with fail
    refine bodyPost_ret (v := .tuple #[.agg #[.int .i64 0, .slice none 0 0, .slice none 0 0], .bool false]) (by simp [results, Try.results32, go_sem, k0, k1, k2]) rfl ?_
    rw [HF.out, HV.out]
    exact mzNo_end HB1.out
  | true =>
    have HQ := Lib.hid q0
    have HVA := Lib.hid (M.valid_of q0)
    have hdl := HVA.out.few
    have hkl := HVA.out.keysLen
    have hs12 := HVA.out.size12
    have hs1 := HVA.out.size1
    clear q0
    obtain ⟨n, hn⟩ : ∃ n : Nat, m.size = (n : Int) := ⟨m.size.toNat, by omega⟩
    have hnn : m.size.toNat = n := by omega
    have hn12 : n ≤ 12 := by omega
    have LO := isRen_any w1 lo' hi' ta tc nt n (HT.out.below HB1.out hz') (by omega) hl (by omega) (by omega)
    rw [← hn] at LO
    have HNS := Lib.hid hn
    clear hn
    go_wp2_with fail
    refine LO.mono ?_
    clear LO
    rintro e w2 ⟨rfl, hb2⟩
    have X2 := Lib.hid (X1.out.below hb2)
    have Y2 := Lib.hid (Y1.out.below hb2)
    have HB2 := Lib.hid (HB1.out.trans (hb2.mono (by omega)))
    have hz2w := hb2.size
    clear hb2 c0 c1 c2 k0 k1 k2 f0 f1 f2
    obtain ⟨c0, c1, c2⟩ := X2.out.cells
    obtain ⟨k0, k1, k2⟩ := Y2.out.cells
    obtain ⟨f0, f1, f2⟩ := Y2.out.free
    have hbl2 := Y2.out.lt
    cases q1 : M.orderB nt n with
    | false =>
      have HF : Hid (M.numB m nt = false) := Lib.hid (by unfold M.numB; rw [HQ.out, hnn, q1]; rfl)
      have HV := Lib.hid (M.numV_no HF.out)
      clear q1
      go_wp2_with fail
      refine bodyPost_ret (v := .tuple #[.agg #[.int .i64 0, .slice none 0 0, .slice none 0 0], .bool false]) (by simp [results, Try.results32, go_sem, k0, k1, k2]) rfl ?_
      rw [HF.out, HV.out]
      exact mzNo_end HB2.out
    | true =>
      have HF : Hid (M.numB m nt = true) := Lib.hid (by unfold M.numB; rw [HQ.out, hnn, q1]; rfl)
      have HO : Hid (M.orderB nt m.size.toNat = true) := Lib.hid (by rw [hnn]; exact q1)
      have HTL := Lib.hid (M.order_len q1)
      have hzb := HB2.out.size
      obtain ⟨zs, hzs1, hzs2, hmr⟩ := ni_make_run hii0 hiz0 hiz1 hiz2 HNS.out (by omega)
      have SX : ∀ wq, Below w2.heap.size w2 wq → wq.cell? ⟨w.heap.size, 0, none⟩ = some (.int .i64 m.size) := fun wq hq => (X2.out.below hq).cells.1
      clear q1
      go_upto_region 3 with fail
      go_cut [6] (fun s6 wx => ∃ g ka, s6 = .pointer (some ⟨g, 0, none⟩) ∧ Box3 wx g 27 (.int .i64 m.size) (.slice none 0 0) (.slice (some ⟨ka, 0, none⟩) n n) ∧ OwnAt ka (ka + 1) wx 3 (some ⟨ka, 0, none⟩) (M.encIs (List.replicate n 0)) ∧ g ≠ ka ∧ w2.heap.size ≤ g ∧ w2.heap.size ≤ ka ∧ ka < wx.heap.size ∧ Below w2.heap.size w2 wx)
      case first =>
        go_region_held3 (fun wq => wq.cell? ⟨w.heap.size, 0, none⟩ = some (.int .i64 m.size)) (first | exact c0 | (refine SX _ ?_; repeat (first | exact Below.refl _ _ | refine Below.drew ?_ | refine Below.alloc ?_ (by first | exact Nat.le_refl _ | (simp; done) | (simp; omega)) _)) | go_keep) (fail)
        all_goals
          go_wp2_with fail
          go_meet
          have hnr : M.encIs (List.replicate n 0) = zs.toList := hzs2.symm
          rw [hnr]
          first
          | exact ⟨w2.heap.size, w2.heap.size + 1, rfl, nobj2_0 _ _ _, .inr ⟨w2.heap.size + 1, 0, zs, rfl, Nat.le_refl _, Nat.lt_succ_self _, nobj2_1 _ _ _, fun i u hu => by simpa using hu⟩, by omega, by omega, by omega, (nsize2 _ _ _).symm ▸ by omega, nbelow2 _ _ _⟩
          | exact ⟨w2.heap.size + 1, w2.heap.size, rfl, nobj2_1 _ _ _, .inr ⟨w2.heap.size, 0, zs, rfl, Nat.le_refl _, Nat.lt_succ_self _, nobj2_0 _ _ _, fun i u hu => by simpa using hu⟩, by omega, by omega, by omega, (nsize2 _ _ _).symm ▸ by omega, nbelow2 _ _ _⟩
      case rest =>
        obtain ⟨g, ka, rfl, hbx, hks, hgk, hgW, hkW, hkl2, hbc⟩ := hcut
        have st0 : ISt w m a b c d g ka w2.heap.size wc none 0 [] (M.numKs m nt 0) := by
          have e : M.numKs m nt 0 = List.replicate n 0 := by show List.replicate m.size.toNat 0 = _; rw [hnn]
          rw [e]
          exact ⟨World.ownsRow_nil _ _ _ _, hks, X2.out.below hbc, Y2.out.below hbc, by rw [List.length_replicate]; exact hbx, HB2.out.trans (hbc.mono hzb), hkl2⟩
        have ST0 := Lib.hid st0
        have hwc := hbc.size
        clear hbx hks hbc c0 c1 c2 k0 k1 k2 f0 f1 f2 hmr hzs2 SX
        obtain ⟨c0, c1, c2⟩ := st0.box.cells
        clear st0
        go_wp2_with fail
        go_loopw [7, 8, 31] (fun _ _ i wr => ∃ (k : Nat), k ≤ m.keys.length ∧ i = .int .i64 k ∧ ISt w m a b c d g ka w2.heap.size wr none 0 [] (M.numKs m nt k)) (fun _ _ i _ => m.keys.length - (intOf i).toNat)
        case atStart => exact ⟨0, Nat.zero_le _, rfl, ST0.out⟩
        case round =>
          obtain ⟨k, hk, rfl, hst2⟩ := hrel
          have ST2 := Lib.hid hst2
          clear hst2 c0 c1 c2
          obtain ⟨c0, c1, c2⟩ := ST2.out.box.cells
          have hxl2 := ST2.out.box.lt
          by_cases hlt : k < m.keys.length
          · obtain ⟨kb, koff, hka, _, hkb, hc0⟩ := (H.out.keys.below ST2.out.low hz).at_ (k := k) (by rw [M.encIs_len]; exact hlt)
            have hkn : k < nt.length := by rw [HTL.out]; omega
            obtain ⟨tb, toff, hta, _, htb, ht0⟩ := (HT.out.below ST2.out.low hz').at_ (k := k) (by rw [M.encIs_len]; exact hkn)
            subst hka; subst hta
            obtain ⟨r1, r2⟩ := M.order_at HO.out (k := k) (by omega)
            obtain ⟨y, hy⟩ : ∃ y : Nat, nt.getD k 0 = (y : Int) := ⟨(nt.getD k 0).toNat, by omega⟩
            obtain ⟨v, hv⟩ : ∃ v, m.keys.getD k 0 = v := ⟨_, rfl⟩
            have T1 : wr.cell? ⟨tb, toff + k, none⟩ = some (.int .i64 (y : Int)) := by rw [← hy, List.getD_eq_getElem?_getD, List.getElem?_eq_getElem hkn]; exact ht0 _ _ (M.encIs_at hkn)
            have K1 : wr.cell? ⟨kb, koff + k, none⟩ = some (.int .i64 v) := by rw [← hv, List.getD_eq_getElem?_getD, List.getElem?_eq_getElem hlt]; exact hc0 _ _ (M.encIs_at hlt)
            have hbx := ST2.out.out
            have hkl3 := M.numKs_len m nt k
            rw [hkl3, hnn] at hbx
            have hyn : y < n := by omega
            obtain ⟨ov, hov, co, fo⟩ := ST2.out.keys.cell0 (k := y) (by rw [M.encIs_len, hkl3, hnn]; exact hyn)
            obtain ⟨b0, b1, b2⟩ := hbx.cells
            have BX := Lib.hid hbx
            have HY := Lib.hid hy
            have HV := Lib.hid hv
            have hltI : (k : Int) < (m.keys.length : Int) := by omega
            have hknI : (k : Int) < (nt.length : Int) := by omega
            have hynI : (y : Int) < (n : Int) := by omega
            clear hbx hc0 ht0 hy hv hov
            go_wp2_with fail
            refine wp_region_late2 (fun wq => wq.cell? ⟨g, 2, none⟩ = some (.slice (some ⟨ka, 0, none⟩) n n) ∧ wq.cell? ⟨tb, toff + k, none⟩ = some (.int .i64 (y : Int))) [8] 9 #[false, false, false, false, false, false, false, false, false] rfl rfl (by kernel_rfl) ?_
            have hS : (fun wq => wq.cell? ⟨g, 2, none⟩ = some (.slice (some ⟨ka, 0, none⟩) n n) ∧ wq.cell? ⟨tb, toff + k, none⟩ = some (.int .i64 (y : Int))) wr.drew := ⟨b2, T1⟩
            refine wpAnyL_take (i := 0) (oi := { dst := some 36, op := Go.Op.fieldAddr 27 (Go.Operand.tmp 6) 2, type := 0, pos := "l2_mazes.go:251", after := #[], guard := none }) (v := ?cv0) rfl (by kernel_rfl) (by kernel_rfl) (by kernel_rfl) (by kernel_rfl) (fun _ _ _ h => h) (Or.inl ⟨by rfl, ?ch0⟩) hS ?cr0
            case ch0 => (intro wS hSw; (try dsimp only at hSw); go_split_ands; go_simp; try with_reducible rfl)
            try simp only [Act.put, List.setIfInBounds_toArray, List.set_cons_zero, List.set_cons_succ]
            refine wpAnyL_take (i := 1) (oi := { dst := some 37, op := Go.Op.load 25 (Go.Operand.tmp 36), type := 25, pos := "l2_mazes.go:251", after := #[{ on := 0, ground := Go.Ground.data }], guard := none }) (v := ?cv1) rfl (by kernel_rfl) (by kernel_rfl) (by kernel_rfl) (by kernel_rfl) (fun _ _ _ h => h) (Or.inl ⟨by rfl, ?ch1⟩) hS ?cr1
            case ch1 => (intro wS hSw; (try dsimp only at hSw); go_split_ands; go_simp; try with_reducible rfl)
            try simp only [Act.put, List.setIfInBounds_toArray, List.set_cons_zero, List.set_cons_succ]
            refine wpAnyL_take (i := 2) (oi := { dst := some 38, op := Go.Op.move (Go.Operand.tmp 1), type := 25, pos := "l2_mazes.go:251", after := #[], guard := none }) (v := ?cv2) rfl (by kernel_rfl) (by kernel_rfl) (by kernel_rfl) (by kernel_rfl) (fun _ _ _ h => h) (Or.inl ⟨by rfl, ?ch2⟩) hS ?cr2
            case ch2 => (intro wS hSw; (try dsimp only at hSw); go_split_ands; go_simp; try with_reducible rfl)
            try simp only [Act.put, List.setIfInBounds_toArray, List.set_cons_zero, List.set_cons_succ]
            refine wpAnyL_take (i := 3) (oi := { dst := some 39, op := Go.Op.move (Go.Operand.tmp 7), type := 3, pos := "l2_mazes.go:251", after := #[], guard := none }) (v := ?cv3) rfl (by kernel_rfl) (by kernel_rfl) (by kernel_rfl) (by kernel_rfl) (fun _ _ _ h => h) (Or.inl ⟨by rfl, ?ch3⟩) hS ?cr3
            case ch3 => (intro wS hSw; (try dsimp only at hSw); go_split_ands; go_simp; try with_reducible rfl)
            try simp only [Act.put, List.setIfInBounds_toArray, List.set_cons_zero, List.set_cons_succ]
            refine wpAnyL_take (i := 4) (oi := { dst := some 40, op := Go.Op.indexAddr 25 (Go.Operand.tmp 38) (Go.Operand.tmp 39), type := 0, pos := "l2_mazes.go:251", after := #[{ on := 2, ground := Go.Ground.data }, { on := 3, ground := Go.Ground.data }], guard := none }) (v := ?cv4) rfl (by kernel_rfl) (by kernel_rfl) (by kernel_rfl) (by kernel_rfl) (fun _ _ _ h => h) (Or.inl ⟨by rfl, ?ch4⟩) hS ?cr4
            case ch4 => (intro wS hSw; (try dsimp only at hSw); go_split_ands; go_simp; try with_reducible rfl)
            try simp only [Act.put, List.setIfInBounds_toArray, List.set_cons_zero, List.set_cons_succ]
            refine wpAnyL_take (i := 5) (oi := { dst := some 41, op := Go.Op.load 3 (Go.Operand.tmp 40), type := 3, pos := "l2_mazes.go:251", after := #[{ on := 4, ground := Go.Ground.data }], guard := none }) (v := ?cv5) rfl (by kernel_rfl) (by kernel_rfl) (by kernel_rfl) (by kernel_rfl) (fun _ _ _ h => h) (Or.inl ⟨by rfl, ?ch5⟩) hS ?cr5
            case ch5 => (intro wS hSw; (try dsimp only at hSw); go_split_ands; go_simp; try with_reducible rfl)
            try simp only [Act.put, List.setIfInBounds_toArray, List.set_cons_zero, List.set_cons_succ]
            refine wpAnyL_take (i := 6) (oi := { dst := some 42, op := Go.Op.move (Go.Operand.tmp 8), type := 3, pos := "l2_mazes.go:251", after := #[], guard := none }) (v := ?cv6) rfl (by kernel_rfl) (by kernel_rfl) (by kernel_rfl) (by kernel_rfl) (fun _ _ _ h => h) (Or.inl ⟨by rfl, ?ch6⟩) hS ?cr6
            case ch6 => (intro wS hSw; (try dsimp only at hSw); go_split_ands; go_simp; try with_reducible rfl)
            try simp only [Act.put, List.setIfInBounds_toArray, List.set_cons_zero, List.set_cons_succ]
            refine wpAnyL_take (i := 7) (oi := { dst := some 43, op := Go.Op.indexAddr 25 (Go.Operand.tmp 37) (Go.Operand.tmp 41), type := 0, pos := "l2_mazes.go:251", after := #[{ on := 1, ground := Go.Ground.data }, { on := 5, ground := Go.Ground.data }, { on := 0, ground := Go.Ground.phase }, { on := 1, ground := Go.Ground.phase }, { on := 2, ground := Go.Ground.phase }, { on := 3, ground := Go.Ground.phase }, { on := 4, ground := Go.Ground.phase }, { on := 5, ground := Go.Ground.phase }, { on := 6, ground := Go.Ground.phase }], guard := none }) (v := ?cv7) rfl (by kernel_rfl) (by kernel_rfl) (by kernel_rfl) (by kernel_rfl) (fun _ _ _ h => h) (Or.inl ⟨by rfl, ?ch7⟩) hS ?cr7
            case ch7 => (intro wS hSw; (try dsimp only at hSw); go_split_ands; go_simp; try with_reducible rfl)
            try simp only [Act.put, List.setIfInBounds_toArray, List.set_cons_zero, List.set_cons_succ]
            refine wpAnyL_one (i := 8) (oi := { dst := none, op := Go.Op.store 3 (Go.Operand.tmp 43) (Go.Operand.tmp 42), type := 0, pos := "l2_mazes.go:251", after := #[{ on := 7, ground := Go.Ground.data }, { on := 6, ground := Go.Ground.data }, { on := 0, ground := Go.Ground.phase }, { on := 1, ground := Go.Ground.phase }, { on := 2, ground := Go.Ground.phase }, { on := 3, ground := Go.Ground.phase }, { on := 4, ground := Go.Ground.phase }, { on := 5, ground := Go.Ground.phase }, { on := 6, ground := Go.Ground.phase }], guard := none }) (by kernel_rfl) rfl (fun K2 hK2 => ?_)
            go_simp
            refine hK2 _ _ (fun h => absurd h (by decide)) ?_
            refine wpAnyL_done (by kernel_rfl) ?_ _
            all_goals
              go_wp2_with fail
              go_roundw
              case rel =>
                refine ⟨k + 1, by omega, by go_num, ?_⟩
                have e : M.numKs m nt (k + 1) = (M.numKs m nt k).set y v := by rw [M.numKs, HY.out, HV.out, Int.toNat_natCast]
                have hgne : w.heap.size ≠ ka := by omega
                have hrne : w.heap.size + 1 ≠ ka := by omega
                have kl := ST2.out.kalt
                rw [e]
                exact ⟨World.ownsRow_nil _ _ _ _, by rw [encIs_set]; exact ST2.out.keys.set0 y _, ST2.out.box.other hgne y _, ST2.out.res.other hrne y _, by rw [List.length_set, hkl3, hnn]; exact BX.out.other hgk y _, (ST2.out.low.setCell (p := ⟨ka, y, none⟩) (by show w.heap.size ≤ ka; omega) _).drew, by simpa [World.setCell, World.drew] using kl⟩
              case measure => simp [intOf]; omega
          · obtain rfl : k = m.keys.length := by omega
            have hnlt2 : ¬ (m.keys.length : Int) < (m.keys.length : Int) := by omega
            have hkl3 := M.numKs_len m nt m.keys.length
            generalize hKS : M.numKs m nt m.keys.length = ks at *
            have HKS := Lib.hid hKS
            have HKL := Lib.hid hkl3
            clear hKS hkl3
            go_wp2_with fail
            go_loopw [10, 48] (fun _ i wr => ∃ (k : Nat) (va : Option Addr) (vc : Nat), k ≤ m.doors.length ∧ i = .int .i64 k ∧ ISt w m a b c d g ka w2.heap.size wr va vc (M.numDs m nt k) ks) (fun _ i _ => m.doors.length - (intOf i).toNat)
            case atStart => exact ⟨0, none, 0, Nat.zero_le _, rfl, by have e : M.numDs m nt 0 = [] := rfl; rw [e]; exact ST2.out⟩
            case round =>
              obtain ⟨k, va, vc, hk, rfl, hst⟩ := hrel
              have SR := Lib.hid hst
              have hzr := hst.low.size
              have hol := hst.out.lt
              have hxl := hst.box.lt
              have hdn : (M.numDs m nt k).length ≤ 30 := by rw [M.numDs_len hk]; omega
              clear hst c0 c1 c2
              by_cases hlt : k < m.doors.length
              · obtain ⟨db, off, hda, _, hdb, hc0⟩ := (H.out.doors.below SR.out.low hz).at_ (k := k * 3) (by rw [M.encDs_len]; omega)
                subst hda
                obtain ⟨q1, q2, q3, q4, q5, q6, q7⟩ := HVA.out.door k hlt
                obtain ⟨x1, hx1⟩ : ∃ x : Nat, m.doors[k].1 = (x : Int) := ⟨m.doors[k].1.toNat, by omega⟩
                obtain ⟨x2, hx2⟩ : ∃ x : Nat, m.doors[k].2.1 = (x : Int) := ⟨m.doors[k].2.1.toNat, by omega⟩
                have hx1n : x1 < nt.length := by rw [HTL.out]; omega
                have hx2n : x2 < nt.length := by rw [HTL.out]; omega
                obtain ⟨tb, toff, hta, _, htb, ht0⟩ := (HT.out.below SR.out.low hz').at_ (k := x1) (by rw [M.encIs_len]; exact hx1n)
                subst hta
                have hdbw : db < w.heap.size := by omega
                have htbw : tb < w.heap.size := by omega
                obtain ⟨v1, hv1⟩ : ∃ v, nt.getD x1 0 = v := ⟨_, rfl⟩
                obtain ⟨v2, hv2⟩ : ∃ v, nt.getD x2 0 = v := ⟨_, rfl⟩
                obtain ⟨nd, hnd⟩ : ∃ v, m.doors[k].2.2 = v := ⟨_, rfl⟩
                have p0 : wr.cell? ⟨db, off + k * 3, none⟩ = some (.int .i64 (x1 : Int)) := by rw [← hx1]; exact hc0 _ _ (M.encDs_at0 hlt)
                have p1 : wr.cell? ⟨db, off + k * 3 + 1, none⟩ = some (.int .i64 (x2 : Int)) := by rw [← hx2]; exact hc0 _ _ (M.encDs_at1 hlt)
                have p2 : wr.cell? ⟨db, off + k * 3 + 2, none⟩ = some (.int .i64 nd) := by rw [← hnd]; exact hc0 _ _ (M.encDs_at2 hlt)
                have T1 : Hid (wr.cell? ⟨tb, toff + x1, none⟩ = some (.int .i64 v1)) := Lib.hid (by rw [← hv1, List.getD_eq_getElem?_getD, List.getElem?_eq_getElem hx1n]; exact ht0 _ _ (M.encIs_at hx1n))
                have T2 : Hid (wr.cell? ⟨tb, toff + x2, none⟩ = some (.int .i64 v2)) := Lib.hid (by rw [← hv2, List.getD_eq_getElem?_getD, List.getElem?_eq_getElem hx2n]; exact ht0 _ _ (M.encIs_at hx2n))
                have hdo : M.doorOf v1 v2 nd = M.numD nt m.doors[k] := by
                  unfold M.numD
                  rw [hx1, hx2, Int.toNat_natCast, Int.toNat_natCast, hv1, hv2, hnd]
                have HDO := Lib.hid hdo
                have HSU : Hid (M.numDs m nt (k + 1) = M.numDs m nt k ++ [M.numD nt m.doors[k]]) := Lib.hid (M.numDs_succ hlt)
                have hltI : (k : Int) < (m.doors.length : Int) := by omega
                have hx1I : (x1 : Int) < (nt.length : Int) := by omega
                have hx2I : (x2 : Int) < (nt.length : Int) := by omega
                clear hc0 ht0 hdo hx1 hx2 hv1 hv2 hnd
                generalize hDS : M.numDs m nt k = ds at *
                clear hDS
                go_wp2_with fail
                refine wp_named ?_
                intro W7 hW7
                have hb7 : Below wr.heap.size wr W7 := by rw [hW7]; exact below_alloc _ _
                have n7 : Box3 W7 wr.heap.size 60 (.int .i64 x1) (.int .i64 x2) (.int .i64 nd) := by rw [hW7]; exact Box3.new _ _ _ _ rfl
                have S7 := Lib.hid (SR.out.later hb7)
                have N7 := Lib.hid n7
                have hz7 := hb7.size
                have hn7 := n7.lt
                have T17 := Lib.hid ((hb7.cell (p := ⟨tb, toff + x1, none⟩) (show tb < _ by omega)).trans T1.out)
                have T27 := Lib.hid ((hb7.cell (p := ⟨tb, toff + x2, none⟩) (show tb < _ by omega)).trans T2.out)
                have HNN : Hid (Value.ownBlock (.slice va ds.length vc) ≠ some wr.heap.size) := Lib.hid (fun he => by have := (SR.out.row.lt _ he).2; omega)
                have o7 : W7.drew.ownsRow w2.heap.size 60 3 (.slice va ds.length vc) ds.length (M.encDs ds) := S7.out.row
                have O7 := Lib.hid o7
                obtain ⟨b0, b1, b2⟩ := S7.out.out.cells
                clear hW7 hb7 n7 p0 p1 p2 T1 T2 o7
                refine wp_region_late2 (fun wq => wq.cell? ⟨g, 1, none⟩ = some (.slice va ds.length vc) ∧ wq.cell? ⟨wr.heap.size, 0, none⟩ = some (.int .i64 (x1 : Int)) ∧ wq.cell? ⟨wr.heap.size, 1, none⟩ = some (.int .i64 (x2 : Int)) ∧ wq.cell? ⟨wr.heap.size, 2, none⟩ = some (.int .i64 nd) ∧ wq.cell? ⟨tb, toff + x1, none⟩ = some (.int .i64 v1) ∧ wq.cell? ⟨tb, toff + x2, none⟩ = some (.int .i64 v2)) [18] 19 #[false, false, false, false, false, false, false, false, false, false, false, false, false, false, false, false, false, false, false] rfl rfl (by kernel_rfl) ?_
                have hS : (fun wq => wq.cell? ⟨g, 1, none⟩ = some (.slice va ds.length vc) ∧ wq.cell? ⟨wr.heap.size, 0, none⟩ = some (.int .i64 (x1 : Int)) ∧ wq.cell? ⟨wr.heap.size, 1, none⟩ = some (.int .i64 (x2 : Int)) ∧ wq.cell? ⟨wr.heap.size, 2, none⟩ = some (.int .i64 nd) ∧ wq.cell? ⟨tb, toff + x1, none⟩ = some (.int .i64 v1) ∧ wq.cell? ⟨tb, toff + x2, none⟩ = some (.int .i64 v2)) W7.drew := ⟨b1, N7.out.cells.1, N7.out.cells.2.1, N7.out.cells.2.2, T17.out, T27.out⟩
                refine wpAnyL_take (i := 0) (oi := { dst := some 52, op := Go.Op.fieldAddr 27 (Go.Operand.tmp 6) 1, type := 0, pos := "l2_mazes.go:254", after := #[], guard := none }) (v := ?av0) rfl (by kernel_rfl) (by kernel_rfl) (by kernel_rfl) (by kernel_rfl) (fun _ _ _ h => h) (Or.inl ⟨by rfl, ?ah0⟩) hS ?ar0
                case ah0 => (intro wS hSw; (try dsimp only at hSw); go_split_ands; go_simp; try with_reducible rfl)
                try simp only [Act.put, List.setIfInBounds_toArray, List.set_cons_zero, List.set_cons_succ]
                refine wpAnyL_take (i := 1) (oi := { dst := some 53, op := Go.Op.load 24 (Go.Operand.tmp 52), type := 24, pos := "l2_mazes.go:254", after := #[{ on := 0, ground := Go.Ground.data }], guard := none }) (v := ?av1) rfl (by kernel_rfl) (by kernel_rfl) (by kernel_rfl) (by kernel_rfl) (fun _ _ _ h => h) (Or.inl ⟨by rfl, ?ah1⟩) hS ?ar1
                case ah1 => (intro wS hSw; (try dsimp only at hSw); go_split_ands; go_simp; try with_reducible rfl)
                try simp only [Act.put, List.setIfInBounds_toArray, List.set_cons_zero, List.set_cons_succ]
                refine wpAnyL_take (i := 2) (oi := { dst := some 54, op := Go.Op.move (Go.Operand.tmp 1), type := 25, pos := "l2_mazes.go:254", after := #[], guard := none }) (v := ?av2) rfl (by kernel_rfl) (by kernel_rfl) (by kernel_rfl) (by kernel_rfl) (fun _ _ _ h => h) (Or.inl ⟨by rfl, ?ah2⟩) hS ?ar2
                case ah2 => (intro wS hSw; (try dsimp only at hSw); go_split_ands; go_simp; try with_reducible rfl)
                try simp only [Act.put, List.setIfInBounds_toArray, List.set_cons_zero, List.set_cons_succ]
                refine wpAnyL_take (i := 3) (oi := { dst := some 55, op := Go.Op.indexAddr 60 (Go.Operand.tmp 10) (Go.Operand.const (Go.Value.int Go.IntKind.i64 0)), type := 0, pos := "l2_mazes.go:254", after := #[], guard := none }) (v := ?av3) rfl (by kernel_rfl) (by kernel_rfl) (by kernel_rfl) (by kernel_rfl) (fun _ _ _ h => h) (Or.inl ⟨by rfl, ?ah3⟩) hS ?ar3
                case ah3 => (intro wS hSw; (try dsimp only at hSw); go_split_ands; go_simp; try with_reducible rfl)
                try simp only [Act.put, List.setIfInBounds_toArray, List.set_cons_zero, List.set_cons_succ]
                refine wpAnyL_take (i := 4) (oi := { dst := some 56, op := Go.Op.load 3 (Go.Operand.tmp 55), type := 3, pos := "l2_mazes.go:254", after := #[{ on := 3, ground := Go.Ground.data }], guard := none }) (v := ?av4) rfl (by kernel_rfl) (by kernel_rfl) (by kernel_rfl) (by kernel_rfl) (fun _ _ _ h => h) (Or.inl ⟨by rfl, ?ah4⟩) hS ?ar4
                case ah4 => (intro wS hSw; (try dsimp only at hSw); go_split_ands; go_simp; try with_reducible rfl)
                try simp only [Act.put, List.setIfInBounds_toArray, List.set_cons_zero, List.set_cons_succ]
                refine wpAnyL_take (i := 5) (oi := { dst := some 57, op := Go.Op.indexAddr 25 (Go.Operand.tmp 54) (Go.Operand.tmp 56), type := 0, pos := "l2_mazes.go:254", after := #[{ on := 2, ground := Go.Ground.data }, { on := 4, ground := Go.Ground.data }], guard := none }) (v := ?av5) rfl (by kernel_rfl) (by kernel_rfl) (by kernel_rfl) (by kernel_rfl) (fun _ _ _ h => h) (Or.inl ⟨by rfl, ?ah5⟩) hS ?ar5
                case ah5 => (intro wS hSw; (try dsimp only at hSw); go_split_ands; go_simp; try with_reducible rfl)
                try simp only [Act.put, List.setIfInBounds_toArray, List.set_cons_zero, List.set_cons_succ]
                refine wpAnyL_take (i := 6) (oi := { dst := some 58, op := Go.Op.load 3 (Go.Operand.tmp 57), type := 3, pos := "l2_mazes.go:254", after := #[{ on := 5, ground := Go.Ground.data }], guard := none }) (v := ?av6) rfl (by kernel_rfl) (by kernel_rfl) (by kernel_rfl) (by kernel_rfl) (fun _ _ _ h => h) (Or.inl ⟨by rfl, ?ah6⟩) hS ?ar6
                case ah6 => (intro wS hSw; (try dsimp only at hSw); go_split_ands; go_simp; try with_reducible rfl)
                try simp only [Act.put, List.setIfInBounds_toArray, List.set_cons_zero, List.set_cons_succ]
                refine wpAnyL_take (i := 7) (oi := { dst := some 59, op := Go.Op.move (Go.Operand.tmp 1), type := 25, pos := "l2_mazes.go:254", after := #[], guard := none }) (v := ?av7) rfl (by kernel_rfl) (by kernel_rfl) (by kernel_rfl) (by kernel_rfl) (fun _ _ _ h => h) (Or.inl ⟨by rfl, ?ah7⟩) hS ?ar7
                case ah7 => (intro wS hSw; (try dsimp only at hSw); go_split_ands; go_simp; try with_reducible rfl)
                try simp only [Act.put, List.setIfInBounds_toArray, List.set_cons_zero, List.set_cons_succ]
                refine wpAnyL_take (i := 8) (oi := { dst := some 60, op := Go.Op.indexAddr 60 (Go.Operand.tmp 10) (Go.Operand.const (Go.Value.int Go.IntKind.i64 1)), type := 0, pos := "l2_mazes.go:254", after := #[], guard := none }) (v := ?av8) rfl (by kernel_rfl) (by kernel_rfl) (by kernel_rfl) (by kernel_rfl) (fun _ _ _ h => h) (Or.inl ⟨by rfl, ?ah8⟩) hS ?ar8
                case ah8 => (intro wS hSw; (try dsimp only at hSw); go_split_ands; go_simp; try with_reducible rfl)
                try simp only [Act.put, List.setIfInBounds_toArray, List.set_cons_zero, List.set_cons_succ]
                refine wpAnyL_take (i := 9) (oi := { dst := some 61, op := Go.Op.load 3 (Go.Operand.tmp 60), type := 3, pos := "l2_mazes.go:254", after := #[{ on := 8, ground := Go.Ground.data }], guard := none }) (v := ?av9) rfl (by kernel_rfl) (by kernel_rfl) (by kernel_rfl) (by kernel_rfl) (fun _ _ _ h => h) (Or.inl ⟨by rfl, ?ah9⟩) hS ?ar9
                case ah9 => (intro wS hSw; (try dsimp only at hSw); go_split_ands; go_simp; try with_reducible rfl)
                try simp only [Act.put, List.setIfInBounds_toArray, List.set_cons_zero, List.set_cons_succ]
                refine wpAnyL_take (i := 10) (oi := { dst := some 62, op := Go.Op.indexAddr 25 (Go.Operand.tmp 59) (Go.Operand.tmp 61), type := 0, pos := "l2_mazes.go:254", after := #[{ on := 7, ground := Go.Ground.data }, { on := 9, ground := Go.Ground.data }], guard := none }) (v := ?av10) rfl (by kernel_rfl) (by kernel_rfl) (by kernel_rfl) (by kernel_rfl) (fun _ _ _ h => h) (Or.inl ⟨by rfl, ?ah10⟩) hS ?ar10
                case ah10 => (intro wS hSw; (try dsimp only at hSw); go_split_ands; go_simp; try with_reducible rfl)
                try simp only [Act.put, List.setIfInBounds_toArray, List.set_cons_zero, List.set_cons_succ]
                refine wpAnyL_take (i := 11) (oi := { dst := some 63, op := Go.Op.load 3 (Go.Operand.tmp 62), type := 3, pos := "l2_mazes.go:254", after := #[{ on := 10, ground := Go.Ground.data }], guard := none }) (v := ?av11) rfl (by kernel_rfl) (by kernel_rfl) (by kernel_rfl) (by kernel_rfl) (fun _ _ _ h => h) (Or.inl ⟨by rfl, ?ah11⟩) hS ?ar11
                case ah11 => (intro wS hSw; (try dsimp only at hSw); go_split_ands; go_simp; try with_reducible rfl)
                try simp only [Act.put, List.setIfInBounds_toArray, List.set_cons_zero, List.set_cons_succ]
                refine wpAnyL_take (i := 12) (oi := { dst := some 64, op := Go.Op.indexAddr 60 (Go.Operand.tmp 10) (Go.Operand.const (Go.Value.int Go.IntKind.i64 2)), type := 0, pos := "l2_mazes.go:254", after := #[], guard := none }) (v := ?av12) rfl (by kernel_rfl) (by kernel_rfl) (by kernel_rfl) (by kernel_rfl) (fun _ _ _ h => h) (Or.inl ⟨by rfl, ?ah12⟩) hS ?ar12
                case ah12 => (intro wS hSw; (try dsimp only at hSw); go_split_ands; go_simp; try with_reducible rfl)
                try simp only [Act.put, List.setIfInBounds_toArray, List.set_cons_zero, List.set_cons_succ]
                refine wpAnyL_take (i := 13) (oi := { dst := some 65, op := Go.Op.load 3 (Go.Operand.tmp 64), type := 3, pos := "l2_mazes.go:254", after := #[{ on := 12, ground := Go.Ground.data }], guard := none }) (v := ?av13) rfl (by kernel_rfl) (by kernel_rfl) (by kernel_rfl) (by kernel_rfl) (fun _ _ _ h => h) (Or.inl ⟨by rfl, ?ah13⟩) hS ?ar13
                case ah13 => (intro wS hSw; (try dsimp only at hSw); go_split_ands; go_simp; try with_reducible rfl)
                try simp only [Act.put, List.setIfInBounds_toArray, List.set_cons_zero, List.set_cons_succ]
                refine wpAnyL_one (i := 14) (oi := { dst := some 66, op := Go.Op.call { callee := Go.Callee.value (Go.Operand.func 73), args := #[Go.Operand.tmp 58, Go.Operand.tmp 63, Go.Operand.tmp 65], argTypes := #[3, 3, 3] }, type := 60, pos := "l2_mazes.go:254", after := #[{ on := 6, ground := Go.Ground.data }, { on := 11, ground := Go.Ground.data }, { on := 13, ground := Go.Ground.data }], guard := none }) (by kernel_rfl) rfl (fun K1 hK1 => ?_)
                refine step_call (by rfl) 73 #[.int .i64 v1, .int .i64 v2, .int .i64 nd] (by go_simp; try rfl) (doorBetween_any v1 v2 nd _) ?_
                rintro e w5 ⟨rfl, hb5⟩
                refine ⟨_, rfl, ?_⟩
                have hb5' : Below W7.heap.size W7 w5 := (Below.refl W7.heap.size W7).drew.trans hb5
                have hs5 := hb5'.size
                have S5 := Lib.hid (S7.out.later hb5')
                have N5 := Lib.hid (N7.out.below hb5')
                have hS5 : (fun wq => wq.cell? ⟨g, 1, none⟩ = some (.slice va ds.length vc) ∧ wq.cell? ⟨wr.heap.size, 0, none⟩ = some (.int .i64 (x1 : Int)) ∧ wq.cell? ⟨wr.heap.size, 1, none⟩ = some (.int .i64 (x2 : Int)) ∧ wq.cell? ⟨wr.heap.size, 2, none⟩ = some (.int .i64 nd) ∧ wq.cell? ⟨tb, toff + x1, none⟩ = some (.int .i64 v1) ∧ wq.cell? ⟨tb, toff + x2, none⟩ = some (.int .i64 v2)) w5 := ⟨S5.out.out.cells.2.1, N5.out.cells.1, N5.out.cells.2.1, N5.out.cells.2.2, (hb5'.cell (p := ⟨tb, toff + x1, none⟩) (show tb < _ by omega)).trans T17.out, (hb5'.cell (p := ⟨tb, toff + x2, none⟩) (show tb < _ by omega)).trans T27.out⟩
                refine hK1 _ _ (fun _ => hS5) ?_
                clear hS
                try simp only [Act.put, List.setIfInBounds_toArray, List.set_cons_zero, List.set_cons_succ]
                have hS6 : ∀ o, (fun wq => wq.cell? ⟨g, 1, none⟩ = some (.slice va ds.length vc) ∧ wq.cell? ⟨wr.heap.size, 0, none⟩ = some (.int .i64 (x1 : Int)) ∧ wq.cell? ⟨wr.heap.size, 1, none⟩ = some (.int .i64 (x2 : Int)) ∧ wq.cell? ⟨wr.heap.size, 2, none⟩ = some (.int .i64 nd) ∧ wq.cell? ⟨tb, toff + x1, none⟩ = some (.int .i64 v1) ∧ wq.cell? ⟨tb, toff + x2, none⟩ = some (.int .i64 v2)) (w5.alloc o) := fun o => ⟨(S5.out.out.alloc o).cells.2.1, (N5.out.alloc o).cells.1, (N5.out.alloc o).cells.2.1, (N5.out.alloc o).cells.2.2, ((below_alloc w5 o).cell (p := ⟨tb, toff + x1, none⟩) (show tb < _ by omega)).trans hS5.2.2.2.2.1, ((below_alloc w5 o).cell (p := ⟨tb, toff + x2, none⟩) (show tb < _ by omega)).trans hS5.2.2.2.2.2⟩
                refine wpAnyL_one (i := 15) (oi := { dst := some 67, op := Go.Op.buildSlice 24 1 #[(0, Go.Operand.tmp 66)], type := 24, pos := "l2_mazes.go:254", after := #[{ on := 14, ground := Go.Ground.data }], guard := none }) (by kernel_rfl) rfl (fun K2 hK2 => ?_)
                go_simp
                refine hK2 _ _ (fun _ => hS6 _) ?_
                try simp only [List.setIfInBounds_toArray, List.set_cons_zero, List.set_cons_succ]
                refine wpAnyL_one (i := 16) (oi := { dst := some 68, op := Go.Op.call { callee := Go.Callee.builtin Go.Builtin.append, args := #[Go.Operand.tmp 53, Go.Operand.tmp 67], argTypes := #[24, 24] }, type := 24, pos := "l2_mazes.go:254", after := #[{ on := 1, ground := Go.Ground.data }, { on := 15, ground := Go.Ground.data }, { on := 14, ground := Go.Ground.chain }], guard := none }) (by kernel_rfl) rfl (fun K3 hK3 => ?_)
                refine step_append_own rfl (.tmp 53) (.tmp 67) 24 rfl w2.heap.size 60 i0 (.agg #[.int .i64 0, .int .i64 0, .int .i64 0]) 3 24 Try.underlying24 hi0 hz0 hz1 hz2 rfl (by decide) _ _ _ (S5.out.row.alloc _) (by first | (simp [Act.eval]; done) | simp [Act.eval, Act.put]) ⟨w5.heap.size, 0, none⟩ 1 1 (M.encD (M.doorOf v1 v2 nd)) (by first | (simp [Act.eval]; done) | simp [Act.eval, Act.put]) (show (M.encD (M.doorOf v1 v2 nd)).length = 1 * 3 from rfl) (news3 (Box3.new _ _ _ _ rfl)) (encD_one _) (by unfold maxLen; omega) (by omega) (by simp; omega) ?_
                intro v6 w6 hown6 hgrow6 hnil6
                obtain ⟨va2, vc2, hva2, hq1, hq2, hq3⟩ := own_slice hown6
                subst hva2
                have bx6 := (S5.out.out.alloc (.cells #[.int .i64 (M.doorOf v1 v2 nd).1, .int .i64 (M.doorOf v1 v2 nd).2.1, .int .i64 (M.doorOf v1 v2 nd).2.2] 60)).grown hgrow6 (own_ne_box S5.out.row S5.out.out (by decide))
                have nx6 := (N5.out.alloc (.cells #[.int .i64 (M.doorOf v1 v2 nd).1, .int .i64 (M.doorOf v1 v2 nd).2.1, .int .i64 (M.doorOf v1 v2 nd).2.2] 60)).grown hgrow6 HNN.out
                have htc : ∀ o, w6.cell? ⟨tb, o, none⟩ = (w5.alloc (.cells #[.int .i64 (M.doorOf v1 v2 nd).1, .int .i64 (M.doorOf v1 v2 nd).2.1, .int .i64 (M.doorOf v1 v2 nd).2.2] 60)).cell? ⟨tb, o, none⟩ := fun o => World.cell?_of_block (hgrow6.block tb (by simp; omega) (fun he => by have := own_base S5.out.row tb he.symm; omega))
                have hS7 : (fun wq => wq.cell? ⟨g, 1, none⟩ = some (.slice va ds.length vc) ∧ wq.cell? ⟨wr.heap.size, 0, none⟩ = some (.int .i64 (x1 : Int)) ∧ wq.cell? ⟨wr.heap.size, 1, none⟩ = some (.int .i64 (x2 : Int)) ∧ wq.cell? ⟨wr.heap.size, 2, none⟩ = some (.int .i64 nd) ∧ wq.cell? ⟨tb, toff + x1, none⟩ = some (.int .i64 v1) ∧ wq.cell? ⟨tb, toff + x2, none⟩ = some (.int .i64 v2)) w6 := ⟨bx6.cells.2.1, nx6.cells.1, nx6.cells.2.1, nx6.cells.2.2, (htc _).trans (hS6 _).2.2.2.2.1, (htc _).trans (hS6 _).2.2.2.2.2⟩
                refine hK3 _ _ (fun _ => hS7) ?_
                have hS := hS7
                try simp only [Act.put, List.setIfInBounds_toArray, List.set_cons_zero, List.set_cons_succ]
                refine wpAnyL_take (i := 17) (oi := { dst := some 69, op := Go.Op.fieldAddr 27 (Go.Operand.tmp 6) 1, type := 0, pos := "l2_mazes.go:254", after := #[{ on := 0, ground := Go.Ground.phase }, { on := 1, ground := Go.Ground.phase }, { on := 2, ground := Go.Ground.phase }, { on := 3, ground := Go.Ground.phase }, { on := 4, ground := Go.Ground.phase }, { on := 5, ground := Go.Ground.phase }, { on := 6, ground := Go.Ground.phase }, { on := 7, ground := Go.Ground.phase }, { on := 8, ground := Go.Ground.phase }, { on := 9, ground := Go.Ground.phase }, { on := 10, ground := Go.Ground.phase }, { on := 11, ground := Go.Ground.phase }, { on := 12, ground := Go.Ground.phase }, { on := 13, ground := Go.Ground.phase }, { on := 14, ground := Go.Ground.phase }, { on := 15, ground := Go.Ground.phase }, { on := 16, ground := Go.Ground.phase }], guard := none }) (v := ?bv17) rfl (by kernel_rfl) (by kernel_rfl) (by kernel_rfl) (by kernel_rfl) (fun _ _ _ h => h) (Or.inl ⟨by rfl, ?bh17⟩) hS ?br17
                case bh17 => (intro wS hSw; (try dsimp only at hSw); go_split_ands; go_simp; try with_reducible rfl)
                try simp only [Act.put, List.setIfInBounds_toArray, List.set_cons_zero, List.set_cons_succ]
                obtain ⟨b0, b1, b2⟩ := bx6.cells
                obtain ⟨g0, g1, g2⟩ := bx6.free
                have hl6 := bx6.lt
                have hgne : w.heap.size ≠ g := by omega
                have hrne : w.heap.size + 1 ≠ g := by omega
                have hnn2 : (ds ++ [M.doorOf v1 v2 nd]).length = ds.length + 1 := by rw [List.length_append]; rfl
                have hkalt := S5.out.kalt
                have hlow := S5.out.low.size
                have hnew : ISt w m (some ⟨db, off, none⟩) b c d g ka w2.heap.size (w6.setCell ⟨g, 1, none⟩ (.slice va2 (ds.length + 1) vc2)) va2 vc2 (ds ++ [M.doorOf v1 v2 nd]) ks :=
                  ⟨by rw [hnn2, M.encDs_append, encDs_single]; exact own_setBox hown6 bx6 (by decide) 1 _,
                   (ni_grownRow (S5.out.keys.below (below_alloc _ _) hkalt) (S5.out.row.alloc _) (by decide) hgrow6).boxed bx6 (by decide) 1 _,
                   ((S5.out.box.alloc _).grown hgrow6 (own_ne_box S5.out.row S5.out.box (by decide))).other hgne 1 _,
                   ((S5.out.res.alloc _).grown hgrow6 (own_ne_box S5.out.row S5.out.res (by decide))).other hrne 1 _,
                   by rw [hnn2]; exact bx6.set1 _,
                   ((S5.out.low.alloc (by omega) _).grown hgrow6 (by simp; omega) (fun q hq => by have := own_base S5.out.row q hq; omega)).setCell (p := ⟨g, 1, none⟩) (by show w.heap.size ≤ g; omega) _,
                   by have := hgrow6.size; simp [World.setCell] at this ⊢; omega⟩
                have HNEW := Lib.hid hnew
                clear hnew bx6 nx6 htc hS hS5 hS6 hS7 hown6 hgrow6 hnil6 hq3
                refine wpAnyL_one (i := 18) (oi := { dst := none, op := Go.Op.store 24 (Go.Operand.tmp 69) (Go.Operand.tmp 68), type := 0, pos := "l2_mazes.go:254", after := #[{ on := 17, ground := Go.Ground.data }, { on := 16, ground := Go.Ground.data }, { on := 16, ground := Go.Ground.chain }, { on := 0, ground := Go.Ground.phase }, { on := 1, ground := Go.Ground.phase }, { on := 2, ground := Go.Ground.phase }, { on := 3, ground := Go.Ground.phase }, { on := 4, ground := Go.Ground.phase }, { on := 5, ground := Go.Ground.phase }, { on := 6, ground := Go.Ground.phase }, { on := 7, ground := Go.Ground.phase }, { on := 8, ground := Go.Ground.phase }, { on := 9, ground := Go.Ground.phase }, { on := 10, ground := Go.Ground.phase }, { on := 11, ground := Go.Ground.phase }, { on := 12, ground := Go.Ground.phase }, { on := 13, ground := Go.Ground.phase }, { on := 14, ground := Go.Ground.phase }, { on := 15, ground := Go.Ground.phase }, { on := 16, ground := Go.Ground.phase }], guard := none }) (by kernel_rfl) rfl (fun K4 hK4 => ?_)
                go_simp
                refine hK4 _ _ (fun h => absurd h (by decide)) ?_
                refine wpAnyL_done (by kernel_rfl) ?_ _
                all_goals
                  go_wp2_with fail
                  go_roundw
                  case rel =>
                    refine ⟨k + 1, va2, vc2, by omega, by go_num, ?_⟩
                    rw [HSU.out, ← HDO.out]
                    exact HNEW.out
                  case measure => simp [intOf]; omega
              · obtain rfl : k = m.doors.length := by omega
                have hnlt3 : ¬ (m.doors.length : Int) < (m.doors.length : Int) := by omega
                have hRW : M.numRaw m nt = ⟨m.size, M.numDs m nt m.doors.length, ks⟩ := by unfold M.numRaw; rw [HKS.out]
                obtain ⟨va', vc', hve, hv1, hv2, hv3⟩ := own_slice SR.out.row
                injection hve with hva _ hvc
                rw [← hvc] at hv1 hv2
                rw [← hva] at hv3
                have hkal := SR.out.kalt
                have hmo : MzOwn w2.heap.size wr.heap.size wr (M.numRaw m nt) va vc (some ⟨ka, 0, none⟩) ks.length := by
                  rw [hRW]
                  exact ⟨hv3, SR.out.keys.mono hkW (by omega), hv1, hv2, Nat.le_refl _, by rw [HKL.out, hnn]; omega⟩
                have e1 : (M.numRaw m nt).doors.length = (M.numDs m nt m.doors.length).length := by rw [hRW]
                have e2 : (M.numRaw m nt).keys.length = ks.length := by rw [hRW]
                have e3 : (M.numRaw m nt).size = m.size := rfl
                have IN := inOrder_any wr w2.heap.size wr.heap.size (M.numRaw m nt) va (some ⟨ka, 0, none⟩) vc ks.length hmo (Nat.le_refl _) (by rw [e1]; omega) (by rw [e2, HKL.out, hnn]; omega)
                rw [e1, e2, e3, M.numRaw_V HF.out, M.numRaw_B HF.out] at IN
                have INH := Lib.hid IN
                obtain ⟨b0, b1, b2⟩ := SR.out.out.cells
                clear IN hmo e1 e2 e3 hRW hva hvc hv3
                go_wp2_with fail
                refine INH.out.mono ?_
                rintro e w8 ⟨ra, rc, rb, rd, rfl, ho, hturn⟩
                have hz8 := hturn.size
                have Y8 := SR.out.res.turned hturn (.inl (by omega))
                have HO8 := Lib.hid ho
                have HT8 := Lib.hid hturn
                clear ho hturn b0 b1 b2
                obtain ⟨k0, k1, k2⟩ := Y8.cells
                obtain ⟨f0, f1, f2⟩ := Y8.free
                have hyl8 := Y8.lt
                clear Y8
                go_wp2_with fail
                refine bodyPost_ret (v := .tuple #[.agg #[.int .i64 (M.numV m nt).size, .slice ra (M.numV m nt).doors.length rc, .slice rb (M.numV m nt).keys.length rd], .bool true]) (by simp [results, Try.results32, go_sem, k0, k1, k2]) rfl ?_
                rw [HF.out]
                exact mzOk_end (Below.thenTurned SR.out.low HT8.out (by omega) (by omega)) HO8.out (by omega) (Nat.le_refl _)
end C
end Go.Proofs.Ytmccpjdgnenmeaa
