/-
  CONTRACT of impl.JoinMazes: two mazes as one, in memory of its own, or the empty one and false; what lay in memory stays. No condition but that the arguments read so.
-/
import Derived.Test.YtmccpjdgnenmeaaAdd
import Derived.Test.YtmccpjdgnenmeaaJoinMath
import Derived.Test.YtmccpjdgnenmeaaMzAt
import Derived.Test.YtmccpjdgnenmeaaPutI
import Derived.Test.YtmccpjdgnenmeaaLate
import Derived.Deep.DeepCutAuto
import Derived.OwnWalk
namespace Go.Proofs.Ytmccpjdgnenmeaa
open Go.RowKit
namespace M
theorem joinV_sorted {a b : Mz} (ha : mazeB a = true) (hb : mazeB b = true) : joinV a b = sortedV (joinOf a b) := by
  unfold joinV sortedV
  rw [joinB_sorted ha hb, sorted_join (valid_of ha) (valid_of hb)]
end M
namespace C
set_option maxHeartbeats 3200000
set_option maxRecDepth 20000
theorem Box3.set0 {X : World} {g : Nat} {T : TypeId} {x y z : Value} (h : Box3 X g T x y z) (u : Value) : Box3 (X.setCell ⟨g, 0, none⟩ u) g T u y z := by
  unfold Box3 at h ⊢
  simp [World.setCell, Array.getElem?_modify, h]
theorem Box3.set2 {X : World} {g : Nat} {T : TypeId} {x y z : Value} (h : Box3 X g T x y z) (u : Value) : Box3 (X.setCell ⟨g, 2, none⟩ u) g T x y u := by
  unfold Box3 at h ⊢
  simp [World.setCell, Array.getElem?_modify, h]
theorem own_addr {w : World} {B size n : Nat} {e : TypeId} {a : Option Addr} {c : Nat} {xs : List Value} (h : w.ownsRow B e size (.slice a n c) n xs) (hn : 0 < n) : ∃ g, a = some ⟨g, 0, none⟩ := by
  rcases h.2 with ⟨hv, _⟩ | ⟨g, cap, cur, hv, _⟩
  · injection hv with _ h2 _
    omega
  · injection hv with h1 _ _
    exact ⟨g, h1⟩
theorem cell_add (w : World) (b off j : Nat) : w.cell? ((⟨b, off, none⟩ : Addr).add j) = w.cell? ⟨b, off + j, none⟩ := by
  unfold Addr.add
  split
  · rename_i h
    subst h
    rfl
  · rfl
/-- the maze that is built, in a box of its own, beside the second one's box -/
structure JSt (w : World) (r : M.Mz) (ra rb : Option Addr) (rc rd : Nat) (g B : Nat) (sz : Int) (wr : World) (va : Option Addr) (vc : Nat) (ka : Option Addr) (kc : Nat) (ds : List M.Dr) (ks : List Int) : Prop where
  row : wr.ownsRow B 60 3 (.slice va ds.length vc) ds.length (M.encDs ds)
  keys : wr.ownsRow B 3 1 (.slice ka ks.length kc) ks.length (M.encIs ks)
  box : Box3 wr (w.heap.size + 1) 27 (.int .i64 r.size) (.slice ra r.doors.length rc) (.slice rb r.keys.length rd)
  res : Box3 wr (w.heap.size + 1 + 1) 27 (.int .i64 0) (.slice none 0 0) (.slice none 0 0)
  out : Box3 wr g 27 (.int .i64 sz) (.slice va ds.length vc) (.slice ka ks.length kc)
  low : Below w.heap.size w wr
theorem JSt.later {w : World} {r : M.Mz} {ra rb : Option Addr} {rc rd g B : Nat} {sz : Int} {wr wr' : World} {va ka : Option Addr} {vc kc : Nat} {ds : List M.Dr} {ks : List Int} (h : JSt w r ra rb rc rd g B sz wr va vc ka kc ds ks) (hb : Below wr.heap.size wr wr') : JSt w r ra rb rc rd g B sz wr' va vc ka kc ds ks :=
  ⟨own_below h.row hb, own_below h.keys hb, h.box.below hb, h.res.below hb, h.out.below hb, h.low.trans (hb.mono h.low.size)⟩
theorem implJoin_lw (w : World) (lo hi : Nat) (m : M.Mz) (a b : Option Addr) (c d : Nat) (h : MzIn lo hi w m a c b d) (hz : hi ≤ w.heap.size) (h1 : m.doors.length ≤ 1048576) (h2 : m.keys.length ≤ 1048576) (lo' hi' : Nat) (r : M.Mz) (ra rb : Option Addr) (rc rd : Nat) (h' : MzIn lo' hi' w r ra rc rb rd) (hz' : hi' ≤ w.heap.size) (_h1' : r.doors.length ≤ 1048576) (_h2' : r.keys.length ≤ 1048576) :
    Calls Try.prog 36 #[.agg #[.int .i64 m.size, .slice a m.doors.length c, .slice b m.keys.length d], .agg #[.int .i64 r.size, .slice ra r.doors.length rc, .slice rb r.keys.length rd]] w (MzOkPost w (M.joinV m r) (M.joinB m r)) := by
  obtain ⟨i0, hi0, hz0, hz1, hz2⟩ := info_parts infoD
  obtain ⟨j0, hj0, hy0, hy1, hy2⟩ := info_parts infoI
  have H := Lib.hid h
  have H' := Lib.hid h'
  clear h h'
  go_enter Try.func36, Try.ntmps36
  go_wp2_with fail
  refine named ?_
  intro W hW
  have hb : Below w.heap.size w W := by rw [hW]; exact ((below_alloc _ _).alloc (by simp) _).alloc (by simp; omega) _
  have x1 : Box3 W w.heap.size 27 (.int .i64 m.size) (.slice a m.doors.length c) (.slice b m.keys.length d) := by rw [hW]; exact ((Box3.new _ _ _ _ rfl).alloc _).alloc _
  have r1 : Box3 W (w.heap.size + 1) 27 (.int .i64 r.size) (.slice ra r.doors.length rc) (.slice rb r.keys.length rd) := by rw [hW]; exact (Box3.new _ _ _ _ (by simp)).alloc _
  have y1 : Box3 W (w.heap.size + 1 + 1) 27 (.int .i64 0) (.slice none 0 0) (.slice none 0 0) := by rw [hW]; exact Box3.new _ _ _ _ (by simp)
  clear hW
  have hzw := hb.size
  refine (isMaze_any W lo hi m a b c d (H.out.below hb hz) (by omega)).mono ?_
  rintro e w1 ⟨rfl, hb1⟩
  have X1 := Lib.hid (x1.below hb1)
  have R1 := Lib.hid (r1.below hb1)
  have Y1 := Lib.hid (y1.below hb1)
  have hbl := Y1.out.lt
  have HB1 := Lib.hid (hb.trans (hb1.mono hzw))
  have hz1w := hb1.size
  clear hb hb1 x1 r1 y1
  obtain ⟨c0, c1, c2⟩ := X1.out.cells
  obtain ⟨r0, r1, r2⟩ := R1.out.cells
  obtain ⟨k0, k1, k2⟩ := Y1.out.cells
  obtain ⟨f0, f1, f2⟩ := Y1.out.free
  cases q0 : M.mazeB m with
  | false =>
    have HF : Hid (M.joinB m r = false) := Lib.hid (by unfold M.joinB; rw [q0]; rfl)
    have HV := Lib.hid (M.joinV_no HF.out)
    clear q0
    go_wp2_with fail
    refine bodyPost_ret (v := .tuple #[.agg #[.int .i64 0, .slice none 0 0, .slice none 0 0], .bool false]) (by simp [results, Try.results36, go_sem, k0, k1, k2]) rfl ?_
    rw [HF.out, HV.out]
    exact mzNo_endAt HB1.out (by omega)
  | true =>
    have HQ := Lib.hid q0
    have HVA := Lib.hid (M.valid_of q0)
    clear q0
    go_wp2_with fail
    refine (isMaze_any w1 lo' hi' r ra rb rc rd (H'.out.below HB1.out hz') (by omega)).mono ?_
    rintro e w2 ⟨rfl, hb2⟩
    have X2 := Lib.hid (X1.out.below hb2)
    have R2 := Lib.hid (R1.out.below hb2)
    have Y2 := Lib.hid (Y1.out.below hb2)
    have HB2 := Lib.hid (HB1.out.trans (hb2.mono (by omega)))
    have hz2w := hb2.size
    have hbl2 := Y2.out.lt
    clear hb2 c0 c1 c2 r0 r1 r2 k0 k1 k2 f0 f1 f2
    obtain ⟨c0, c1, c2⟩ := X2.out.cells
    obtain ⟨r0, r1, r2⟩ := R2.out.cells
    obtain ⟨k0, k1, k2⟩ := Y2.out.cells
    obtain ⟨f0, f1, f2⟩ := Y2.out.free
    cases q1 : M.mazeB r with
    | false =>
      have HF : Hid (M.joinB m r = false) := Lib.hid (by unfold M.joinB; rw [HQ.out, q1]; rfl)
      have HV := Lib.hid (M.joinV_no HF.out)
      clear q1
      go_wp2_with fail
      refine bodyPost_ret (v := .tuple #[.agg #[.int .i64 0, .slice none 0 0, .slice none 0 0], .bool false]) (by simp [results, Try.results36, go_sem, k0, k1, k2]) rfl ?_
      rw [HF.out, HV.out]
      exact mzNo_endAt HB2.out (by omega)
    | true =>
      have HVB := Lib.hid (M.valid_of q1)
      have HF := Lib.hid (M.joinB_sorted HQ.out q1)
      have HV := Lib.hid (M.joinV_sorted HQ.out q1)
      have hdl := HVA.out.few
      have hdl' := HVB.out.few
      have hs12 := HVA.out.size12
      have hs1 := HVA.out.size1
      have hs12' := HVB.out.size12
      have hs1' := HVB.out.size1
      have hkl := HVA.out.keysLen
      have hkl' := HVB.out.keysLen
      clear q1
      go_wp2_with fail
      refine (clone_row w2 lo hi m a b c d (H.out.below HB2.out hz) (by omega) h1 h2).mono ?_
      rintro e w3 ⟨ca, cc, cb, cd, rfl, od, oi, hb3⟩
      have hz3 := hb3.size
      have X3 := Lib.hid (X2.out.below hb3)
      have R3 := Lib.hid (R2.out.below hb3)
      have Y3 := Lib.hid (Y2.out.below hb3)
      have HB3 := Lib.hid (HB2.out.trans (hb3.mono (by omega)))
      have OD := Lib.hid od
      have OI := Lib.hid oi
      clear od oi hb3 c0 c1 c2 r0 r1 r2 k0 k1 k2 f0 f1 f2
      go_upto_region 4 with fail
      refine wp_named ?_
      intro W4 hW4
      have hb4 : Below w3.heap.size w3 W4 := by rw [hW4]; exact below_alloc _ _
      have t4 : Box3 W4 w3.heap.size 27 (.int .i64 m.size) (.slice ca m.doors.length cc) (.slice cb m.keys.length cd) := by rw [hW4]; exact Box3.new _ _ _ _ rfl
      clear hW4
      have hz4 := hb4.size
      obtain ⟨sh, hsh⟩ : ∃ sh : Nat, m.size = (sh : Int) + 1 := ⟨(m.size - 1).toNat, by omega⟩
      have hshn : (m.size - 1).toNat = sh := by omega
      have hsh12 : sh < 12 := by omega
      obtain ⟨g, hg⟩ : ∃ g, w3.heap.size = g := ⟨_, rfl⟩
      rw [hg] at t4 ⊢
      have hgB : w2.heap.size ≤ g := by omega
      have hxl := X3.out.lt
      have hrl := R3.out.lt
      obtain ⟨c0, _, _⟩ := (X3.out.below hb4).cells
      rw [hsh] at c0 t4
      have R4 := Lib.hid (R3.out.below hb4)
      have Y4 := Lib.hid (Y3.out.below hb4)
      have OD4 := Lib.hid (own_below OD.out hb4)
      have OI4 := Lib.hid (own_below OI.out hb4)
      have HB4 := Lib.hid (HB3.out.trans (hb4.mono (by omega)))
      obtain ⟨r0, r1, r2⟩ := R4.out.cells
      obtain ⟨t0, t1, t2⟩ := t4.cells
      obtain ⟨u0, u1, u2⟩ := t4.free
      have htl := t4.lt
      have T4 := Lib.hid t4
      have HSH := Lib.hid hsh
      have HG := Lib.hid hg
      have hshk : sh < m.keys.length := by omega
      have hkl1 : 1 ≤ r.keys.length := by omega
      have hkl12 : r.keys.length ≤ 12 := by omega
      have hkl0 : 0 < r.keys.length := by omega
      have hkl1J : (1 : Int) ≤ (r.keys.length : Int) := by omega
      have hmk12 : m.keys.length ≤ 12 := by omega
      have hg3 : w.heap.size + 1 + 1 < g := by omega
      have HSHN := Lib.hid hshn
      have HKL' := Lib.hid hkl'
      clear t4 hsh hg hb4 hkl hkl' hshn
      go_wp2_with fail
      refine wp_named ?_
      intro W5 hW5
      have hst5 : ∃ sz : Int, sz = (M.joinOf m r).size ∧ JSt w r ra rb rc rd g w2.heap.size sz W5 ca cc cb cd m.doors m.keys := by
        rw [hW5]
        exact ⟨_, by show _ = m.size + r.size - 1; rw [HSH.out]; omega, own_setBox OD4.out T4.out (by decide) 0 _, own_setBox OI4.out T4.out (by decide) 0 _, R4.out.other (by omega) 0 _, Y4.out.other (by omega) 0 _, T4.out.set0 _, HB4.out.setCell (p := ⟨g, 0, none⟩) (by show w.heap.size ≤ g; omega) _⟩
      obtain ⟨sz, hsz, st5⟩ := hst5
      have HSZ := Lib.hid hsz
      have ST5 := Lib.hid st5
      obtain ⟨kg, hkg⟩ := own_addr st5.keys (by omega)
      subst hkg
      obtain ⟨rkb, rkoff, hrk, _, hrkb, hc0⟩ := (H'.out.keys.below st5.low hz').at_ (k := 0) (by rw [M.encIs_len]; omega)
      subst hrk
      obtain ⟨v1, hv1⟩ : ∃ v, m.keys.getD sh 0 = v := ⟨_, rfl⟩
      obtain ⟨v2, hv2⟩ : ∃ v, r.keys.getD 0 0 = v := ⟨_, rfl⟩
      have p1 : W5.cell? ⟨kg, sh, none⟩ = some (.int .i64 v1) := by
        rw [st5.keys.cellAt sh (by omega), M.encIs_at hshk, ← hv1, List.getD_eq_getElem?_getD, List.getElem?_eq_getElem hshk]; rfl
      have p2 : W5.cell? ⟨rkb, rkoff, none⟩ = some (.int .i64 v2) := by
        have := hc0 0 _ (M.encIs_at (l := r.keys) (k := 0) (by omega))
        rw [← hv2, List.getD_eq_getElem?_getD, List.getElem?_eq_getElem (by omega)]
        exact this
      have pf := st5.keys.frozenAt sh
      have HC0 := Lib.hid hc0
      have HV1 := Lib.hid hv1
      have HV2 := Lib.hid hv2
      obtain ⟨t0, t1, t2⟩ := st5.out.cells
      obtain ⟨r0, r1, r2⟩ := st5.box.cells
      have hzr5 := st5.low.size
      have hshI : (sh : Int) < (m.keys.length : Int) := by omega
      have hkl1I : (0 : Int) < (r.keys.length : Int) := by omega
      clear hW5 st5 hsz hc0 hv1 hv2 c0
      refine wp_region_late2 (fun wq => wq.cell? ⟨g, 2, none⟩ = some (.slice (some ⟨kg, 0, none⟩) m.keys.length cd) ∧ wq.cell? ⟨kg, sh, none⟩ = some (.int .i64 v1) ∧ wq.cell? ⟨w.heap.size + 1, 2, none⟩ = some (.slice (some ⟨rkb, rkoff, none⟩) r.keys.length rd) ∧ wq.cell? ⟨rkb, rkoff, none⟩ = some (.int .i64 v2)) [11] 12 #[false, false, false, false, false, false, false, false, false, false, false, false] rfl rfl (by kernel_rfl) ?_
      have hS : (fun wq => wq.cell? ⟨g, 2, none⟩ = some (.slice (some ⟨kg, 0, none⟩) m.keys.length cd) ∧ wq.cell? ⟨kg, sh, none⟩ = some (.int .i64 v1) ∧ wq.cell? ⟨w.heap.size + 1, 2, none⟩ = some (.slice (some ⟨rkb, rkoff, none⟩) r.keys.length rd) ∧ wq.cell? ⟨rkb, rkoff, none⟩ = some (.int .i64 v2)) W5.drew := ⟨t2, p1, r2, p2⟩
      refine wpAnyL_take (i := 0) (oi := { dst := some 31, op := Go.Op.fieldAddr 27 (Go.Operand.tmp 6) 2, type := 0, pos := "l2_mazes.go:286", after := #[], guard := none }) (v := ?av0) rfl (by kernel_rfl) (by kernel_rfl) (by kernel_rfl) (by kernel_rfl) (fun _ _ _ h => h) (Or.inl ⟨by rfl, ?ah0⟩) hS ?ar0
      case ah0 => (intro wS hSw; (try dsimp only at hSw); go_split_ands; go_simp; try with_reducible rfl)
      try simp only [Act.put, List.setIfInBounds_toArray, List.set_cons_zero, List.set_cons_succ]
      refine wpAnyL_take (i := 1) (oi := { dst := some 32, op := Go.Op.load 25 (Go.Operand.tmp 31), type := 25, pos := "l2_mazes.go:286", after := #[{ on := 0, ground := Go.Ground.data }], guard := none }) (v := ?av1) rfl (by kernel_rfl) (by kernel_rfl) (by kernel_rfl) (by kernel_rfl) (fun _ _ _ h => h) (Or.inl ⟨by rfl, ?ah1⟩) hS ?ar1
      case ah1 => (intro wS hSw; (try dsimp only at hSw); go_split_ands; go_simp; try with_reducible rfl)
      try simp only [Act.put, List.setIfInBounds_toArray, List.set_cons_zero, List.set_cons_succ]
      refine wpAnyL_take (i := 2) (oi := { dst := some 33, op := Go.Op.move (Go.Operand.tmp 7), type := 3, pos := "l2_mazes.go:286", after := #[], guard := none }) (v := ?av2) rfl (by kernel_rfl) (by kernel_rfl) (by kernel_rfl) (by kernel_rfl) (fun _ _ _ h => h) (Or.inl ⟨by rfl, ?ah2⟩) hS ?ar2
      case ah2 => (intro wS hSw; (try dsimp only at hSw); go_split_ands; go_simp; try with_reducible rfl)
      try simp only [Act.put, List.setIfInBounds_toArray, List.set_cons_zero, List.set_cons_succ]
      refine wpAnyL_take (i := 3) (oi := { dst := some 34, op := Go.Op.indexAddr 25 (Go.Operand.tmp 32) (Go.Operand.tmp 33), type := 0, pos := "l2_mazes.go:286", after := #[{ on := 1, ground := Go.Ground.data }, { on := 2, ground := Go.Ground.data }], guard := none }) (v := ?av3) rfl (by kernel_rfl) (by kernel_rfl) (by kernel_rfl) (by kernel_rfl) (fun _ _ _ h => h) (Or.inl ⟨by rfl, ?ah3⟩) hS ?ar3
      case ah3 => (intro wS hSw; (try dsimp only at hSw); go_split_ands; go_simp; try with_reducible rfl)
      try simp only [Act.put, List.setIfInBounds_toArray, List.set_cons_zero, List.set_cons_succ]
      refine wpAnyL_take (i := 4) (oi := { dst := some 35, op := Go.Op.load 3 (Go.Operand.tmp 34), type := 3, pos := "l2_mazes.go:286", after := #[{ on := 3, ground := Go.Ground.data }], guard := none }) (v := ?av4) rfl (by kernel_rfl) (by kernel_rfl) (by kernel_rfl) (by kernel_rfl) (fun _ _ _ h => h) (Or.inl ⟨by rfl, ?ah4⟩) hS ?ar4
      case ah4 => (intro wS hSw; (try dsimp only at hSw); go_split_ands; go_simp; try with_reducible rfl)
      try simp only [Act.put, List.setIfInBounds_toArray, List.set_cons_zero, List.set_cons_succ]
      refine wpAnyL_take (i := 5) (oi := { dst := some 36, op := Go.Op.fieldAddr 27 (Go.Operand.tmp 3) 2, type := 0, pos := "l2_mazes.go:286", after := #[], guard := none }) (v := ?av5) rfl (by kernel_rfl) (by kernel_rfl) (by kernel_rfl) (by kernel_rfl) (fun _ _ _ h => h) (Or.inl ⟨by rfl, ?ah5⟩) hS ?ar5
      case ah5 => (intro wS hSw; (try dsimp only at hSw); go_split_ands; go_simp; try with_reducible rfl)
      try simp only [Act.put, List.setIfInBounds_toArray, List.set_cons_zero, List.set_cons_succ]
      refine wpAnyL_take (i := 6) (oi := { dst := some 37, op := Go.Op.load 25 (Go.Operand.tmp 36), type := 25, pos := "l2_mazes.go:286", after := #[{ on := 5, ground := Go.Ground.data }], guard := none }) (v := ?av6) rfl (by kernel_rfl) (by kernel_rfl) (by kernel_rfl) (by kernel_rfl) (fun _ _ _ h => h) (Or.inl ⟨by rfl, ?ah6⟩) hS ?ar6
      case ah6 => (intro wS hSw; (try dsimp only at hSw); go_split_ands; go_simp; try with_reducible rfl)
      try simp only [Act.put, List.setIfInBounds_toArray, List.set_cons_zero, List.set_cons_succ]
      refine wpAnyL_take (i := 7) (oi := { dst := some 38, op := Go.Op.indexAddr 25 (Go.Operand.tmp 37) (Go.Operand.const (Go.Value.int Go.IntKind.i64 0)), type := 0, pos := "l2_mazes.go:286", after := #[{ on := 6, ground := Go.Ground.data }], guard := none }) (v := ?av7) rfl (by kernel_rfl) (by kernel_rfl) (by kernel_rfl) (by kernel_rfl) (fun _ _ _ h => h) (Or.inl ⟨by rfl, ?ah7⟩) hS ?ar7
      case ah7 => (intro wS hSw; (try dsimp only at hSw); go_split_ands; go_simp; try with_reducible rfl)
      try simp only [Act.put, List.setIfInBounds_toArray, List.set_cons_zero, List.set_cons_succ]
      refine wpAnyL_take (i := 8) (oi := { dst := some 39, op := Go.Op.load 3 (Go.Operand.tmp 38), type := 3, pos := "l2_mazes.go:286", after := #[{ on := 7, ground := Go.Ground.data }], guard := none }) (v := ?av8) rfl (by kernel_rfl) (by kernel_rfl) (by kernel_rfl) (by kernel_rfl) (fun _ _ _ h => h) (Or.inl ⟨by rfl, ?ah8⟩) hS ?ar8
      case ah8 => (intro wS hSw; (try dsimp only at hSw); go_split_ands; go_simp; try with_reducible rfl)
      try simp only [Act.put, List.setIfInBounds_toArray, List.set_cons_zero, List.set_cons_succ]
      refine wpAnyL_take (i := 9) (oi := { dst := some 40, op := Go.Op.binOp Go.BinOp.or 3 (Go.Operand.tmp 35) (Go.Operand.tmp 39) 3, type := 3, pos := "l2_mazes.go:286", after := #[{ on := 4, ground := Go.Ground.data }, { on := 8, ground := Go.Ground.data }], guard := none }) (v := ?av9) rfl (by kernel_rfl) (by kernel_rfl) (by kernel_rfl) (by kernel_rfl) (fun _ _ _ h => h) (Or.inl ⟨by rfl, ?ah9⟩) hS ?ar9
      case ah9 => (intro wS hSw; (try dsimp only at hSw); go_split_ands; go_simp; try with_reducible rfl)
      try simp only [Act.put, List.setIfInBounds_toArray, List.set_cons_zero, List.set_cons_succ]
      refine wpAnyL_take (i := 10) (oi := { dst := some 41, op := Go.Op.indexAddr 25 (Go.Operand.tmp 32) (Go.Operand.tmp 33), type := 0, pos := "l2_mazes.go:286", after := #[{ on := 1, ground := Go.Ground.data }, { on := 2, ground := Go.Ground.data }, { on := 0, ground := Go.Ground.phase }, { on := 1, ground := Go.Ground.phase }, { on := 2, ground := Go.Ground.phase }, { on := 3, ground := Go.Ground.phase }, { on := 4, ground := Go.Ground.phase }, { on := 5, ground := Go.Ground.phase }, { on := 6, ground := Go.Ground.phase }, { on := 7, ground := Go.Ground.phase }, { on := 8, ground := Go.Ground.phase }, { on := 9, ground := Go.Ground.phase }], guard := none }) (v := ?av10) rfl (by kernel_rfl) (by kernel_rfl) (by kernel_rfl) (by kernel_rfl) (fun _ _ _ h => h) (Or.inl ⟨by rfl, ?ah10⟩) hS ?ar10
      case ah10 => (intro wS hSw; (try dsimp only at hSw); go_split_ands; go_simp; try with_reducible rfl)
      try simp only [Act.put, List.setIfInBounds_toArray, List.set_cons_zero, List.set_cons_succ]
      refine wpAnyL_one (i := 11) (oi := { dst := none, op := Go.Op.store 3 (Go.Operand.tmp 41) (Go.Operand.tmp 40), type := 0, pos := "l2_mazes.go:286", after := #[{ on := 10, ground := Go.Ground.data }, { on := 9, ground := Go.Ground.data }, { on := 0, ground := Go.Ground.phase }, { on := 1, ground := Go.Ground.phase }, { on := 2, ground := Go.Ground.phase }, { on := 3, ground := Go.Ground.phase }, { on := 4, ground := Go.Ground.phase }, { on := 5, ground := Go.Ground.phase }, { on := 6, ground := Go.Ground.phase }, { on := 7, ground := Go.Ground.phase }, { on := 8, ground := Go.Ground.phase }, { on := 9, ground := Go.Ground.phase }], guard := none }) (by kernel_rfl) rfl (fun K2 hK2 => ?_)
      go_simp
      refine hK2 _ _ (fun h => absurd h (by decide)) ?_
      refine wpAnyL_done (by kernel_rfl) ?_ _
      have hst6 : JSt w r ra (some ⟨rkb, rkoff, none⟩) rc rd g w2.heap.size sz (W5.setCell ⟨kg, sh, none⟩ (.int .i64 (bits .or .i64 v1 v2))) ca cc (some ⟨kg, 0, none⟩) cd m.doors (m.keys.set sh (bits .or .i64 v1 v2)) := by
        have HK1 := ST5.out.keys.stored sh (.int .i64 (bits .or .i64 v1 v2))
        exact ⟨ST5.out.row.kept HK1.2 (own_ne_own2 ST5.out.keys ST5.out.row (by decide)), by rw [List.length_set, encIs_set]; exact HK1.1, ST5.out.box.grown HK1.2 (own_ne_box ST5.out.keys ST5.out.box (by decide)), ST5.out.res.grown HK1.2 (own_ne_box ST5.out.keys ST5.out.res (by decide)),
          by rw [List.length_set]; exact ST5.out.out.grown HK1.2 (own_ne_box ST5.out.keys ST5.out.out (by decide)), ST5.out.low.setCell (p := ⟨kg, sh, none⟩) (by have := own_base ST5.out.keys kg rfl; show w.heap.size ≤ kg; omega) _⟩
      have ST6' := Lib.hid (hst6.later (Below.refl _ _).drew)
      obtain ⟨ks1, hks1⟩ : ∃ ks1, m.keys.set sh (bits .or .i64 v1 v2) = ks1 := ⟨_, rfl⟩
      rw [hks1] at ST6'
      have hk1l : ks1.length ≤ 12 := by rw [← hks1, List.length_set]; omega
      have HKS : Hid (ks1 ++ r.keys.drop 1 = M.joinKs m r) := Lib.hid (by unfold M.joinKs; rw [HSHN.out, HV1.out, HV2.out, hks1])
      clear hst6 hks1 t0 t1 t2 r0 r1 r2 p1 p2 pf
      go_upto_region 7 with fail
      refine wp_named ?_
      intro W6 hW6
      have ST6 : Hid (JSt w r ra (some ⟨rkb, rkoff, none⟩) rc rd g w2.heap.size sz W6 ca cc (some ⟨kg, 0, none⟩) cd m.doors ks1) := Lib.hid (by rw [hW6]; exact ST6'.out)
      clear hW6 ST6'
      have hc0 : ∀ i u, (M.encIs r.keys)[i]? = some u → W6.cell? ⟨rkb, rkoff + i, none⟩ = some u := by
        obtain ⟨b', off', e, _, _, hh⟩ := (H'.out.keys.below ST6.out.low hz').at_ (k := 0) (by rw [M.encIs_len]; omega)
        injection e with e
        injection e with e1 e2 _
        subst e1; subst e2
        exact hh
      have HC6 := Lib.hid hc0
      have hrd1 := H'.out.d1
      have hrd2 := H'.out.d2
      obtain ⟨t0, t1, t2⟩ := ST6.out.out.cells
      obtain ⟨r0, r1, r2⟩ := ST6.out.box.cells
      have hz6 := ST6.out.low.size
      have hrl6 := ST6.out.box.lt
      have hgl6 := ST6.out.out.lt
      have S7 := Lib.hid (ST6.out.later (Below.refl _ _).drew)
      have hdz : W6.drew.heap.size = W6.heap.size := rfl
      clear hc0
      go_cut [47] (fun _ wx => ∃ ka kc, JSt w r ra (some ⟨rkb, rkoff, none⟩) rc rd g w2.heap.size sz wx ca cc ka kc m.doors (M.joinKs m r))
      case first =>
        by_cases hcap : rd = 1
        · have HL1 : Hid (r.keys.length = 1) := Lib.hid (by omega)
          subst hcap
          refine wp_region_late2 (fun wq => wq.cell? ⟨g, 2, none⟩ = some (.slice (some ⟨kg, 0, none⟩) ks1.length cd) ∧ wq.cell? ⟨w.heap.size + 1, 2, none⟩ = some (.slice (some ⟨rkb, rkoff, none⟩) r.keys.length 1)) [7] 8 #[false, false, false, false, false, false, false, false] rfl rfl (by kernel_rfl) ?_
          have hS : (fun wq => wq.cell? ⟨g, 2, none⟩ = some (.slice (some ⟨kg, 0, none⟩) ks1.length cd) ∧ wq.cell? ⟨w.heap.size + 1, 2, none⟩ = some (.slice (some ⟨rkb, rkoff, none⟩) r.keys.length 1)) W6.drew := ⟨t2, r2⟩
          refine wpAnyL_take (i := 0) (oi := { dst := some 42, op := Go.Op.fieldAddr 27 (Go.Operand.tmp 6) 2, type := 0, pos := "l2_mazes.go:287", after := #[], guard := none }) (v := ?kAv0) rfl (by kernel_rfl) (by kernel_rfl) (by kernel_rfl) (by kernel_rfl) (fun _ _ _ h => h) (Or.inl ⟨by rfl, ?kAh0⟩) hS ?kAr0
          case kAh0 => (intro wS hSw; (try dsimp only at hSw); go_split_ands; go_simp; try with_reducible rfl)
          try simp only [Act.put, List.setIfInBounds_toArray, List.set_cons_zero, List.set_cons_succ]
          refine wpAnyL_take (i := 1) (oi := { dst := some 43, op := Go.Op.load 25 (Go.Operand.tmp 42), type := 25, pos := "l2_mazes.go:287", after := #[{ on := 0, ground := Go.Ground.data }], guard := none }) (v := ?kAv1) rfl (by kernel_rfl) (by kernel_rfl) (by kernel_rfl) (by kernel_rfl) (fun _ _ _ h => h) (Or.inl ⟨by rfl, ?kAh1⟩) hS ?kAr1
          case kAh1 => (intro wS hSw; (try dsimp only at hSw); go_split_ands; go_simp; try with_reducible rfl)
          try simp only [Act.put, List.setIfInBounds_toArray, List.set_cons_zero, List.set_cons_succ]
          refine wpAnyL_take (i := 2) (oi := { dst := some 44, op := Go.Op.fieldAddr 27 (Go.Operand.tmp 3) 2, type := 0, pos := "l2_mazes.go:287", after := #[], guard := none }) (v := ?kAv2) rfl (by kernel_rfl) (by kernel_rfl) (by kernel_rfl) (by kernel_rfl) (fun _ _ _ h => h) (Or.inl ⟨by rfl, ?kAh2⟩) hS ?kAr2
          case kAh2 => (intro wS hSw; (try dsimp only at hSw); go_split_ands; go_simp; try with_reducible rfl)
          try simp only [Act.put, List.setIfInBounds_toArray, List.set_cons_zero, List.set_cons_succ]
          refine wpAnyL_take (i := 3) (oi := { dst := some 45, op := Go.Op.load 25 (Go.Operand.tmp 44), type := 25, pos := "l2_mazes.go:287", after := #[{ on := 2, ground := Go.Ground.data }], guard := none }) (v := ?kAv3) rfl (by kernel_rfl) (by kernel_rfl) (by kernel_rfl) (by kernel_rfl) (fun _ _ _ h => h) (Or.inl ⟨by rfl, ?kAh3⟩) hS ?kAr3
          case kAh3 => (intro wS hSw; (try dsimp only at hSw); go_split_ands; go_simp; try with_reducible rfl)
          try simp only [Act.put, List.setIfInBounds_toArray, List.set_cons_zero, List.set_cons_succ]
          refine wpAnyL_take (i := 4) (oi := { dst := some 46, op := Go.Op.slice 25 (Go.Operand.tmp 45) (some (Go.Operand.const (Go.Value.int Go.IntKind.i64 1))) none none, type := 25, pos := "l2_mazes.go:287", after := #[{ on := 3, ground := Go.Ground.data }], guard := none }) (v := ?kAv4) rfl (by kernel_rfl) (by kernel_rfl) (by kernel_rfl) (by kernel_rfl) (fun _ _ _ h => h) (Or.inl ⟨by rfl, ?kAh4⟩) hS ?kAr4
          case kAh4 => (intro wS hSw; (try dsimp only at hSw); go_split_ands; go_simp; try with_reducible rfl)
          try simp only [Act.put, List.setIfInBounds_toArray, List.set_cons_zero, List.set_cons_succ]
          refine wpAnyL_one (i := 5) (oi := { dst := some 47, op := Go.Op.call { callee := Go.Callee.builtin Go.Builtin.append, args := #[Go.Operand.tmp 43, Go.Operand.tmp 46], argTypes := #[25, 25] }, type := 25, pos := "l2_mazes.go:287", after := #[{ on := 1, ground := Go.Ground.data }, { on := 4, ground := Go.Ground.data }], guard := none }) (by kernel_rfl) rfl (fun K3 hK3 => ?_)
          refine step_append_own rfl (.tmp 43) (.tmp 46) 25 rfl w2.heap.size 3 j0 (.int .i64 0) 1 8 Try.underlying25 hj0 hy0 hy1 hy2 rfl (by decide) _ _ _ S7.out.keys (by first | (simp [Act.eval]; done) | simp [Act.eval, Act.put]) ⟨rkb, rkoff, none⟩ 0 0 [] (by first | (simp [Act.eval]; done) | simp [Act.eval, Act.put]) rfl (fun j u hj => by simp at hj) (fun x hx => by cases hx) (by unfold maxLen; omega) (by omega) (by omega) ?_
          intro v6 w6 hown6 hgrow6 hnil6
          obtain ⟨ka2, kc2, hka2, _, _, _⟩ := own_slice hown6
          subst hka2
          have bx6 := S7.out.out.grown hgrow6 (own_ne_box S7.out.keys S7.out.out (by decide))
          have rx6 := S7.out.box.grown hgrow6 (own_ne_box S7.out.keys S7.out.box (by decide))
          have yx6 := S7.out.res.grown hgrow6 (own_ne_box S7.out.keys S7.out.res (by decide))
          have ro6 := S7.out.row.kept hgrow6 (own_ne_own2 S7.out.keys S7.out.row (by decide))
          have hS7 : (fun wq => wq.cell? ⟨g, 2, none⟩ = some (.slice (some ⟨kg, 0, none⟩) ks1.length cd) ∧ wq.cell? ⟨w.heap.size + 1, 2, none⟩ = some (.slice (some ⟨rkb, rkoff, none⟩) r.keys.length 1)) w6 := ⟨bx6.cells.2.2, rx6.cells.2.2⟩
          refine hK3 _ _ (fun _ => hS7) ?_
          clear hS
          have hS := hS7
          try simp only [Act.put, List.setIfInBounds_toArray, List.set_cons_zero, List.set_cons_succ]
          refine wpAnyL_take (i := 6) (oi := { dst := some 48, op := Go.Op.fieldAddr 27 (Go.Operand.tmp 6) 2, type := 0, pos := "l2_mazes.go:287", after := #[{ on := 0, ground := Go.Ground.phase }, { on := 1, ground := Go.Ground.phase }, { on := 2, ground := Go.Ground.phase }, { on := 3, ground := Go.Ground.phase }, { on := 4, ground := Go.Ground.phase }, { on := 5, ground := Go.Ground.phase }], guard := none }) (v := ?eAv6) rfl (by kernel_rfl) (by kernel_rfl) (by kernel_rfl) (by kernel_rfl) (fun _ _ _ h => h) (Or.inl ⟨by rfl, ?eAh6⟩) hS ?eAr6
          case eAh6 => (intro wS hSw; (try dsimp only at hSw); go_split_ands; go_simp; try with_reducible rfl)
          try simp only [Act.put, List.setIfInBounds_toArray, List.set_cons_zero, List.set_cons_succ]
          obtain ⟨b0, b1, b2⟩ := bx6.cells
          obtain ⟨g0, g1, g2⟩ := bx6.free
          have hl6 := bx6.lt
          have hke : M.encIs ks1 ++ [] = M.encIs (M.joinKs m r) := by rw [← HKS.out, M.encIs_append, List.drop_of_length_le (by have := HL1.out; omega)]; rfl
          have hkn : ks1.length + 0 = (M.joinKs m r).length := by rw [← HKS.out, List.length_append, List.length_drop, HL1.out]
          have hnew : JSt w r ra (some ⟨rkb, rkoff, none⟩) rc 1 g w2.heap.size sz (w6.setCell ⟨g, 2, none⟩ (.slice ka2 (ks1.length + 0) kc2)) ca cc ka2 kc2 m.doors (M.joinKs m r) :=
            ⟨own_setBox ro6 bx6 (by decide) 2 _, by rw [← hkn, ← hke]; exact own_setBox hown6 bx6 (by decide) 2 _, rx6.other (by omega) 2 _, yx6.other (by omega) 2 _, by rw [← hkn]; exact bx6.set2 _, (S7.out.low.grown hgrow6 (by omega) (fun q hq => by have := own_base S7.out.keys q hq; omega)).setCell (p := ⟨g, 2, none⟩) (by show w.heap.size ≤ g; omega) _⟩
          have HNEW := Lib.hid hnew
          clear hnew rx6 yx6 ro6 bx6 hS7 hS hown6 hgrow6 hnil6 hke hkn
          refine wpAnyL_one (i := 7) (oi := { dst := none, op := Go.Op.store 25 (Go.Operand.tmp 48) (Go.Operand.tmp 47), type := 0, pos := "l2_mazes.go:287", after := #[{ on := 6, ground := Go.Ground.data }, { on := 5, ground := Go.Ground.data }, { on := 5, ground := Go.Ground.chain }, { on := 0, ground := Go.Ground.phase }, { on := 1, ground := Go.Ground.phase }, { on := 2, ground := Go.Ground.phase }, { on := 3, ground := Go.Ground.phase }, { on := 4, ground := Go.Ground.phase }, { on := 5, ground := Go.Ground.phase }], guard := none }) (by kernel_rfl) rfl (fun K4 hK4 => ?_)
          go_simp
          refine hK4 _ _ (fun h => absurd h (by decide)) ?_
          refine wpAnyL_done (by kernel_rfl) ?_ _
          go_wp2_with fail
          go_meet
          exact ⟨_, _, HNEW.out⟩
        · have hcap2 : 1 < rd := by omega
          refine wp_region_late2 (fun wq => wq.cell? ⟨g, 2, none⟩ = some (.slice (some ⟨kg, 0, none⟩) ks1.length cd) ∧ wq.cell? ⟨w.heap.size + 1, 2, none⟩ = some (.slice (some ⟨rkb, rkoff, none⟩) r.keys.length rd)) [7] 8 #[false, false, false, false, false, false, false, false] rfl rfl (by kernel_rfl) ?_
          have hS : (fun wq => wq.cell? ⟨g, 2, none⟩ = some (.slice (some ⟨kg, 0, none⟩) ks1.length cd) ∧ wq.cell? ⟨w.heap.size + 1, 2, none⟩ = some (.slice (some ⟨rkb, rkoff, none⟩) r.keys.length rd)) W6.drew := ⟨t2, r2⟩
          refine wpAnyL_take (i := 0) (oi := { dst := some 42, op := Go.Op.fieldAddr 27 (Go.Operand.tmp 6) 2, type := 0, pos := "l2_mazes.go:287", after := #[], guard := none }) (v := ?kBv0) rfl (by kernel_rfl) (by kernel_rfl) (by kernel_rfl) (by kernel_rfl) (fun _ _ _ h => h) (Or.inl ⟨by rfl, ?kBh0⟩) hS ?kBr0
          case kBh0 => (intro wS hSw; (try dsimp only at hSw); go_split_ands; go_simp; try with_reducible rfl)
          try simp only [Act.put, List.setIfInBounds_toArray, List.set_cons_zero, List.set_cons_succ]
          refine wpAnyL_take (i := 1) (oi := { dst := some 43, op := Go.Op.load 25 (Go.Operand.tmp 42), type := 25, pos := "l2_mazes.go:287", after := #[{ on := 0, ground := Go.Ground.data }], guard := none }) (v := ?kBv1) rfl (by kernel_rfl) (by kernel_rfl) (by kernel_rfl) (by kernel_rfl) (fun _ _ _ h => h) (Or.inl ⟨by rfl, ?kBh1⟩) hS ?kBr1
          case kBh1 => (intro wS hSw; (try dsimp only at hSw); go_split_ands; go_simp; try with_reducible rfl)
          try simp only [Act.put, List.setIfInBounds_toArray, List.set_cons_zero, List.set_cons_succ]
          refine wpAnyL_take (i := 2) (oi := { dst := some 44, op := Go.Op.fieldAddr 27 (Go.Operand.tmp 3) 2, type := 0, pos := "l2_mazes.go:287", after := #[], guard := none }) (v := ?kBv2) rfl (by kernel_rfl) (by kernel_rfl) (by kernel_rfl) (by kernel_rfl) (fun _ _ _ h => h) (Or.inl ⟨by rfl, ?kBh2⟩) hS ?kBr2
          case kBh2 => (intro wS hSw; (try dsimp only at hSw); go_split_ands; go_simp; try with_reducible rfl)
          try simp only [Act.put, List.setIfInBounds_toArray, List.set_cons_zero, List.set_cons_succ]
          refine wpAnyL_take (i := 3) (oi := { dst := some 45, op := Go.Op.load 25 (Go.Operand.tmp 44), type := 25, pos := "l2_mazes.go:287", after := #[{ on := 2, ground := Go.Ground.data }], guard := none }) (v := ?kBv3) rfl (by kernel_rfl) (by kernel_rfl) (by kernel_rfl) (by kernel_rfl) (fun _ _ _ h => h) (Or.inl ⟨by rfl, ?kBh3⟩) hS ?kBr3
          case kBh3 => (intro wS hSw; (try dsimp only at hSw); go_split_ands; go_simp; try with_reducible rfl)
          try simp only [Act.put, List.setIfInBounds_toArray, List.set_cons_zero, List.set_cons_succ]
          refine wpAnyL_take (i := 4) (oi := { dst := some 46, op := Go.Op.slice 25 (Go.Operand.tmp 45) (some (Go.Operand.const (Go.Value.int Go.IntKind.i64 1))) none none, type := 25, pos := "l2_mazes.go:287", after := #[{ on := 3, ground := Go.Ground.data }], guard := none }) (v := ?kBv4) rfl (by kernel_rfl) (by kernel_rfl) (by kernel_rfl) (by kernel_rfl) (fun _ _ _ h => h) (Or.inl ⟨by rfl, ?kBh4⟩) hS ?kBr4
          case kBh4 => (intro wS hSw; (try dsimp only at hSw); go_split_ands; go_simp; try with_reducible rfl)
          try simp only [Act.put, List.setIfInBounds_toArray, List.set_cons_zero, List.set_cons_succ]
          refine wpAnyL_one (i := 5) (oi := { dst := some 47, op := Go.Op.call { callee := Go.Callee.builtin Go.Builtin.append, args := #[Go.Operand.tmp 43, Go.Operand.tmp 46], argTypes := #[25, 25] }, type := 25, pos := "l2_mazes.go:287", after := #[{ on := 1, ground := Go.Ground.data }, { on := 4, ground := Go.Ground.data }], guard := none }) (by kernel_rfl) rfl (fun K3 hK3 => ?_)
          refine step_append_own rfl (.tmp 43) (.tmp 46) 25 rfl w2.heap.size 3 j0 (.int .i64 0) 1 8 Try.underlying25 hj0 hy0 hy1 hy2 rfl (by decide) _ _ _ S7.out.keys (by first | (simp [Act.eval]; done) | simp [Act.eval, Act.put]) ⟨rkb, rkoff + 1, none⟩ (r.keys.length - 1) (rd - 1) (M.encIs (r.keys.drop 1)) (by first | (simp [Act.eval]; done) | simp [Act.eval, Act.put]) (by rw [M.encIs_len, List.length_drop, Nat.mul_one]) (fun j u hj => by rw [cell_add, show rkoff + 1 + j = rkoff + (j + 1) by omega]; exact HC6.out (j + 1) u (by rw [← hj]; unfold M.encIs; rw [List.getElem?_map, List.getElem?_map, List.getElem?_drop, Nat.add_comm 1 j])) (fun x hx => by unfold M.encIs at hx; obtain ⟨z, _, rfl⟩ := List.mem_map.1 hx; rfl) (by unfold maxLen; omega) (by omega) (by omega) ?_
          intro v6 w6 hown6 hgrow6 hnil6
          obtain ⟨ka2, kc2, hka2, _, _, _⟩ := own_slice hown6
          subst hka2
          have bx6 := S7.out.out.grown hgrow6 (own_ne_box S7.out.keys S7.out.out (by decide))
          have rx6 := S7.out.box.grown hgrow6 (own_ne_box S7.out.keys S7.out.box (by decide))
          have yx6 := S7.out.res.grown hgrow6 (own_ne_box S7.out.keys S7.out.res (by decide))
          have ro6 := S7.out.row.kept hgrow6 (own_ne_own2 S7.out.keys S7.out.row (by decide))
          have hS7 : (fun wq => wq.cell? ⟨g, 2, none⟩ = some (.slice (some ⟨kg, 0, none⟩) ks1.length cd) ∧ wq.cell? ⟨w.heap.size + 1, 2, none⟩ = some (.slice (some ⟨rkb, rkoff, none⟩) r.keys.length rd)) w6 := ⟨bx6.cells.2.2, rx6.cells.2.2⟩
          refine hK3 _ _ (fun _ => hS7) ?_
          clear hS
          have hS := hS7
          try simp only [Act.put, List.setIfInBounds_toArray, List.set_cons_zero, List.set_cons_succ]
          refine wpAnyL_take (i := 6) (oi := { dst := some 48, op := Go.Op.fieldAddr 27 (Go.Operand.tmp 6) 2, type := 0, pos := "l2_mazes.go:287", after := #[{ on := 0, ground := Go.Ground.phase }, { on := 1, ground := Go.Ground.phase }, { on := 2, ground := Go.Ground.phase }, { on := 3, ground := Go.Ground.phase }, { on := 4, ground := Go.Ground.phase }, { on := 5, ground := Go.Ground.phase }], guard := none }) (v := ?eBv6) rfl (by kernel_rfl) (by kernel_rfl) (by kernel_rfl) (by kernel_rfl) (fun _ _ _ h => h) (Or.inl ⟨by rfl, ?eBh6⟩) hS ?eBr6
          case eBh6 => (intro wS hSw; (try dsimp only at hSw); go_split_ands; go_simp; try with_reducible rfl)
          try simp only [Act.put, List.setIfInBounds_toArray, List.set_cons_zero, List.set_cons_succ]
          obtain ⟨b0, b1, b2⟩ := bx6.cells
          obtain ⟨g0, g1, g2⟩ := bx6.free
          have hl6 := bx6.lt
          have hke : M.encIs ks1 ++ (M.encIs (r.keys.drop 1)) = M.encIs (M.joinKs m r) := by rw [← HKS.out, M.encIs_append]
          have hkn : ks1.length + (r.keys.length - 1) = (M.joinKs m r).length := by rw [← HKS.out, List.length_append, List.length_drop]
          have hnew : JSt w r ra (some ⟨rkb, rkoff, none⟩) rc rd g w2.heap.size sz (w6.setCell ⟨g, 2, none⟩ (.slice ka2 (ks1.length + (r.keys.length - 1)) kc2)) ca cc ka2 kc2 m.doors (M.joinKs m r) :=
            ⟨own_setBox ro6 bx6 (by decide) 2 _, by rw [← hkn, ← hke]; exact own_setBox hown6 bx6 (by decide) 2 _, rx6.other (by omega) 2 _, yx6.other (by omega) 2 _, by rw [← hkn]; exact bx6.set2 _, (S7.out.low.grown hgrow6 (by omega) (fun q hq => by have := own_base S7.out.keys q hq; omega)).setCell (p := ⟨g, 2, none⟩) (by show w.heap.size ≤ g; omega) _⟩
          have HNEW := Lib.hid hnew
          clear hnew rx6 yx6 ro6 bx6 hS7 hS hown6 hgrow6 hnil6 hke hkn
          refine wpAnyL_one (i := 7) (oi := { dst := none, op := Go.Op.store 25 (Go.Operand.tmp 48) (Go.Operand.tmp 47), type := 0, pos := "l2_mazes.go:287", after := #[{ on := 6, ground := Go.Ground.data }, { on := 5, ground := Go.Ground.data }, { on := 5, ground := Go.Ground.chain }, { on := 0, ground := Go.Ground.phase }, { on := 1, ground := Go.Ground.phase }, { on := 2, ground := Go.Ground.phase }, { on := 3, ground := Go.Ground.phase }, { on := 4, ground := Go.Ground.phase }, { on := 5, ground := Go.Ground.phase }], guard := none }) (by kernel_rfl) rfl (fun K4 hK4 => ?_)
          go_simp
          refine hK4 _ _ (fun h => absurd h (by decide)) ?_
          refine wpAnyL_done (by kernel_rfl) ?_ _
          go_wp2_with fail
          go_meet
          exact ⟨_, _, HNEW.out⟩
      case rest =>
        obtain ⟨ka, kc, hst7⟩ := hcut
        have ST8 := Lib.hid hst7
        have hxl8 := hst7.box.lt
        have hz8 := hst7.low.size
        clear hst7 t0 t1 t2 r0 r1 r2
        obtain ⟨r0, r1, r2⟩ := ST8.out.box.cells
        go_wp2_with fail
        go_loopw [9, 52] (fun _ i wr => ∃ (k : Nat) (va : Option Addr) (vc : Nat), k ≤ r.doors.length ∧ i = .int .i64 k ∧ JSt w r ra (some ⟨rkb, rkoff, none⟩) rc rd g w2.heap.size sz wr va vc ka kc (M.joinDs m r k) (M.joinKs m r)) (fun _ i _ => r.doors.length - (intOf i).toNat)
        case atStart => exact ⟨0, ca, cc, Nat.zero_le _, rfl, by rw [M.joinDs_zero]; exact ST8.out⟩
        case round =>
          obtain ⟨k, va, vc, hk, rfl, hst⟩ := hrel
          have SR := Lib.hid hst
          have hzr := hst.low.size
          have hol := hst.out.lt
          have hxl := hst.box.lt
          have hdn : (M.joinDs m r k).length ≤ 60 := by rw [M.joinDs_len hk]; omega
          clear hst r0 r1 r2
          by_cases hlt : k < r.doors.length
          · obtain ⟨db, off, hda, _, hdb, hc0⟩ := (H'.out.doors.below SR.out.low hz').at_ (k := k * 3) (by rw [M.encDs_len]; omega)
            subst hda
            obtain ⟨q1, q2, q3, q4, q5, q6, q7⟩ := HVB.out.door k hlt
            have hdo := M.doorOf_sh (a := m) HVB.out hlt
            have hms : m.size - 1 = (sh : Int) := by rw [HSH.out]; omega
            have hsu := M.joinDs_succ (a := m) hlt
            rw [← hdo, hms] at hsu
            obtain ⟨x1, hx1⟩ : ∃ x, r.doors[k].1 = x := ⟨_, rfl⟩
            obtain ⟨x2, hx2⟩ : ∃ x, r.doors[k].2.1 = x := ⟨_, rfl⟩
            obtain ⟨nd, hnd⟩ : ∃ x, r.doors[k].2.2 = x := ⟨_, rfl⟩
            have p0 : wr.cell? ⟨db, off + k * 3, none⟩ = some (.int .i64 x1) := by rw [← hx1]; exact hc0 _ _ (M.encDs_at0 hlt)
            have p1 : wr.cell? ⟨db, off + k * 3 + 1, none⟩ = some (.int .i64 x2) := by rw [← hx2]; exact hc0 _ _ (M.encDs_at1 hlt)
            have p2 : wr.cell? ⟨db, off + k * 3 + 2, none⟩ = some (.int .i64 nd) := by rw [← hnd]; exact hc0 _ _ (M.encDs_at2 hlt)
            rw [hx1, hx2, hnd] at hsu
            rw [hx1] at q1 q2
            rw [hx2] at q3 q4
            have HSU := Lib.hid hsu
            have hltI : (k : Int) < (r.doors.length : Int) := by omega
            clear hc0 hdo hms hsu hx1 hx2 hnd q5 q6 q7
            generalize hDS : M.joinDs m r k = ds at *
            clear hDS
            go_wp2_with fail
            refine wp_named ?_
            intro W7 hW7
            have hb7 : Below wr.heap.size wr W7 := by rw [hW7]; exact below_alloc _ _
            have n7 : Box3 W7 wr.heap.size 60 (.int .i64 x1) (.int .i64 x2) (.int .i64 nd) := by rw [hW7]; exact Box3.new _ _ _ _ rfl
            have S7 := Lib.hid (SR.out.later hb7)
            have N7 := Lib.hid n7
            have hz7 := hb7.size
            have hn7 := n7.lt
            have HNN : Hid (Value.ownBlock (.slice va ds.length vc) ≠ some wr.heap.size) := Lib.hid (fun he => by have := (SR.out.row.lt _ he).2; omega)
            have hw1 : IntKind.i64.wrap (x1 + (sh : Int)) = x1 + (sh : Int) := IntWalk.i64_in _ (by omega)
            have hw2 : IntKind.i64.wrap (x2 + (sh : Int)) = x2 + (sh : Int) := IntWalk.i64_in _ (by omega)
            obtain ⟨b0, b1, b2⟩ := S7.out.out.cells
            clear hW7 hb7 n7 p0 p1 p2
            refine wp_region_late2 (fun wq => wq.cell? ⟨g, 1, none⟩ = some (.slice va ds.length vc) ∧ wq.cell? ⟨wr.heap.size, 0, none⟩ = some (.int .i64 x1) ∧ wq.cell? ⟨wr.heap.size, 1, none⟩ = some (.int .i64 x2) ∧ wq.cell? ⟨wr.heap.size, 2, none⟩ = some (.int .i64 nd)) [16] 17 #[false, false, false, false, false, false, false, false, false, false, false, false, false, false, false, false, false] rfl rfl (by kernel_rfl) ?_
            have hS : (fun wq => wq.cell? ⟨g, 1, none⟩ = some (.slice va ds.length vc) ∧ wq.cell? ⟨wr.heap.size, 0, none⟩ = some (.int .i64 x1) ∧ wq.cell? ⟨wr.heap.size, 1, none⟩ = some (.int .i64 x2) ∧ wq.cell? ⟨wr.heap.size, 2, none⟩ = some (.int .i64 nd)) W7.drew := ⟨b1, N7.out.cells.1, N7.out.cells.2.1, N7.out.cells.2.2⟩
            refine wpAnyL_take (i := 0) (oi := { dst := some 56, op := Go.Op.fieldAddr 27 (Go.Operand.tmp 6) 1, type := 0, pos := "l2_mazes.go:289", after := #[], guard := none }) (v := ?dv0) rfl (by kernel_rfl) (by kernel_rfl) (by kernel_rfl) (by kernel_rfl) (fun _ _ _ h => h) (Or.inl ⟨by rfl, ?dh0⟩) hS ?dr0
            case dh0 => (intro wS hSw; (try dsimp only at hSw); go_split_ands; go_simp; try with_reducible rfl)
            try simp only [Act.put, List.setIfInBounds_toArray, List.set_cons_zero, List.set_cons_succ]
            refine wpAnyL_take (i := 1) (oi := { dst := some 57, op := Go.Op.load 24 (Go.Operand.tmp 56), type := 24, pos := "l2_mazes.go:289", after := #[{ on := 0, ground := Go.Ground.data }], guard := none }) (v := ?dv1) rfl (by kernel_rfl) (by kernel_rfl) (by kernel_rfl) (by kernel_rfl) (fun _ _ _ h => h) (Or.inl ⟨by rfl, ?dh1⟩) hS ?dr1
            case dh1 => (intro wS hSw; (try dsimp only at hSw); go_split_ands; go_simp; try with_reducible rfl)
            try simp only [Act.put, List.setIfInBounds_toArray, List.set_cons_zero, List.set_cons_succ]
            refine wpAnyL_take (i := 2) (oi := { dst := some 58, op := Go.Op.indexAddr 60 (Go.Operand.tmp 9) (Go.Operand.const (Go.Value.int Go.IntKind.i64 0)), type := 0, pos := "l2_mazes.go:289", after := #[], guard := none }) (v := ?dv2) rfl (by kernel_rfl) (by kernel_rfl) (by kernel_rfl) (by kernel_rfl) (fun _ _ _ h => h) (Or.inl ⟨by rfl, ?dh2⟩) hS ?dr2
            case dh2 => (intro wS hSw; (try dsimp only at hSw); go_split_ands; go_simp; try with_reducible rfl)
            try simp only [Act.put, List.setIfInBounds_toArray, List.set_cons_zero, List.set_cons_succ]
            refine wpAnyL_take (i := 3) (oi := { dst := some 59, op := Go.Op.load 3 (Go.Operand.tmp 58), type := 3, pos := "l2_mazes.go:289", after := #[{ on := 2, ground := Go.Ground.data }], guard := none }) (v := ?dv3) rfl (by kernel_rfl) (by kernel_rfl) (by kernel_rfl) (by kernel_rfl) (fun _ _ _ h => h) (Or.inl ⟨by rfl, ?dh3⟩) hS ?dr3
            case dh3 => (intro wS hSw; (try dsimp only at hSw); go_split_ands; go_simp; try with_reducible rfl)
            try simp only [Act.put, List.setIfInBounds_toArray, List.set_cons_zero, List.set_cons_succ]
            refine wpAnyL_take (i := 4) (oi := { dst := some 60, op := Go.Op.move (Go.Operand.tmp 7), type := 3, pos := "l2_mazes.go:289", after := #[], guard := none }) (v := ?dv4) rfl (by kernel_rfl) (by kernel_rfl) (by kernel_rfl) (by kernel_rfl) (fun _ _ _ h => h) (Or.inl ⟨by rfl, ?dh4⟩) hS ?dr4
            case dh4 => (intro wS hSw; (try dsimp only at hSw); go_split_ands; go_simp; try with_reducible rfl)
            try simp only [Act.put, List.setIfInBounds_toArray, List.set_cons_zero, List.set_cons_succ]
            refine wpAnyL_take (i := 5) (oi := { dst := some 61, op := Go.Op.binOp Go.BinOp.add 3 (Go.Operand.tmp 59) (Go.Operand.tmp 60) 3, type := 3, pos := "l2_mazes.go:289", after := #[{ on := 3, ground := Go.Ground.data }, { on := 4, ground := Go.Ground.data }], guard := none }) (v := ?dv5) rfl (by kernel_rfl) (by kernel_rfl) (by kernel_rfl) (by kernel_rfl) (fun _ _ _ h => h) (Or.inl ⟨by rfl, ?dh5⟩) hS ?dr5
            case dh5 => (intro wS hSw; (try dsimp only at hSw); go_split_ands; go_simp; try with_reducible rfl)
            try simp only [Act.put, List.setIfInBounds_toArray, List.set_cons_zero, List.set_cons_succ]
            refine wpAnyL_take (i := 6) (oi := { dst := some 62, op := Go.Op.indexAddr 60 (Go.Operand.tmp 9) (Go.Operand.const (Go.Value.int Go.IntKind.i64 1)), type := 0, pos := "l2_mazes.go:289", after := #[], guard := none }) (v := ?dv6) rfl (by kernel_rfl) (by kernel_rfl) (by kernel_rfl) (by kernel_rfl) (fun _ _ _ h => h) (Or.inl ⟨by rfl, ?dh6⟩) hS ?dr6
            case dh6 => (intro wS hSw; (try dsimp only at hSw); go_split_ands; go_simp; try with_reducible rfl)
            try simp only [Act.put, List.setIfInBounds_toArray, List.set_cons_zero, List.set_cons_succ]
            refine wpAnyL_take (i := 7) (oi := { dst := some 63, op := Go.Op.load 3 (Go.Operand.tmp 62), type := 3, pos := "l2_mazes.go:289", after := #[{ on := 6, ground := Go.Ground.data }], guard := none }) (v := ?dv7) rfl (by kernel_rfl) (by kernel_rfl) (by kernel_rfl) (by kernel_rfl) (fun _ _ _ h => h) (Or.inl ⟨by rfl, ?dh7⟩) hS ?dr7
            case dh7 => (intro wS hSw; (try dsimp only at hSw); go_split_ands; go_simp; try with_reducible rfl)
            try simp only [Act.put, List.setIfInBounds_toArray, List.set_cons_zero, List.set_cons_succ]
            refine wpAnyL_take (i := 8) (oi := { dst := some 64, op := Go.Op.move (Go.Operand.tmp 7), type := 3, pos := "l2_mazes.go:289", after := #[], guard := none }) (v := ?dv8) rfl (by kernel_rfl) (by kernel_rfl) (by kernel_rfl) (by kernel_rfl) (fun _ _ _ h => h) (Or.inl ⟨by rfl, ?dh8⟩) hS ?dr8
            case dh8 => (intro wS hSw; (try dsimp only at hSw); go_split_ands; go_simp; try with_reducible rfl)
            try simp only [Act.put, List.setIfInBounds_toArray, List.set_cons_zero, List.set_cons_succ]
            refine wpAnyL_take (i := 9) (oi := { dst := some 65, op := Go.Op.binOp Go.BinOp.add 3 (Go.Operand.tmp 63) (Go.Operand.tmp 64) 3, type := 3, pos := "l2_mazes.go:289", after := #[{ on := 7, ground := Go.Ground.data }, { on := 8, ground := Go.Ground.data }], guard := none }) (v := ?dv9) rfl (by kernel_rfl) (by kernel_rfl) (by kernel_rfl) (by kernel_rfl) (fun _ _ _ h => h) (Or.inl ⟨by rfl, ?dh9⟩) hS ?dr9
            case dh9 => (intro wS hSw; (try dsimp only at hSw); go_split_ands; go_simp; try with_reducible rfl)
            try simp only [Act.put, List.setIfInBounds_toArray, List.set_cons_zero, List.set_cons_succ]
            refine wpAnyL_take (i := 10) (oi := { dst := some 66, op := Go.Op.indexAddr 60 (Go.Operand.tmp 9) (Go.Operand.const (Go.Value.int Go.IntKind.i64 2)), type := 0, pos := "l2_mazes.go:289", after := #[], guard := none }) (v := ?dv10) rfl (by kernel_rfl) (by kernel_rfl) (by kernel_rfl) (by kernel_rfl) (fun _ _ _ h => h) (Or.inl ⟨by rfl, ?dh10⟩) hS ?dr10
            case dh10 => (intro wS hSw; (try dsimp only at hSw); go_split_ands; go_simp; try with_reducible rfl)
            try simp only [Act.put, List.setIfInBounds_toArray, List.set_cons_zero, List.set_cons_succ]
            refine wpAnyL_take (i := 11) (oi := { dst := some 67, op := Go.Op.load 3 (Go.Operand.tmp 66), type := 3, pos := "l2_mazes.go:289", after := #[{ on := 10, ground := Go.Ground.data }], guard := none }) (v := ?dv11) rfl (by kernel_rfl) (by kernel_rfl) (by kernel_rfl) (by kernel_rfl) (fun _ _ _ h => h) (Or.inl ⟨by rfl, ?dh11⟩) hS ?dr11
            case dh11 => (intro wS hSw; (try dsimp only at hSw); go_split_ands; go_simp; try with_reducible rfl)
            try simp only [Act.put, List.setIfInBounds_toArray, List.set_cons_zero, List.set_cons_succ]
            refine wpAnyL_one (i := 12) (oi := { dst := some 68, op := Go.Op.call { callee := Go.Callee.value (Go.Operand.func 73), args := #[Go.Operand.tmp 61, Go.Operand.tmp 65, Go.Operand.tmp 67], argTypes := #[3, 3, 3] }, type := 60, pos := "l2_mazes.go:289", after := #[{ on := 5, ground := Go.Ground.data }, { on := 9, ground := Go.Ground.data }, { on := 11, ground := Go.Ground.data }], guard := none }) (by kernel_rfl) rfl (fun K1 hK1 => ?_)
            refine step_call (by rfl) 73 #[.int .i64 (x1 + (sh : Int)), .int .i64 (x2 + (sh : Int)), .int .i64 nd] (by go_simp; try rfl) (doorBetween_any _ _ nd _) ?_
            rintro e w5 ⟨rfl, hb5⟩
            refine ⟨_, rfl, ?_⟩
            have hb5' : Below W7.heap.size W7 w5 := (Below.refl W7.heap.size W7).drew.trans hb5
            have hs5 := hb5'.size
            have S5 := Lib.hid (S7.out.later hb5')
            have N5 := Lib.hid (N7.out.below hb5')
            have hS5 : (fun wq => wq.cell? ⟨g, 1, none⟩ = some (.slice va ds.length vc) ∧ wq.cell? ⟨wr.heap.size, 0, none⟩ = some (.int .i64 x1) ∧ wq.cell? ⟨wr.heap.size, 1, none⟩ = some (.int .i64 x2) ∧ wq.cell? ⟨wr.heap.size, 2, none⟩ = some (.int .i64 nd)) w5 := ⟨S5.out.out.cells.2.1, N5.out.cells.1, N5.out.cells.2.1, N5.out.cells.2.2⟩
            refine hK1 _ _ (fun _ => hS5) ?_
            clear hS
            try simp only [Act.put, List.setIfInBounds_toArray, List.set_cons_zero, List.set_cons_succ]
            have hS6 : ∀ o, (fun wq => wq.cell? ⟨g, 1, none⟩ = some (.slice va ds.length vc) ∧ wq.cell? ⟨wr.heap.size, 0, none⟩ = some (.int .i64 x1) ∧ wq.cell? ⟨wr.heap.size, 1, none⟩ = some (.int .i64 x2) ∧ wq.cell? ⟨wr.heap.size, 2, none⟩ = some (.int .i64 nd)) (w5.alloc o) := fun o => ⟨(S5.out.out.alloc o).cells.2.1, (N5.out.alloc o).cells.1, (N5.out.alloc o).cells.2.1, (N5.out.alloc o).cells.2.2⟩
            refine wpAnyL_one (i := 13) (oi := { dst := some 69, op := Go.Op.buildSlice 24 1 #[(0, Go.Operand.tmp 68)], type := 24, pos := "l2_mazes.go:289", after := #[{ on := 12, ground := Go.Ground.data }], guard := none }) (by kernel_rfl) rfl (fun K2 hK2 => ?_)
            go_simp
            refine hK2 _ _ (fun _ => hS6 _) ?_
            try simp only [List.setIfInBounds_toArray, List.set_cons_zero, List.set_cons_succ]
            refine wpAnyL_one (i := 14) (oi := { dst := some 70, op := Go.Op.call { callee := Go.Callee.builtin Go.Builtin.append, args := #[Go.Operand.tmp 57, Go.Operand.tmp 69], argTypes := #[24, 24] }, type := 24, pos := "l2_mazes.go:289", after := #[{ on := 1, ground := Go.Ground.data }, { on := 13, ground := Go.Ground.data }, { on := 12, ground := Go.Ground.chain }], guard := none }) (by kernel_rfl) rfl (fun K3 hK3 => ?_)
            refine step_append_own rfl (.tmp 57) (.tmp 69) 24 rfl w2.heap.size 60 i0 (.agg #[.int .i64 0, .int .i64 0, .int .i64 0]) 3 24 Try.underlying24 hi0 hz0 hz1 hz2 rfl (by decide) _ _ _ (S5.out.row.alloc _) (by first | (simp [Act.eval]; done) | simp [Act.eval, Act.put]) ⟨w5.heap.size, 0, none⟩ 1 1 (M.encD (M.doorOf (x1 + (sh : Int)) (x2 + (sh : Int)) nd)) (by first | (simp [Act.eval]; done) | simp [Act.eval, Act.put]) (show (M.encD (M.doorOf (x1 + (sh : Int)) (x2 + (sh : Int)) nd)).length = 1 * 3 from rfl) (news3 (Box3.new _ _ _ _ rfl)) (encD_one _) (by unfold maxLen; omega) (by omega) (by simp; omega) ?_
            intro v6 w6 hown6 hgrow6 hnil6
            obtain ⟨va2, vc2, hva2, hq1, hq2, hq3⟩ := own_slice hown6
            subst hva2
            have bx6 := (S5.out.out.alloc (.cells #[.int .i64 (M.doorOf (x1 + (sh : Int)) (x2 + (sh : Int)) nd).1, .int .i64 (M.doorOf (x1 + (sh : Int)) (x2 + (sh : Int)) nd).2.1, .int .i64 (M.doorOf (x1 + (sh : Int)) (x2 + (sh : Int)) nd).2.2] 60)).grown hgrow6 (own_ne_box S5.out.row S5.out.out (by decide))
            have nx6 := (N5.out.alloc (.cells #[.int .i64 (M.doorOf (x1 + (sh : Int)) (x2 + (sh : Int)) nd).1, .int .i64 (M.doorOf (x1 + (sh : Int)) (x2 + (sh : Int)) nd).2.1, .int .i64 (M.doorOf (x1 + (sh : Int)) (x2 + (sh : Int)) nd).2.2] 60)).grown hgrow6 HNN.out
            have hS7 : (fun wq => wq.cell? ⟨g, 1, none⟩ = some (.slice va ds.length vc) ∧ wq.cell? ⟨wr.heap.size, 0, none⟩ = some (.int .i64 x1) ∧ wq.cell? ⟨wr.heap.size, 1, none⟩ = some (.int .i64 x2) ∧ wq.cell? ⟨wr.heap.size, 2, none⟩ = some (.int .i64 nd)) w6 := ⟨bx6.cells.2.1, nx6.cells.1, nx6.cells.2.1, nx6.cells.2.2⟩
            refine hK3 _ _ (fun _ => hS7) ?_
            have hS := hS7
            try simp only [Act.put, List.setIfInBounds_toArray, List.set_cons_zero, List.set_cons_succ]
            refine wpAnyL_take (i := 15) (oi := { dst := some 71, op := Go.Op.fieldAddr 27 (Go.Operand.tmp 6) 1, type := 0, pos := "l2_mazes.go:289", after := #[{ on := 0, ground := Go.Ground.phase }, { on := 1, ground := Go.Ground.phase }, { on := 2, ground := Go.Ground.phase }, { on := 3, ground := Go.Ground.phase }, { on := 4, ground := Go.Ground.phase }, { on := 5, ground := Go.Ground.phase }, { on := 6, ground := Go.Ground.phase }, { on := 7, ground := Go.Ground.phase }, { on := 8, ground := Go.Ground.phase }, { on := 9, ground := Go.Ground.phase }, { on := 10, ground := Go.Ground.phase }, { on := 11, ground := Go.Ground.phase }, { on := 12, ground := Go.Ground.phase }, { on := 13, ground := Go.Ground.phase }, { on := 14, ground := Go.Ground.phase }], guard := none }) (v := ?fv15) rfl (by kernel_rfl) (by kernel_rfl) (by kernel_rfl) (by kernel_rfl) (fun _ _ _ h => h) (Or.inl ⟨by rfl, ?fh15⟩) hS ?fr15
            case fh15 => (intro wS hSw; (try dsimp only at hSw); go_split_ands; go_simp; try with_reducible rfl)
            try simp only [Act.put, List.setIfInBounds_toArray, List.set_cons_zero, List.set_cons_succ]
            obtain ⟨b0, b1, b2⟩ := bx6.cells
            obtain ⟨g0, g1, g2⟩ := bx6.free
            have hl6 := bx6.lt
            have hnn2 : (ds ++ [(M.doorOf (x1 + (sh : Int)) (x2 + (sh : Int)) nd)]).length = ds.length + 1 := by rw [List.length_append]; rfl
            have hlow := S5.out.low.size
            have hnew : JSt w r (some ⟨db, off, none⟩) (some ⟨rkb, rkoff, none⟩) rc rd g w2.heap.size sz (w6.setCell ⟨g, 1, none⟩ (.slice va2 (ds.length + 1) vc2)) va2 vc2 ka kc (ds ++ [(M.doorOf (x1 + (sh : Int)) (x2 + (sh : Int)) nd)]) (M.joinKs m r) :=
              ⟨by rw [hnn2, M.encDs_append, encDs_single]; exact own_setBox hown6 bx6 (by decide) 1 _,
               own_setBox ((S5.out.keys.alloc _).kept hgrow6 (own_ne_own2 S5.out.row S5.out.keys (by decide))) bx6 (by decide) 1 _,
               ((S5.out.box.alloc _).grown hgrow6 (own_ne_box S5.out.row S5.out.box (by decide))).other (by omega) 1 _,
               ((S5.out.res.alloc _).grown hgrow6 (own_ne_box S5.out.row S5.out.res (by decide))).other (by omega) 1 _,
               by rw [hnn2]; exact bx6.set1 _,
               ((S5.out.low.alloc (by omega) _).grown hgrow6 (by simp; omega) (fun q hq => by have := own_base S5.out.row q hq; omega)).setCell (p := ⟨g, 1, none⟩) (by show w.heap.size ≤ g; omega) _⟩
            have HNEW := Lib.hid hnew
            clear hnew bx6 nx6 hS hS5 hS6 hS7 hown6 hgrow6 hnil6 hq3
            refine wpAnyL_one (i := 16) (oi := { dst := none, op := Go.Op.store 24 (Go.Operand.tmp 71) (Go.Operand.tmp 70), type := 0, pos := "l2_mazes.go:289", after := #[{ on := 15, ground := Go.Ground.data }, { on := 14, ground := Go.Ground.data }, { on := 14, ground := Go.Ground.chain }, { on := 0, ground := Go.Ground.phase }, { on := 1, ground := Go.Ground.phase }, { on := 2, ground := Go.Ground.phase }, { on := 3, ground := Go.Ground.phase }, { on := 4, ground := Go.Ground.phase }, { on := 5, ground := Go.Ground.phase }, { on := 6, ground := Go.Ground.phase }, { on := 7, ground := Go.Ground.phase }, { on := 8, ground := Go.Ground.phase }, { on := 9, ground := Go.Ground.phase }, { on := 10, ground := Go.Ground.phase }, { on := 11, ground := Go.Ground.phase }, { on := 12, ground := Go.Ground.phase }, { on := 13, ground := Go.Ground.phase }, { on := 14, ground := Go.Ground.phase }], guard := none }) (by kernel_rfl) rfl (fun K4 hK4 => ?_)
            go_simp
            refine hK4 _ _ (fun h => absurd h (by decide)) ?_
            refine wpAnyL_done (by kernel_rfl) ?_ _
            all_goals
              go_wp2_with fail
              go_roundw
              case rel => exact ⟨k + 1, va2, vc2, by omega, by go_num, by rw [HSU.out]; exact HNEW.out⟩
              case measure => simp [intOf]; omega
          · obtain rfl : k = r.doors.length := by omega
            have hnlt3 : ¬ (r.doors.length : Int) < (r.doors.length : Int) := by omega
            obtain ⟨va', vc', hve, hv1, hv2, hv3⟩ := own_slice SR.out.row
            injection hve with hva _ hvc
            rw [← hvc] at hv1 hv2
            rw [← hva] at hv3
            obtain ⟨ka', kc', hke, hk1, hk2, hk3⟩ := own_slice SR.out.keys
            injection hke with hka _ hkc
            rw [← hkc] at hk1 hk2
            rw [← hka] at hk3
            have hkn := M.joinKs_len (a := m) HVB.out
            have hmo : MzOwn w2.heap.size wr.heap.size wr (M.joinOf m r) va vc ka kc := ⟨hv3, hk3, hv1, hv2, hk1, hk2⟩
            have e1 : (M.joinOf m r).doors.length = (M.joinDs m r r.doors.length).length := rfl
            have e2 : (M.joinOf m r).keys.length = (M.joinKs m r).length := rfl
            have IN := inOrder_any wr w2.heap.size wr.heap.size (M.joinOf m r) va ka vc kc hmo (Nat.le_refl _) (by rw [e1]; omega) (by rw [e2]; omega)
            rw [e1, e2, ← HSZ.out, ← HF.out, ← HV.out] at IN
            have INH := Lib.hid IN
            obtain ⟨b0, b1, b2⟩ := SR.out.out.cells
            clear IN hmo e1 e2 hva hvc hv3 hka hkc hk3 hkn
            go_wp2_with fail
            refine INH.out.mono ?_
            rintro e w8 ⟨oa, oc, ob, od, rfl, ho, hturn⟩
            have hz8' := hturn.size
            have Y8 := SR.out.res.turned hturn (.inl (by omega))
            have HO8 := Lib.hid ho
            have HT8 := Lib.hid hturn
            clear ho hturn b0 b1 b2
            obtain ⟨k0, k1, k2⟩ := Y8.cells
            obtain ⟨f0, f1, f2⟩ := Y8.free
            have hyl8 := Y8.lt
            obtain ⟨q0, q1, q2⟩ := (Y8.setAll (.int .i64 (M.joinV m r).size) (.slice oa (M.joinV m r).doors.length oc) (.slice ob (M.joinV m r).keys.length od)).cells
            clear Y8
            go_wp2_with fail
            refine bodyPost_ret (v := .tuple #[.agg #[.int .i64 (M.joinV m r).size, .slice oa (M.joinV m r).doors.length oc, .slice ob (M.joinV m r).keys.length od], .bool (M.joinB m r)]) (by simp [results, Try.results36, go_sem, q0, q1, q2]) rfl ?_
            exact mzYes_endAt (lo := w2.heap.size) (hi := w8.heap.size) (Below.thenTurned SR.out.low HT8.out (by omega) (by omega)) HO8.out (.inl (by omega)) (by omega) (by omega) (Nat.le_refl _) rfl rfl
end C
end Go.Proofs.Ytmccpjdgnenmeaa
