/-
  CONTRACT of spec.FreeColours; words for a maze that is built door by door. Condition: none but that the maze reads so.
-/
import Derived.Test.YtcaaookecgdbdaaDrop
import Derived.Test.YtcaaookecgdbdaaPutN
import Derived.Test.YtcaaookecgdbdaaLate
import Derived.Deep.RegionHeld3
import Derived.Deep.RegionLaw
namespace Go.Proofs.Ytcaaookecgdbdaa
open Go.RowKit
namespace M
def freeN (set s : Int) : Int := bits .andNot .i64 s set
def freeD (set : Int) (d : Dr) : Dr := (d.1, d.2.1, freeN set d.2.2)
noncomputable def freeTo (m : Mz) (set : Int) (k : Nat) : List Dr := putAll ltD [] ((m.doors.take k).map (freeD set))
def freeKs (m : Mz) (set : Int) (k : Nat) : List Int := (m.keys.take k).map (freeN set)
theorem freeKs_len {m : Mz} {set : Int} {k : Nat} (h : k ≤ m.keys.length) : (freeKs m set k).length = k := by unfold freeKs; rw [List.length_map, List.length_take]; omega
theorem freeKs_succ {m : Mz} {set : Int} {k : Nat} (hk : k < m.keys.length) : freeKs m set (k + 1) = freeKs m set k ++ [freeN set m.keys[k]] := by
  unfold freeKs
  rw [List.take_succ_eq_append_getElem hk, List.map_append, List.map_cons, List.map_nil]
noncomputable def freeOf (m : Mz) (set : Int) : Mz := ⟨m.size, freeTo m set m.doors.length, freeKs m set m.keys.length⟩
def freeB (m : Mz) (set : Int) : Bool := mazeB m && setB set
noncomputable def freeV (m : Mz) (set : Int) : Mz := if freeB m set then freeOf m set else C.mz0
theorem freeV_yes {m : Mz} {set : Int} (h : freeB m set = true) : freeV m set = freeOf m set := by unfold freeV; rw [if_pos h]
theorem freeV_no {m : Mz} {set : Int} (h : freeB m set = false) : freeV m set = C.mz0 := by unfold freeV; rw [h]; rfl
theorem freeTo_len (m : Mz) (set : Int) (k : Nat) : (freeTo m set k).length ≤ m.doors.length := by
  unfold freeTo
  have h1 := len_putAll_le (lt := ltD) [] ((m.doors.take k).map (freeD set))
  have h2 : ((m.doors.take k).map (freeD set)).length ≤ m.doors.length := by rw [List.length_map, List.length_take]; omega
  rw [List.length_nil] at h1
  omega
theorem freeTo_succ {m : Mz} {set : Int} {k : Nat} (hk : k < m.doors.length) : freeTo m set (k + 1) = put ltD (freeTo m set k) (freeD set m.doors[k]) := by
  unfold freeTo
  rw [List.take_succ_eq_append_getElem hk, List.map_append, List.map_cons, List.map_nil, putAll_snoc]
theorem freeV_len (m : Mz) (set : Int) : (freeV m set).doors.length ≤ 1048576 ∧ (freeV m set).keys.length ≤ 1048576 := by
  unfold freeV
  split
  · rename_i h
    unfold freeB at h
    rw [Bool.and_eq_true] at h
    have V := valid_of h.1
    have h1 := V.few
    have h2 := V.keysLen
    have h3 := V.size12
    have h4 := freeTo_len m set m.doors.length
    have h5 : (freeOf m set).keys.length = m.keys.length := freeKs_len (Nat.le_refl _)
    have h6 : (freeOf m set).doors = freeTo m set m.doors.length := rfl
    rw [h6, h5]
    omega
  · simp [C.mz0]
end M
namespace C
set_option maxHeartbeats 16000000
set_option maxRecDepth 20000
theorem cell_set_other (w : World) {b g : Nat} (h : b ≠ g) (o i : Nat) (u : Value) : (w.setCell ⟨g, i, none⟩ u).cell? ⟨b, o, none⟩ = w.cell? ⟨b, o, none⟩ := World.cell?_of_block (Below.heap_setCell w ⟨g, i, none⟩ u b h)
theorem OwnAt.kept {lo hi B : Nat} {w w' : World} {T U : TypeId} {size : Nat} {a : Option Addr} {xs ys : List Value} {v : Value} {n : Nat} (h : OwnAt lo hi w T a xs) (hv : w.ownsRow B U size v n ys) (hg : w.grownBy w' v.ownBlock) (hne : U ≠ T) : OwnAt lo hi w' T a xs := by
  rcases h with h | ⟨b, off, cur, ha, h1, h2, hh, hc⟩
  · exact .inl h
  · refine .inr ⟨b, off, cur, ha, h1, h2, (hg.block b (heap_lt hh) ?_).trans hh, hc⟩
    rcases hv.2 with ⟨rfl, _⟩ | ⟨g', cap, cur', rfl, _, hh', _⟩
    · simp [Value.ownBlock]
    · intro he
      have : g' = b := by simpa [Value.ownBlock] using he.symm
      subst this
      rw [hh] at hh'
      injection hh' with hh'
      injection hh' with _ ht
      exact hne ht.symm
theorem Box3.set2 {X : World} {g : Nat} {T : TypeId} {x y z : Value} (h : Box3 X g T x y z) (u : Value) : Box3 (X.setCell ⟨g, 2, none⟩ u) g T x y u := by
  unfold Box3 at h ⊢
  simp [World.setCell, Array.getElem?_modify, h]
/-- a maze that the call builds in a box of its own -/
structure LSt (w : World) (m : M.Mz) (a b : Option Addr) (c d : Nat) (g B : Nat) (wr : World) (ds : List M.Dr) (ks : List Int) : Prop where
  dm : ∃ pa pc ka kc, Box3 wr g 27 (.int .i64 m.size) (.slice pa ds.length pc) (.slice ka ks.length kc) ∧ OwnAt B wr.heap.size wr 61 pa (M.encDs ds) ∧ ds.length ≤ pc ∧ pc ≤ 9223372036854775807 ∧ wr.ownsRow B 3 1 (.slice ka ks.length kc) ks.length (M.encIs ks)
  box : Box3 wr w.heap.size 27 (.int .i64 m.size) (.slice a m.doors.length c) (.slice b m.keys.length d)
  res : Box3 wr (w.heap.size + 1) 27 (.int .i64 0) (.slice none 0 0) (.slice none 0 0)
  below : Below w.heap.size w wr
theorem specFree_lw (w : World) (lo hi : Nat) (m : M.Mz) (a b : Option Addr) (c d : Nat) (h : MzIn lo hi w m a c b d) (hz : hi ≤ w.heap.size) (_h1 : m.doors.length ≤ 1048576) (_h2 : m.keys.length ≤ 1048576) (set : Int) (_x1 : -9223372036854775808 ≤ set) (_x2 : set ≤ 9223372036854775807) :
    Calls Try.prog 39 #[.agg #[.int .i64 m.size, .slice a m.doors.length c, .slice b m.keys.length d], .int .i64 set] w (MzOkPost w (M.freeV m set) (M.freeB m set)) := by
  obtain ⟨i0, hi0, hz0, hz1, hz2⟩ := info_parts infoI
  have H := Lib.hid h
  clear h
  go_enter Try.func39, Try.ntmps39
  go_wp2_with fail
  refine named ?_
  intro W hW
  have hb : Below w.heap.size w W := by rw [hW]; exact (below_alloc _ _).alloc (by simp) _
  have x1 : Box3 W w.heap.size 27 (.int .i64 m.size) (.slice a m.doors.length c) (.slice b m.keys.length d) := by rw [hW]; exact (Box3.new _ _ _ _ rfl).alloc _
  have y1 : Box3 W (w.heap.size + 1) 27 (.int .i64 0) (.slice none 0 0) (.slice none 0 0) := by rw [hW]; exact Box3.new _ _ _ _ (by simp)
  clear hW
  have hzw := hb.size
  refine (specMaze_any W lo hi m a b c d (H.out.below hb hz) (by omega)).mono ?_
  rintro e w1 ⟨rfl, hb1⟩
  have X1 := Lib.hid (x1.below hb1)
  have Y1 := Lib.hid (y1.below hb1)
  have hbl := Y1.out.lt
  have hbl0 := X1.out.lt
  have HB1 := Lib.hid (hb.trans (hb1.mono hzw))
  have hz1w := hb1.size
  clear hb hb1 x1 y1
  obtain ⟨c0, c1, c2⟩ := X1.out.cells
  obtain ⟨k0, k1, k2⟩ := Y1.out.cells
  obtain ⟨f0, f1, f2⟩ := Y1.out.free
  cases q0 : M.mazeB m with
  | false =>
    have HF : Hid (M.freeB m set = false) := Lib.hid (by unfold M.freeB; rw [q0]; rfl)
    have HV := Lib.hid (M.freeV_no HF.out)
    clear q0
    go_wp2_with fail
    refine bodyPost_ret (v := .tuple #[.agg #[.int .i64 0, .slice none 0 0, .slice none 0 0], .bool false]) (by simp [results, Try.results39, go_sem, k0, k1, k2]) rfl ?_
    rw [HF.out, HV.out]
    exact mzNo_end HB1.out
  | true =>
    have HM := Lib.hid q0
    have HVA := Lib.hid (M.valid_of q0)
    have hdl := HVA.out.few
    have hkl := HVA.out.keysLen
    have hs12 := HVA.out.size12
    clear q0
    go_wp2_with fail
    refine (l2Set_any _ _).mono ?_
    rintro e w2 ⟨rfl, rfl⟩
    cases q1 : M.setB set with
    | false =>
      have HF : Hid (M.freeB m set = false) := Lib.hid (by unfold M.freeB; rw [q1, Bool.and_false])
      have HV := Lib.hid (M.freeV_no HF.out)
      clear q1
      go_wp2_with fail
      refine bodyPost_ret (v := .tuple #[.agg #[.int .i64 0, .slice none 0 0, .slice none 0 0], .bool false]) (by simp [results, Try.results39, go_sem, k0, k1, k2]) rfl ?_
      rw [HF.out, HV.out]
      exact mzNo_end HB1.out
    | true =>
      have HF : Hid (M.freeB m set = true) := Lib.hid (by unfold M.freeB; rw [q1, HM.out]; rfl)
      have HV := Lib.hid (M.freeV_yes HF.out)
      clear q1
      go_wp2_with fail
      refine wp_named ?_
      intro W3 hW3
      have hb3 : Below w1.heap.size w1 W3 := by rw [hW3]; exact ((below_alloc _ _).alloc (by simp) _).alloc (by simp; omega) _
      have st3 : LSt w m a b c d (w1.heap.size + 1 + 1) w1.heap.size W3 [] [] := by
        refine ⟨⟨some ⟨w1.heap.size, 0, none⟩, 0, some ⟨w1.heap.size + 1, 0, none⟩, 0, ?_, OwnAt.nil _ _ _ _ _, by simp, by omega, ?_⟩, X1.out.below hb3, Y1.out.below hb3, HB1.out.trans (hb3.mono (by omega))⟩
        · rw [hW3]; exact Box3.new _ _ _ _ (by simp)
        · have o1 := ownsRow_empty (w1.alloc (.cells #[] 61)) w1.heap.size 3 1 (by simp)
          rw [hW3]
          refine World.ownsRow.alloc ?_ _
          simpa [M.encIs] using o1
      have ST3 := Lib.hid st3
      have hz3 := hb3.size
      clear hW3 hb3 st3 c0 c1 c2 k0 k1 k2 f0 f1 f2
      go_loopw [7] (fun i wr => ∃ (k : Nat), k ≤ m.doors.length ∧ i = .int .i64 k ∧ LSt w m a b c d (w1.heap.size + 1 + 1) w1.heap.size wr (M.freeTo m set k) []) (fun i _ => m.doors.length - (intOf i).toNat)
      case atStart => exact ⟨0, Nat.zero_le _, rfl, ST3.out⟩
      case round =>
        obtain ⟨k, hk, rfl, hst⟩ := hrel
        have ST := Lib.hid hst
        have hlen := M.freeTo_len m set k
        obtain ⟨pa, pc, ka, kc, hbx, hpd, hp1, hp2, hko⟩ := hst.dm
        have BX := Lib.hid hbx
        have PD := Lib.hid hpd
        have KO := Lib.hid hko
        have hzr := hst.below.size
        have hxl := hst.box.lt
        have hgl := hbx.lt
        obtain ⟨d0, d1, d2⟩ := hst.box.cells
        have hrow := H.out.doors.below hst.below hz
        clear hst hbx hpd hko
        by_cases hlt : k < m.doors.length
        · obtain ⟨db, off, hda, _, hdb, hc0⟩ := hrow.at_ (k := k * 3) (by rw [M.encDs_len]; omega)
          subst hda
          have hdbw : db < w.heap.size := by omega
          have p0 := hc0 _ _ (M.encDs_at0 hlt)
          have p1 : wr.cell? ⟨db, off + k * 3 + 1, none⟩ = some (.int .i64 m.doors[k].2.1) := hc0 _ _ (M.encDs_at1 hlt)
          have p2 : wr.cell? ⟨db, off + k * 3 + 2, none⟩ = some (.int .i64 m.doors[k].2.2) := hc0 _ _ (M.encDs_at2 hlt)
          obtain ⟨q1, q2, q3, q4, q5, q6, q7⟩ := HVA.out.door k hlt
          have hmin : ((min m.doors[k].1 m.doors[k].2.1, max m.doors[k].1 m.doors[k].2.1, M.freeN set m.doors[k].2.2) : M.Dr) = M.freeD set m.doors[k] := by
            unfold M.freeD
            rw [show min m.doors[k].1 m.doors[k].2.1 = m.doors[k].1 by omega, show max m.doors[k].1 m.doors[k].2.1 = m.doors[k].2.1 by omega]
          have hltI : (k : Int) < (m.doors.length : Int) := by omega
          have PA := Lib.hid (fun W' (hq : Below wr.heap.size wr W') => put_any W' w1.heap.size wr.heap.size pa pc (M.freeTo m set k) m.doors[k].1 m.doors[k].2.1 (M.freeN set m.doors[k].2.2) (PD.out.below hq (Nat.le_refl _)) hq.size (by have := hq.size; have := BX.out.lt; omega) (by omega) hp1 hp2)
          have HMIN := Lib.hid hmin
          have P0 := Lib.hid p0
          have P1 := Lib.hid p1
          have P2 := Lib.hid p2
          have hgne : w.heap.size ≠ w1.heap.size + 1 + 1 := by omega
          have hrne : w.heap.size + 1 ≠ w1.heap.size + 1 + 1 := by omega
          have hdne : db ≠ w1.heap.size + 1 + 1 := by omega
          obtain ⟨b0, b1, b2⟩ := BX.out.cells
          clear hrow hc0 hmin
          go_wp2_with fail
          have hfree : bits .andNot .i64 m.doors[k].2.2 set = M.freeN set m.doors[k].2.2 := rfl
          refine wp_region_late2 (fun wq => wq.cell? ⟨w.heap.size, 1, none⟩ = some (.slice (some ⟨db, off, none⟩) m.doors.length c) ∧ wq.cell? ⟨w1.heap.size + 1 + 1, 1, none⟩ = some (.slice pa (M.freeTo m set k).length pc) ∧ wq.cell? ⟨db, off + k * 3, none⟩ = some (.int .i64 m.doors[k].1) ∧ wq.cell? ⟨db, off + k * 3 + 1, none⟩ = some (.int .i64 m.doors[k].2.1) ∧ wq.cell? ⟨db, off + k * 3 + 2, none⟩ = some (.int .i64 m.doors[k].2.2)) [24] 25 #[false, false, false, false, false, false, false, false, false, false, false, false, false, false, false, false, false, false, false, false, false, false, false, false, false] rfl rfl (by kernel_rfl) ?_
          have hS : (fun wq => wq.cell? ⟨w.heap.size, 1, none⟩ = some (.slice (some ⟨db, off, none⟩) m.doors.length c) ∧ wq.cell? ⟨w1.heap.size + 1 + 1, 1, none⟩ = some (.slice pa (M.freeTo m set k).length pc) ∧ wq.cell? ⟨db, off + k * 3, none⟩ = some (.int .i64 m.doors[k].1) ∧ wq.cell? ⟨db, off + k * 3 + 1, none⟩ = some (.int .i64 m.doors[k].2.1) ∧ wq.cell? ⟨db, off + k * 3 + 2, none⟩ = some (.int .i64 m.doors[k].2.2)) wr.drew := ⟨d1, b1, p0, p1, p2⟩
          refine wpAnyL_take (i := 0) (oi := { dst := some 30, op := Go.Op.fieldAddr 27 (Go.Operand.tmp 6) 1, type := 0, pos := "l2_mazes.go:290", after := #[], guard := none }) (v := ?av0) rfl (by kernel_rfl) (by kernel_rfl) (by kernel_rfl) (by kernel_rfl) (fun _ _ _ h => h) (Or.inl ⟨by rfl, ?ah0⟩) hS ?ar0
          case ah0 => (intro wS hSw; (try dsimp only at hSw); go_split_ands; go_simp; try with_reducible rfl)
          try simp only [Act.put, List.setIfInBounds_toArray, List.set_cons_zero, List.set_cons_succ]
          refine wpAnyL_take (i := 1) (oi := { dst := some 31, op := Go.Op.load 24 (Go.Operand.tmp 30), type := 24, pos := "l2_mazes.go:290", after := #[{ on := 0, ground := Go.Ground.data }], guard := none }) (v := ?av1) rfl (by kernel_rfl) (by kernel_rfl) (by kernel_rfl) (by kernel_rfl) (fun _ _ _ h => h) (Or.inl ⟨by rfl, ?ah1⟩) hS ?ar1
          case ah1 => (intro wS hSw; (try dsimp only at hSw); go_split_ands; go_simp; try with_reducible rfl)
          try simp only [Act.put, List.setIfInBounds_toArray, List.set_cons_zero, List.set_cons_succ]
          refine wpAnyL_take (i := 2) (oi := { dst := some 32, op := Go.Op.fieldAddr 27 (Go.Operand.tmp 2) 1, type := 0, pos := "l2_mazes.go:290", after := #[], guard := none }) (v := ?av2) rfl (by kernel_rfl) (by kernel_rfl) (by kernel_rfl) (by kernel_rfl) (fun _ _ _ h => h) (Or.inl ⟨by rfl, ?ah2⟩) hS ?ar2
          case ah2 => (intro wS hSw; (try dsimp only at hSw); go_split_ands; go_simp; try with_reducible rfl)
          try simp only [Act.put, List.setIfInBounds_toArray, List.set_cons_zero, List.set_cons_succ]
          refine wpAnyL_take (i := 3) (oi := { dst := some 33, op := Go.Op.load 24 (Go.Operand.tmp 32), type := 24, pos := "l2_mazes.go:290", after := #[{ on := 2, ground := Go.Ground.data }], guard := none }) (v := ?av3) rfl (by kernel_rfl) (by kernel_rfl) (by kernel_rfl) (by kernel_rfl) (fun _ _ _ h => h) (Or.inl ⟨by rfl, ?ah3⟩) hS ?ar3
          case ah3 => (intro wS hSw; (try dsimp only at hSw); go_split_ands; go_simp; try with_reducible rfl)
          try simp only [Act.put, List.setIfInBounds_toArray, List.set_cons_zero, List.set_cons_succ]
          refine wpAnyL_take (i := 4) (oi := { dst := some 34, op := Go.Op.move (Go.Operand.tmp 7), type := 3, pos := "l2_mazes.go:290", after := #[], guard := none }) (v := ?av4) rfl (by kernel_rfl) (by kernel_rfl) (by kernel_rfl) (by kernel_rfl) (fun _ _ _ h => h) (Or.inl ⟨by rfl, ?ah4⟩) hS ?ar4
          case ah4 => (intro wS hSw; (try dsimp only at hSw); go_split_ands; go_simp; try with_reducible rfl)
          try simp only [Act.put, List.setIfInBounds_toArray, List.set_cons_zero, List.set_cons_succ]
          refine wpAnyL_take (i := 5) (oi := { dst := some 35, op := Go.Op.indexAddr 24 (Go.Operand.tmp 33) (Go.Operand.tmp 34), type := 0, pos := "l2_mazes.go:290", after := #[{ on := 3, ground := Go.Ground.data }, { on := 4, ground := Go.Ground.data }], guard := none }) (v := ?av5) rfl (by kernel_rfl) (by kernel_rfl) (by kernel_rfl) (by kernel_rfl) (fun _ _ _ h => h) (Or.inl ⟨by rfl, ?ah5⟩) hS ?ar5
          case ah5 => (intro wS hSw; (try dsimp only at hSw); go_split_ands; go_simp; try with_reducible rfl)
          try simp only [Act.put, List.setIfInBounds_toArray, List.set_cons_zero, List.set_cons_succ]
          refine wpAnyL_take (i := 6) (oi := { dst := some 36, op := Go.Op.indexAddr 61 (Go.Operand.tmp 35) (Go.Operand.const (Go.Value.int Go.IntKind.i64 0)), type := 0, pos := "l2_mazes.go:290", after := #[{ on := 5, ground := Go.Ground.data }], guard := none }) (v := ?av6) rfl (by kernel_rfl) (by kernel_rfl) (by kernel_rfl) (by kernel_rfl) (fun _ _ _ h => h) (Or.inl ⟨by rfl, ?ah6⟩) hS ?ar6
          case ah6 => (intro wS hSw; (try dsimp only at hSw); go_split_ands; go_simp; try with_reducible rfl)
          try simp only [Act.put, List.setIfInBounds_toArray, List.set_cons_zero, List.set_cons_succ]
          refine wpAnyL_take (i := 7) (oi := { dst := some 37, op := Go.Op.load 3 (Go.Operand.tmp 36), type := 3, pos := "l2_mazes.go:290", after := #[{ on := 6, ground := Go.Ground.data }], guard := none }) (v := ?av7) rfl (by kernel_rfl) (by kernel_rfl) (by kernel_rfl) (by kernel_rfl) (fun _ _ _ h => h) (Or.inl ⟨by rfl, ?ah7⟩) hS ?ar7
          case ah7 => (intro wS hSw; (try dsimp only at hSw); go_split_ands; go_simp; try with_reducible rfl)
          try simp only [Act.put, List.setIfInBounds_toArray, List.set_cons_zero, List.set_cons_succ]
          refine wpAnyL_take (i := 8) (oi := { dst := some 38, op := Go.Op.fieldAddr 27 (Go.Operand.tmp 2) 1, type := 0, pos := "l2_mazes.go:290", after := #[], guard := none }) (v := ?av8) rfl (by kernel_rfl) (by kernel_rfl) (by kernel_rfl) (by kernel_rfl) (fun _ _ _ h => h) (Or.inl ⟨by rfl, ?ah8⟩) hS ?ar8
          case ah8 => (intro wS hSw; (try dsimp only at hSw); go_split_ands; go_simp; try with_reducible rfl)
          try simp only [Act.put, List.setIfInBounds_toArray, List.set_cons_zero, List.set_cons_succ]
          refine wpAnyL_take (i := 9) (oi := { dst := some 39, op := Go.Op.load 24 (Go.Operand.tmp 38), type := 24, pos := "l2_mazes.go:290", after := #[{ on := 8, ground := Go.Ground.data }], guard := none }) (v := ?av9) rfl (by kernel_rfl) (by kernel_rfl) (by kernel_rfl) (by kernel_rfl) (fun _ _ _ h => h) (Or.inl ⟨by rfl, ?ah9⟩) hS ?ar9
          case ah9 => (intro wS hSw; (try dsimp only at hSw); go_split_ands; go_simp; try with_reducible rfl)
          try simp only [Act.put, List.setIfInBounds_toArray, List.set_cons_zero, List.set_cons_succ]
          refine wpAnyL_take (i := 10) (oi := { dst := some 40, op := Go.Op.move (Go.Operand.tmp 7), type := 3, pos := "l2_mazes.go:290", after := #[], guard := none }) (v := ?av10) rfl (by kernel_rfl) (by kernel_rfl) (by kernel_rfl) (by kernel_rfl) (fun _ _ _ h => h) (Or.inl ⟨by rfl, ?ah10⟩) hS ?ar10
          case ah10 => (intro wS hSw; (try dsimp only at hSw); go_split_ands; go_simp; try with_reducible rfl)
          try simp only [Act.put, List.setIfInBounds_toArray, List.set_cons_zero, List.set_cons_succ]
          refine wpAnyL_take (i := 11) (oi := { dst := some 41, op := Go.Op.indexAddr 24 (Go.Operand.tmp 39) (Go.Operand.tmp 40), type := 0, pos := "l2_mazes.go:290", after := #[{ on := 9, ground := Go.Ground.data }, { on := 10, ground := Go.Ground.data }], guard := none }) (v := ?av11) rfl (by kernel_rfl) (by kernel_rfl) (by kernel_rfl) (by kernel_rfl) (fun _ _ _ h => h) (Or.inl ⟨by rfl, ?ah11⟩) hS ?ar11
          case ah11 => (intro wS hSw; (try dsimp only at hSw); go_split_ands; go_simp; try with_reducible rfl)
          try simp only [Act.put, List.setIfInBounds_toArray, List.set_cons_zero, List.set_cons_succ]
          refine wpAnyL_take (i := 12) (oi := { dst := some 42, op := Go.Op.indexAddr 61 (Go.Operand.tmp 41) (Go.Operand.const (Go.Value.int Go.IntKind.i64 1)), type := 0, pos := "l2_mazes.go:290", after := #[{ on := 11, ground := Go.Ground.data }], guard := none }) (v := ?av12) rfl (by kernel_rfl) (by kernel_rfl) (by kernel_rfl) (by kernel_rfl) (fun _ _ _ h => h) (Or.inl ⟨by rfl, ?ah12⟩) hS ?ar12
          case ah12 => (intro wS hSw; (try dsimp only at hSw); go_split_ands; go_simp; try with_reducible rfl)
          try simp only [Act.put, List.setIfInBounds_toArray, List.set_cons_zero, List.set_cons_succ]
          refine wpAnyL_take (i := 13) (oi := { dst := some 43, op := Go.Op.load 3 (Go.Operand.tmp 42), type := 3, pos := "l2_mazes.go:290", after := #[{ on := 12, ground := Go.Ground.data }], guard := none }) (v := ?av13) rfl (by kernel_rfl) (by kernel_rfl) (by kernel_rfl) (by kernel_rfl) (fun _ _ _ h => h) (Or.inl ⟨by rfl, ?ah13⟩) hS ?ar13
          case ah13 => (intro wS hSw; (try dsimp only at hSw); go_split_ands; go_simp; try with_reducible rfl)
          try simp only [Act.put, List.setIfInBounds_toArray, List.set_cons_zero, List.set_cons_succ]
          refine wpAnyL_take (i := 14) (oi := { dst := some 44, op := Go.Op.fieldAddr 27 (Go.Operand.tmp 2) 1, type := 0, pos := "l2_mazes.go:290", after := #[], guard := none }) (v := ?av14) rfl (by kernel_rfl) (by kernel_rfl) (by kernel_rfl) (by kernel_rfl) (fun _ _ _ h => h) (Or.inl ⟨by rfl, ?ah14⟩) hS ?ar14
          case ah14 => (intro wS hSw; (try dsimp only at hSw); go_split_ands; go_simp; try with_reducible rfl)
          try simp only [Act.put, List.setIfInBounds_toArray, List.set_cons_zero, List.set_cons_succ]
          refine wpAnyL_take (i := 15) (oi := { dst := some 45, op := Go.Op.load 24 (Go.Operand.tmp 44), type := 24, pos := "l2_mazes.go:290", after := #[{ on := 14, ground := Go.Ground.data }], guard := none }) (v := ?av15) rfl (by kernel_rfl) (by kernel_rfl) (by kernel_rfl) (by kernel_rfl) (fun _ _ _ h => h) (Or.inl ⟨by rfl, ?ah15⟩) hS ?ar15
          case ah15 => (intro wS hSw; (try dsimp only at hSw); go_split_ands; go_simp; try with_reducible rfl)
          try simp only [Act.put, List.setIfInBounds_toArray, List.set_cons_zero, List.set_cons_succ]
          refine wpAnyL_take (i := 16) (oi := { dst := some 46, op := Go.Op.move (Go.Operand.tmp 7), type := 3, pos := "l2_mazes.go:290", after := #[], guard := none }) (v := ?av16) rfl (by kernel_rfl) (by kernel_rfl) (by kernel_rfl) (by kernel_rfl) (fun _ _ _ h => h) (Or.inl ⟨by rfl, ?ah16⟩) hS ?ar16
          case ah16 => (intro wS hSw; (try dsimp only at hSw); go_split_ands; go_simp; try with_reducible rfl)
          try simp only [Act.put, List.setIfInBounds_toArray, List.set_cons_zero, List.set_cons_succ]
          refine wpAnyL_take (i := 17) (oi := { dst := some 47, op := Go.Op.indexAddr 24 (Go.Operand.tmp 45) (Go.Operand.tmp 46), type := 0, pos := "l2_mazes.go:290", after := #[{ on := 15, ground := Go.Ground.data }, { on := 16, ground := Go.Ground.data }], guard := none }) (v := ?av17) rfl (by kernel_rfl) (by kernel_rfl) (by kernel_rfl) (by kernel_rfl) (fun _ _ _ h => h) (Or.inl ⟨by rfl, ?ah17⟩) hS ?ar17
          case ah17 => (intro wS hSw; (try dsimp only at hSw); go_split_ands; go_simp; try with_reducible rfl)
          try simp only [Act.put, List.setIfInBounds_toArray, List.set_cons_zero, List.set_cons_succ]
          refine wpAnyL_take (i := 18) (oi := { dst := some 48, op := Go.Op.indexAddr 61 (Go.Operand.tmp 47) (Go.Operand.const (Go.Value.int Go.IntKind.i64 2)), type := 0, pos := "l2_mazes.go:290", after := #[{ on := 17, ground := Go.Ground.data }], guard := none }) (v := ?av18) rfl (by kernel_rfl) (by kernel_rfl) (by kernel_rfl) (by kernel_rfl) (fun _ _ _ h => h) (Or.inl ⟨by rfl, ?ah18⟩) hS ?ar18
          case ah18 => (intro wS hSw; (try dsimp only at hSw); go_split_ands; go_simp; try with_reducible rfl)
          try simp only [Act.put, List.setIfInBounds_toArray, List.set_cons_zero, List.set_cons_succ]
          refine wpAnyL_take (i := 19) (oi := { dst := some 49, op := Go.Op.load 3 (Go.Operand.tmp 48), type := 3, pos := "l2_mazes.go:290", after := #[{ on := 18, ground := Go.Ground.data }], guard := none }) (v := ?av19) rfl (by kernel_rfl) (by kernel_rfl) (by kernel_rfl) (by kernel_rfl) (fun _ _ _ h => h) (Or.inl ⟨by rfl, ?ah19⟩) hS ?ar19
          case ah19 => (intro wS hSw; (try dsimp only at hSw); go_split_ands; go_simp; try with_reducible rfl)
          try simp only [Act.put, List.setIfInBounds_toArray, List.set_cons_zero, List.set_cons_succ]
          refine wpAnyL_take (i := 20) (oi := { dst := some 50, op := Go.Op.move (Go.Operand.tmp 1), type := 3, pos := "l2_mazes.go:290", after := #[], guard := none }) (v := ?av20) rfl (by kernel_rfl) (by kernel_rfl) (by kernel_rfl) (by kernel_rfl) (fun _ _ _ h => h) (Or.inl ⟨by rfl, ?ah20⟩) hS ?ar20
          case ah20 => (intro wS hSw; (try dsimp only at hSw); go_split_ands; go_simp; try with_reducible rfl)
          try simp only [Act.put, List.setIfInBounds_toArray, List.set_cons_zero, List.set_cons_succ]
          refine wpAnyL_take (i := 21) (oi := { dst := some 51, op := Go.Op.binOp Go.BinOp.andNot 3 (Go.Operand.tmp 49) (Go.Operand.tmp 50) 3, type := 3, pos := "l2_mazes.go:290", after := #[{ on := 19, ground := Go.Ground.data }, { on := 20, ground := Go.Ground.data }], guard := none }) (v := ?av21) rfl (by kernel_rfl) (by kernel_rfl) (by kernel_rfl) (by kernel_rfl) (fun _ _ _ h => h) (Or.inl ⟨by rfl, ?ah21⟩) hS ?ar21
          case ah21 => (intro wS hSw; (try dsimp only at hSw); go_split_ands; go_simp; try with_reducible rfl)
          try simp only [Act.put, List.setIfInBounds_toArray, List.set_cons_zero, List.set_cons_succ]
          refine wpAnyL_one (i := 22) (oi := { dst := some 52, op := Go.Op.call { callee := Go.Callee.value (Go.Operand.func 82), args := #[Go.Operand.tmp 31, Go.Operand.tmp 37, Go.Operand.tmp 43, Go.Operand.tmp 51], argTypes := #[24, 3, 3, 3] }, type := 24, pos := "l2_mazes.go:290", after := #[{ on := 1, ground := Go.Ground.data }, { on := 7, ground := Go.Ground.data }, { on := 13, ground := Go.Ground.data }, { on := 21, ground := Go.Ground.data }], guard := none }) (by kernel_rfl) rfl (fun K1 hK1 => ?_)
          refine step_call (by rfl) 82 #[.slice pa (M.freeTo m set k).length pc, .int .i64 m.doors[k].1, .int .i64 m.doors[k].2.1, .int .i64 (M.freeN set m.doors[k].2.2)] (by go_simp; try rfl) (PA.out wr.drew (Below.refl wr.heap.size wr).drew) ?_
          rintro e w5 ⟨pa2, pc2, rfl, hpp, hpp1, hpp2, hb5⟩
          refine ⟨_, rfl, ?_⟩
          have hb5' : Below wr.heap.size wr w5 := (Below.refl wr.heap.size wr).drew.trans hb5
          have bx5 := BX.out.below hb5'
          have mx5 := ST.out.box.below hb5'
          have hS5 : (fun wq => wq.cell? ⟨w.heap.size, 1, none⟩ = some (.slice (some ⟨db, off, none⟩) m.doors.length c) ∧ wq.cell? ⟨w1.heap.size + 1 + 1, 1, none⟩ = some (.slice pa (M.freeTo m set k).length pc) ∧ wq.cell? ⟨db, off + k * 3, none⟩ = some (.int .i64 m.doors[k].1) ∧ wq.cell? ⟨db, off + k * 3 + 1, none⟩ = some (.int .i64 m.doors[k].2.1) ∧ wq.cell? ⟨db, off + k * 3 + 2, none⟩ = some (.int .i64 m.doors[k].2.2)) w5 := ⟨mx5.cells.2.1, bx5.cells.2.1, (hb5'.cell (p := ⟨db, off + k * 3, none⟩) (show db < _ by omega)).trans P0.out, (hb5'.cell (p := ⟨db, off + k * 3 + 1, none⟩) (show db < _ by omega)).trans P1.out, (hb5'.cell (p := ⟨db, off + k * 3 + 2, none⟩) (show db < _ by omega)).trans P2.out⟩
          refine hK1 _ _ (fun _ => hS5) ?_
          clear hS
          have hS := hS5
          try simp only [Act.put, List.setIfInBounds_toArray, List.set_cons_zero, List.set_cons_succ]
          refine wpAnyL_take (i := 23) (oi := { dst := some 53, op := Go.Op.fieldAddr 27 (Go.Operand.tmp 6) 1, type := 0, pos := "l2_mazes.go:290", after := #[{ on := 0, ground := Go.Ground.phase }, { on := 1, ground := Go.Ground.phase }, { on := 2, ground := Go.Ground.phase }, { on := 3, ground := Go.Ground.phase }, { on := 4, ground := Go.Ground.phase }, { on := 5, ground := Go.Ground.phase }, { on := 6, ground := Go.Ground.phase }, { on := 7, ground := Go.Ground.phase }, { on := 8, ground := Go.Ground.phase }, { on := 9, ground := Go.Ground.phase }, { on := 10, ground := Go.Ground.phase }, { on := 11, ground := Go.Ground.phase }, { on := 12, ground := Go.Ground.phase }, { on := 13, ground := Go.Ground.phase }, { on := 14, ground := Go.Ground.phase }, { on := 15, ground := Go.Ground.phase }, { on := 16, ground := Go.Ground.phase }, { on := 17, ground := Go.Ground.phase }, { on := 18, ground := Go.Ground.phase }, { on := 19, ground := Go.Ground.phase }, { on := 20, ground := Go.Ground.phase }, { on := 21, ground := Go.Ground.phase }, { on := 22, ground := Go.Ground.phase }], guard := none }) (v := ?bv23) rfl (by kernel_rfl) (by kernel_rfl) (by kernel_rfl) (by kernel_rfl) (fun _ _ _ h => h) (Or.inl ⟨by rfl, ?bh23⟩) hS ?br23
          case bh23 => (intro wS hSw; (try dsimp only at hSw); go_split_ands; go_simp; try with_reducible rfl)
          try simp only [Act.put, List.setIfInBounds_toArray, List.set_cons_zero, List.set_cons_succ]
          obtain ⟨b0, b1, b2⟩ := bx5.cells
          obtain ⟨g0, g1, g2⟩ := bx5.free
          have hl5 := bx5.lt
          refine wpAnyL_one (i := 24) (oi := { dst := none, op := Go.Op.store 24 (Go.Operand.tmp 53) (Go.Operand.tmp 52), type := 0, pos := "l2_mazes.go:290", after := #[{ on := 23, ground := Go.Ground.data }, { on := 22, ground := Go.Ground.data }, { on := 22, ground := Go.Ground.chain }, { on := 0, ground := Go.Ground.phase }, { on := 1, ground := Go.Ground.phase }, { on := 2, ground := Go.Ground.phase }, { on := 3, ground := Go.Ground.phase }, { on := 4, ground := Go.Ground.phase }, { on := 5, ground := Go.Ground.phase }, { on := 6, ground := Go.Ground.phase }, { on := 7, ground := Go.Ground.phase }, { on := 8, ground := Go.Ground.phase }, { on := 9, ground := Go.Ground.phase }, { on := 10, ground := Go.Ground.phase }, { on := 11, ground := Go.Ground.phase }, { on := 12, ground := Go.Ground.phase }, { on := 13, ground := Go.Ground.phase }, { on := 14, ground := Go.Ground.phase }, { on := 15, ground := Go.Ground.phase }, { on := 16, ground := Go.Ground.phase }, { on := 17, ground := Go.Ground.phase }, { on := 18, ground := Go.Ground.phase }, { on := 19, ground := Go.Ground.phase }, { on := 20, ground := Go.Ground.phase }, { on := 21, ground := Go.Ground.phase }, { on := 22, ground := Go.Ground.phase }], guard := none }) (by kernel_rfl) rfl (fun K2 hK2 => ?_)
          go_simp
          refine hK2 _ _ (fun h => absurd h (by decide)) ?_
          refine wpAnyL_done (by kernel_rfl) ?_ _
          all_goals
            go_wp2_with fail
            go_roundw
            case rel =>
              refine ⟨k + 1, by omega, by go_num, ?_⟩
              have hs5 := hb5'.size
              rw [M.freeTo_succ hlt]
              rw [HMIN.out] at hpp hpp1 ⊢
              exact ⟨⟨pa2, pc2, ka, kc, bx5.set1 _, (hpp.boxed bx5 (by decide) 1 _).mono (Nat.le_refl _) (by simp [World.setCell]), hpp1, hpp2, own_setBox (own_below KO.out hb5') bx5 (by decide) 1 _⟩, mx5.other hgne 1 _, (ST.out.res.below hb5').other hrne 1 _, (ST.out.below.trans (hb5'.mono ST.out.below.size)).setCell (p := ⟨w1.heap.size + 1 + 1, 1, none⟩) (by show w.heap.size ≤ w1.heap.size + 1 + 1; omega) _⟩
            case measure => simp [intOf]; omega
        · obtain rfl : k = m.doors.length := by omega
          go_wp2_with fail
          go_loopw [8] (fun i wr => ∃ (k : Nat), k ≤ m.keys.length ∧ i = .int .i64 k ∧ LSt w m a b c d (w1.heap.size + 1 + 1) w1.heap.size wr (M.freeTo m set m.doors.length) (M.freeKs m set k)) (fun i _ => m.keys.length - (intOf i).toNat)
          case atStart => exact ⟨0, Nat.zero_le _, rfl, ST.out⟩
          case round =>
            obtain ⟨k, hk, rfl, hst⟩ := hrel
            have ST2 := Lib.hid hst
            have hkn := M.freeKs_len (set := set) hk
            obtain ⟨pa, pc, ka, kc, hbx, hpd, hp1, hp2, hko⟩ := hst.dm
            rw [hkn] at hbx hko
            clear hkn
            have BX := Lib.hid hbx
            have PD := Lib.hid hpd
            have KO := Lib.hid hko
            have hzr := hst.below.size
            have hxl := hst.box.lt
            have hgl := hbx.lt
            obtain ⟨d0, d1, d2⟩ := hst.box.cells
            have hrow := H.out.keys.below hst.below hz
            clear hst hbx hpd hko
            by_cases hlt : k < m.keys.length
            · obtain ⟨kb, koff, hkb, _, hkb2, hc0⟩ := hrow.at_ (k := k) (by rw [M.encIs_len]; exact hlt)
              subst hkb
              have p0 := hc0 _ _ (M.encIs_at hlt)
              have P0 := Lib.hid p0
              have hlts : (k : Int) < m.size := by omega
              have hgne : w.heap.size ≠ w1.heap.size + 1 + 1 := by omega
              have hrne : w.heap.size + 1 ≠ w1.heap.size + 1 + 1 := by omega
              have hdne : kb ≠ w1.heap.size + 1 + 1 := by omega
              have hkbw : kb < wr.heap.size := by omega
              have hdrew : wr.drew.heap.size = wr.heap.size := rfl
              obtain ⟨b0, b1, b2⟩ := BX.out.cells
              clear hrow hc0
              go_wp2_with fail
              go_region_law (first | (refine step_append_own rfl (.tmp 61) (.tmp 69) 25 rfl w1.heap.size 3 i0 (.int .i64 0) 1 8 Try.underlying25 hi0 hz0 hz1 hz2 rfl (by decide) _ _ _ (World.ownsRow.alloc (w := wr.drew) KO.out (.cells #[.int .i64 (M.freeN set m.keys[k])] 3)) (by simp [Act.eval]) ⟨wr.heap.size, 0, none⟩ 1 1 [.int .i64 (M.freeN set m.keys[k])] (by simp [Act.eval]) rfl (cell_one_new wr.drew _ _) (fun x hx => by simp at hx; subst hx; rfl) (by unfold maxLen; omega) (by omega) (by simp; omega) ?_; intro v7 w7 hown7 hgrow7 hnil7; obtain ⟨ka2, kc2, hv7, hw1, hw2, _⟩ := own_slice hown7; subst hv7; have hb7 : Below w1.heap.size wr w7 := (((Below.refl w1.heap.size wr).drew).alloc (by omega) _).grown hgrow7 (by simp; omega) (own_base KO.out); have bx7 := (Box3.alloc (w := wr.drew) BX.out (.cells #[.int .i64 (M.freeN set m.keys[k])] 3)).grown hgrow7 (own_ne_box KO.out BX.out (by decide)); have mx7 := (Box3.alloc (w := wr.drew) ST2.out.box (.cells #[.int .i64 (M.freeN set m.keys[k])] 3)).grown hgrow7 (own_ne_box KO.out ST2.out.box (by decide)); obtain ⟨d0, d1, d2⟩ := mx7.cells; have p0 := (hb7.cell (p := ⟨kb, koff + k, none⟩) (show kb < _ by omega)).trans P0.out; obtain ⟨b0, b1, b2⟩ := bx7.cells; obtain ⟨g0, g1, g2⟩ := bx7.free; have hl7 := bx7.lt; obtain ⟨e0, e1, e2⟩ := (mx7.other hgne 2 (.slice ka2 (k + 1) kc2)).cells; have u0 := (cell_set_other w7 hdne (koff + k) 2 (.slice ka2 (k + 1) kc2)).trans p0))
              all_goals
                go_wp2_with fail
                go_roundw
                case rel =>
                  have hy7 := (Box3.alloc (w := wr.drew) ST2.out.res (.cells #[.int .i64 (M.freeN set m.keys[k])] 3)).grown hgrow7 (own_ne_box KO.out ST2.out.res (by decide))
                  have hpd7 := OwnAt.kept (w := wr.drew.alloc (.cells #[.int .i64 (M.freeN set m.keys[k])] 3)) (PD.out.below (w' := wr.drew.alloc (.cells #[.int .i64 (M.freeN set m.keys[k])] 3)) ((Below.refl wr.heap.size wr).drew.alloc (Nat.le_refl _) _) (Nat.le_refl _)) (World.ownsRow.alloc (w := wr.drew) KO.out _) hgrow7 (by decide)
                  have hs7 := hb7.size
                  refine ⟨k + 1, by omega, by go_num, ?_⟩
                  have hl1 : (M.freeKs m set (k + 1)).length = k + 1 := M.freeKs_len (by omega)
                  refine ⟨⟨pa, pc, ka2, kc2, by rw [hl1]; exact bx7.set2 _, (hpd7.boxed bx7 (by decide) 2 _).mono (Nat.le_refl _) (by simp [World.setCell]; omega), hp1, hp2, by rw [hl1]; refine own_setBox ?_ bx7 (by decide) 2 _; rw [M.freeKs_succ hlt, M.encIs_append]; exact hown7⟩, mx7.other hgne 2 _, hy7.other hrne 2 _, ?_⟩
                  have hbw : Below w.heap.size w w7 := ⟨hb7.os.trans ST2.out.below.os, hb7.tape.trans ST2.out.below.tape, hb7.output.trans ST2.out.below.output, by omega, fun k hk => (hb7.block k (by omega)).trans (ST2.out.below.block k hk)⟩
                  exact hbw.setCell (p := ⟨w1.heap.size + 1 + 1, 2, none⟩) (by show w.heap.size ≤ w1.heap.size + 1 + 1; omega) _
                case measure => simp [intOf]; omega
            · obtain rfl : k = m.keys.length := by omega
              have hnlt : ¬ (m.keys.length : Int) < m.size := by omega
              obtain ⟨b0, b1, b2⟩ := BX.out.cells
              obtain ⟨k0, k1, k2⟩ := ST2.out.res.cells
              obtain ⟨f0, f1, f2⟩ := ST2.out.res.free
              have hyl := ST2.out.res.lt
              have hmo : MzOwn w1.heap.size wr.heap.size wr (M.freeOf m set) pa pc ka kc := by
                obtain ⟨i1, i2, i3, i4, i5, i6⟩ := own_slice KO.out
                injection i3 with j1 j2 j3
                subst j1; subst j3
                exact ⟨PD.out, i6, hp1, hp2, by show (M.freeKs m set m.keys.length).length ≤ _; rw [M.freeKs_len (Nat.le_refl _)]; exact i4, i5⟩
              have HMO := Lib.hid hmo
              clear hmo hrow
              go_wp2_with fail
              refine bodyPost_ret (v := .tuple #[.agg #[.int .i64 m.size, .slice pa (M.freeTo m set m.doors.length).length pc, .slice ka m.keys.length kc], .bool true]) (by simp [results, Try.results39, go_sem, k0, k1, k2]) rfl ?_
              rw [HF.out, HV.out]
              exact mzYes_end (m := M.freeOf m set) ST2.out.below HMO.out (by omega) (Nat.le_refl _) rfl (M.freeKs_len (Nat.le_refl _))
end C
end Go.Proofs.Ytcaaookecgdbdaa
