/-
  CONTRACT of spec.RepaintMaze: the maze with other colours, in memory of its own, or the empty one and false; what lay in memory stays. No condition but that the arguments read so.
-/
import Derived.Test.YtmccpjdgnenmeaaPaint
import Derived.Test.YtmccpjdgnenmeaaPutN
import Derived.Test.YtmccpjdgnenmeaaMzAt
import Derived.Test.YtmccpjdgnenmeaaLate
import Derived.Test.YtmccpjdgnenmeaaStep
import Derived.OwnWalk
namespace Go.Proofs.Ytmccpjdgnenmeaa
open Go.RowKit
namespace C
set_option maxHeartbeats 3200000
set_option maxRecDepth 20000
theorem ni_grownRow {lo hi B size n : Nat} {w w' : World} {T e : TypeId} {a : Option Addr} {xs ys : List Value} {v : Value} (h : OwnAt lo hi w T a xs) (ho : w.ownsRow B e size v n ys) (hne : e ≠ T) (hg : w.grownBy w' v.ownBlock) : OwnAt lo hi w' T a xs := by
  rcases h with h | ⟨g, off, cur, ha, h1, h2, hh, hc⟩
  · exact .inl h
  · refine .inr ⟨g, off, cur, ha, h1, h2, (hg.block g (heap_lt hh) ?_).trans hh, hc⟩
    intro he
    rcases ho.2 with ⟨rfl, _⟩ | ⟨g', cap', cur', rfl, _, hh', _⟩
    · simp [Value.ownBlock] at he
    · have : g' = g := by simpa [Value.ownBlock] using he.symm
      subst this
      rw [hh] at hh'
      injection hh' with hh'
      injection hh' with _ ht
      exact hne ht.symm
theorem Box3.set2 {X : World} {g : Nat} {T : TypeId} {x y z : Value} (h : Box3 X g T x y z) (u : Value) : Box3 (X.setCell ⟨g, 2, none⟩ u) g T x y u := by
  unfold Box3 at h ⊢
  simp [World.setCell, Array.getElem?_modify, h]
/-- a maze that the call builds in a box of its own -/
structure LSt (w : World) (m : M.Mz) (a b : Option Addr) (c d : Nat) (g B : Nat) (wr : World) (ds : List M.Dr) (ks : List Int) : Prop where
  dm : ∃ pa pc ka kc, Box3 wr g 27 (.int .i64 m.size) (.slice pa ds.length pc) (.slice ka ks.length kc) ∧ OwnAt B wr.heap.size wr 60 pa (M.encDs ds) ∧ ds.length ≤ pc ∧ pc ≤ 9223372036854775807 ∧ wr.ownsRow B 3 1 (.slice ka ks.length kc) ks.length (M.encIs ks)
  box : Box3 wr w.heap.size 27 (.int .i64 m.size) (.slice a m.doors.length c) (.slice b m.keys.length d)
  res : Box3 wr (w.heap.size + 1) 27 (.int .i64 0) (.slice none 0 0) (.slice none 0 0)
  below : Below w.heap.size w wr
theorem specRp_lw (w : World) (lo hi : Nat) (m : M.Mz) (a b : Option Addr) (c d : Nat) (h : MzIn lo hi w m a c b d) (hz : hi ≤ w.heap.size) (_h1 : m.doors.length ≤ 1048576) (_h2 : m.keys.length ≤ 1048576) (lo' hi' : Nat) (ta : Option Addr) (tc : Nat) (nt : List Int) (ht : RowIn lo' hi' w ta (M.encIs nt)) (hz' : hi' ≤ w.heap.size) (hl : nt.length ≤ 1048576) (_u1 : nt.length ≤ tc) (_u2 : tc ≤ 9223372036854775807) (_u3 : ∀ z ∈ nt, -9223372036854775808 ≤ z ∧ z ≤ 9223372036854775807) :
    Calls Try.prog 37 #[.agg #[.int .i64 m.size, .slice a m.doors.length c, .slice b m.keys.length d], .slice ta nt.length tc] w (MzOkPost w (M.rpV m nt) (M.rpB m nt)) := by
  obtain ⟨i0, hi0, hz0, hz1, hz2⟩ := info_parts infoI
  have H := Lib.hid h
  have HT := Lib.hid ht
  clear h ht _u3
  go_enter Try.func37, Try.ntmps37
  go_wp2_with fail
  refine named ?_
  intro W hW
  have hb : Below w.heap.size w W := by rw [hW]; exact (below_alloc _ _).alloc (by simp) _
  have x1 : Box3 W w.heap.size 27 (.int .i64 m.size) (.slice a m.doors.length c) (.slice b m.keys.length d) := by rw [hW]; exact (Box3.new _ _ _ _ rfl).alloc _
  have y1 : Box3 W (w.heap.size + 1) 27 (.int .i64 0) (.slice none 0 0) (.slice none 0 0) := by rw [hW]; exact Box3.new _ _ _ _ (by simp)
  clear hW
  have hzw := hb.size
  refine (specMaze_any W lo hi m a b c d (H.out.below hb hz) (by omega)).mono ?_
  rintro e w1 ⟨rfl, hb1⟩
  have X1 := Lib.hid (x1.below hb1)
  have Y1 := Lib.hid (y1.below hb1)
  have hbl := Y1.out.lt
  have hbl0 := X1.out.lt
  have HB1 := Lib.hid (hb.trans (hb1.mono hzw))
  have hz1w := hb1.size
  clear hb hb1 x1 y1
  obtain ⟨c0, c1, c2⟩ := X1.out.cells
  obtain ⟨k0, k1, k2⟩ := Y1.out.cells
  obtain ⟨f0, f1, f2⟩ := Y1.out.free
  cases q0 : M.mazeB m with
  | false =>
    have HF : Hid (M.rpB m nt = false) := Lib.hid (by unfold M.rpB; rw [q0]; rfl)
    have HV := Lib.hid (M.rpV_no HF.out)
    clear q0
    go_wp2_with fail
    refine bodyPost_ret (v := .tuple #[.agg #[.int .i64 0, .slice none 0 0, .slice none 0 0], .bool false]) (by simp [results, Try.results37, go_sem, k0, k1, k2]) rfl ?_
    rw [HF.out, HV.out]
    exact mzNo_end HB1.out
  | true =>
    have HM := Lib.hid q0
    have HVA := Lib.hid (M.valid_of q0)
    have hdl := HVA.out.few
    have hkl := HVA.out.keysLen
    have hs12 := HVA.out.size12
    clear q0
    have LO := l2Order_any w1 lo' hi' ta tc nt 6 (HT.out.below HB1.out hz') hl (by omega)
    rw [show ((6 : Nat) : Int) = 6 from rfl] at LO
    go_wp2_with fail
    refine LO.mono ?_
    clear LO
    rintro e w2 ⟨rfl, rfl⟩
    cases q1 : M.orderB nt 6 with
    | false =>
      have HF : Hid (M.rpB m nt = false) := Lib.hid (by unfold M.rpB; rw [q1, Bool.and_false])
      have HV := Lib.hid (M.rpV_no HF.out)
      clear q1
      go_wp2_with fail
      refine bodyPost_ret (v := .tuple #[.agg #[.int .i64 0, .slice none 0 0, .slice none 0 0], .bool false]) (by simp [results, Try.results37, go_sem, k0, k1, k2]) rfl ?_
      rw [HF.out, HV.out]
      exact mzNo_end HB1.out
    | true =>
      have HF : Hid (M.rpB m nt = true) := Lib.hid (by unfold M.rpB; rw [q1, HM.out]; rfl)
      have HV := Lib.hid (M.rpV_yes HF.out)
      have HO := Lib.hid q1
      have hlow := HB1.out.size
      clear q1
      go_wp2_with fail
      refine wp_named ?_
      intro W3 hW3
      have hb3 : Below w1.heap.size w1 W3 := by rw [hW3]; exact ((below_alloc _ _).alloc (by simp) _).alloc (by simp; omega) _
      have st3 : LSt w m a b c d (w1.heap.size + 1 + 1) w1.heap.size W3 [] [] := by
        refine ⟨⟨some ⟨w1.heap.size, 0, none⟩, 0, some ⟨w1.heap.size + 1, 0, none⟩, 0, ?_, OwnAt.nil _ _ _ _ _, by simp, by omega, ?_⟩, X1.out.below hb3, Y1.out.below hb3, HB1.out.trans (hb3.mono (by omega))⟩
        · rw [hW3]; exact Box3.new _ _ _ _ (by simp)
        · have o1 := ownsRow_empty (w1.alloc (.cells #[] 60)) w1.heap.size 3 1 (by simp)
          rw [hW3]
          refine World.ownsRow.alloc ?_ _
          simpa [M.encIs] using o1
      have hz3 := hb3.size
      obtain ⟨g, hg⟩ : ∃ g, w1.heap.size + 1 + 1 = g := ⟨_, rfl⟩
      obtain ⟨B, hB⟩ : ∃ B, w1.heap.size = B := ⟨_, rfl⟩
      have hgB : B ≤ g := by omega
      have hBw : w.heap.size + 1 < B := by omega
      have hBr : B ≤ W3.heap.size := by omega
      rw [hg] at st3 ⊢
      rw [hB] at st3
      have ST3 := Lib.hid st3
      clear hW3 hb3 st3 c0 c1 c2 k0 k1 k2 f0 f1 f2 hg hB
      go_loopw [7] (fun i wr => ∃ (k : Nat), k ≤ m.doors.length ∧ i = .int .i64 k ∧ LSt w m a b c d g B wr (M.rpTo m nt k) []) (fun i _ => m.doors.length - (intOf i).toNat)
      case atStart => exact ⟨0, Nat.zero_le _, rfl, ST3.out⟩
      case round =>
        obtain ⟨k, hk, rfl, hst⟩ := hrel
        have ST := Lib.hid hst
        have hlen := M.rpTo_len m nt k
        obtain ⟨pa, pc, ka, kc, hbx, hpd, hp1, hp2, hko⟩ := hst.dm
        have BX := Lib.hid hbx
        have PD := Lib.hid hpd
        have KO := Lib.hid hko
        have hzr := hst.below.size
        have hxl := hst.box.lt
        have hgl := hbx.lt
        obtain ⟨d0, d1, d2⟩ := hst.box.cells
        have hrow := H.out.doors.below hst.below hz
        clear hst hbx hpd hko
        by_cases hlt : k < m.doors.length
        · obtain ⟨db, off, hda, _, hdb, hc0⟩ := hrow.at_ (k := k * 3) (by rw [M.encDs_len]; omega)
          subst hda
          have hdbw : db < w.heap.size := by omega
          obtain ⟨q1, q2, q3, q4, q5, q6, q7⟩ := HVA.out.door k hlt
          obtain ⟨nd, hnd⟩ : ∃ x : Nat, m.doors[k].2.2 = (x : Int) := ⟨m.doors[k].2.2.toNat, by omega⟩
          have hnd64 : nd < 64 := by omega
          have P0 : Hid (wr.cell? ⟨db, off + k * 3, none⟩ = some (.int .i64 m.doors[k].1)) := Lib.hid (hc0 _ _ (M.encDs_at0 hlt))
          have P1 : Hid (wr.cell? ⟨db, off + k * 3 + 1, none⟩ = some (.int .i64 m.doors[k].2.1)) := Lib.hid (hc0 _ _ (M.encDs_at1 hlt))
          have P2 : Hid (wr.cell? ⟨db, off + k * 3 + 2, none⟩ = some (.int .i64 (nd : Int))) := Lib.hid (by rw [← hnd]; exact hc0 _ _ (M.encDs_at2 hlt))
          have hmin : ((min m.doors[k].1 m.doors[k].2.1, max m.doors[k].1 m.doors[k].2.1, M.paintF nt (nd : Int)) : M.Dr) = M.repD (M.paintF nt) m.doors[k] := by
            unfold M.repD
            rw [show min m.doors[k].1 m.doors[k].2.1 = m.doors[k].1 by omega, show max m.doors[k].1 m.doors[k].2.1 = m.doors[k].2.1 by omega, hnd]
          have hltI : (k : Int) < (m.doors.length : Int) := by omega
          have PN := Lib.hid (fun W' (hq : Below wr.heap.size wr W') => l2Painted_any W' lo' hi' ta tc nt ((HT.out.below ST.out.below hz').below hq (by omega)) (by have := hq.size; omega) HO.out nd hnd64)
          have PA := Lib.hid (fun W' (hq : Below wr.heap.size wr W') => put_any W' B wr.heap.size pa pc (M.rpTo m nt k) m.doors[k].1 m.doors[k].2.1 (M.paintF nt (nd : Int)) (PD.out.below hq (Nat.le_refl _)) hq.size (by have := hq.size; have := BX.out.lt; omega) (by omega) hp1 hp2)
          have HMIN := Lib.hid hmin
          have hgne : w.heap.size ≠ g := by omega
          have hrne : w.heap.size + 1 ≠ g := by omega
          obtain ⟨b0, b1, b2⟩ := BX.out.cells
          clear hrow hc0 hmin hnd
          go_wp2_with fail
          refine wp_region_late2 (fun wq => wq.cell? ⟨w.heap.size, 1, none⟩ = some (.slice (some ⟨db, off, none⟩) m.doors.length c) ∧ wq.cell? ⟨g, 1, none⟩ = some (.slice pa (M.rpTo m nt k).length pc) ∧ wq.cell? ⟨db, off + k * 3, none⟩ = some (.int .i64 m.doors[k].1) ∧ wq.cell? ⟨db, off + k * 3 + 1, none⟩ = some (.int .i64 m.doors[k].2.1) ∧ wq.cell? ⟨db, off + k * 3 + 2, none⟩ = some (.int .i64 (nd : Int))) [24] 25 #[false, false, false, false, false, false, false, false, false, false, false, false, false, false, false, false, false, false, false, false, false, false, false, false, false] rfl rfl (by kernel_rfl) ?_
          have hS : (fun wq => wq.cell? ⟨w.heap.size, 1, none⟩ = some (.slice (some ⟨db, off, none⟩) m.doors.length c) ∧ wq.cell? ⟨g, 1, none⟩ = some (.slice pa (M.rpTo m nt k).length pc) ∧ wq.cell? ⟨db, off + k * 3, none⟩ = some (.int .i64 m.doors[k].1) ∧ wq.cell? ⟨db, off + k * 3 + 1, none⟩ = some (.int .i64 m.doors[k].2.1) ∧ wq.cell? ⟨db, off + k * 3 + 2, none⟩ = some (.int .i64 (nd : Int))) wr.drew := ⟨d1, b1, P0.out, P1.out, P2.out⟩
          refine wpAnyL_take (i := 0) (oi := { dst := some 30, op := Go.Op.fieldAddr 27 (Go.Operand.tmp 6) 1, type := 0, pos := "l2_mazes.go:364", after := #[], guard := none }) (v := ?av0) rfl (by kernel_rfl) (by kernel_rfl) (by kernel_rfl) (by kernel_rfl) (fun _ _ _ h => h) (Or.inl ⟨by rfl, ?ah0⟩) hS ?ar0
          case ah0 => (intro wS hSw; (try dsimp only at hSw); go_split_ands; go_simp; try with_reducible rfl)
          try simp only [Act.put, List.setIfInBounds_toArray, List.set_cons_zero, List.set_cons_succ]
          refine wpAnyL_take (i := 1) (oi := { dst := some 31, op := Go.Op.load 24 (Go.Operand.tmp 30), type := 24, pos := "l2_mazes.go:364", after := #[{ on := 0, ground := Go.Ground.data }], guard := none }) (v := ?av1) rfl (by kernel_rfl) (by kernel_rfl) (by kernel_rfl) (by kernel_rfl) (fun _ _ _ h => h) (Or.inl ⟨by rfl, ?ah1⟩) hS ?ar1
          case ah1 => (intro wS hSw; (try dsimp only at hSw); go_split_ands; go_simp; try with_reducible rfl)
          try simp only [Act.put, List.setIfInBounds_toArray, List.set_cons_zero, List.set_cons_succ]
          refine wpAnyL_take (i := 2) (oi := { dst := some 32, op := Go.Op.fieldAddr 27 (Go.Operand.tmp 2) 1, type := 0, pos := "l2_mazes.go:364", after := #[], guard := none }) (v := ?av2) rfl (by kernel_rfl) (by kernel_rfl) (by kernel_rfl) (by kernel_rfl) (fun _ _ _ h => h) (Or.inl ⟨by rfl, ?ah2⟩) hS ?ar2
          case ah2 => (intro wS hSw; (try dsimp only at hSw); go_split_ands; go_simp; try with_reducible rfl)
          try simp only [Act.put, List.setIfInBounds_toArray, List.set_cons_zero, List.set_cons_succ]
          refine wpAnyL_take (i := 3) (oi := { dst := some 33, op := Go.Op.load 24 (Go.Operand.tmp 32), type := 24, pos := "l2_mazes.go:364", after := #[{ on := 2, ground := Go.Ground.data }], guard := none }) (v := ?av3) rfl (by kernel_rfl) (by kernel_rfl) (by kernel_rfl) (by kernel_rfl) (fun _ _ _ h => h) (Or.inl ⟨by rfl, ?ah3⟩) hS ?ar3
          case ah3 => (intro wS hSw; (try dsimp only at hSw); go_split_ands; go_simp; try with_reducible rfl)
          try simp only [Act.put, List.setIfInBounds_toArray, List.set_cons_zero, List.set_cons_succ]
          refine wpAnyL_take (i := 4) (oi := { dst := some 34, op := Go.Op.move (Go.Operand.tmp 7), type := 3, pos := "l2_mazes.go:364", after := #[], guard := none }) (v := ?av4) rfl (by kernel_rfl) (by kernel_rfl) (by kernel_rfl) (by kernel_rfl) (fun _ _ _ h => h) (Or.inl ⟨by rfl, ?ah4⟩) hS ?ar4
          case ah4 => (intro wS hSw; (try dsimp only at hSw); go_split_ands; go_simp; try with_reducible rfl)
          try simp only [Act.put, List.setIfInBounds_toArray, List.set_cons_zero, List.set_cons_succ]
          refine wpAnyL_take (i := 5) (oi := { dst := some 35, op := Go.Op.indexAddr 24 (Go.Operand.tmp 33) (Go.Operand.tmp 34), type := 0, pos := "l2_mazes.go:364", after := #[{ on := 3, ground := Go.Ground.data }, { on := 4, ground := Go.Ground.data }], guard := none }) (v := ?av5) rfl (by kernel_rfl) (by kernel_rfl) (by kernel_rfl) (by kernel_rfl) (fun _ _ _ h => h) (Or.inl ⟨by rfl, ?ah5⟩) hS ?ar5
          case ah5 => (intro wS hSw; (try dsimp only at hSw); go_split_ands; go_simp; try with_reducible rfl)
          try simp only [Act.put, List.setIfInBounds_toArray, List.set_cons_zero, List.set_cons_succ]
          refine wpAnyL_take (i := 6) (oi := { dst := some 36, op := Go.Op.indexAddr 60 (Go.Operand.tmp 35) (Go.Operand.const (Go.Value.int Go.IntKind.i64 0)), type := 0, pos := "l2_mazes.go:364", after := #[{ on := 5, ground := Go.Ground.data }], guard := none }) (v := ?av6) rfl (by kernel_rfl) (by kernel_rfl) (by kernel_rfl) (by kernel_rfl) (fun _ _ _ h => h) (Or.inl ⟨by rfl, ?ah6⟩) hS ?ar6
          case ah6 => (intro wS hSw; (try dsimp only at hSw); go_split_ands; go_simp; try with_reducible rfl)
          try simp only [Act.put, List.setIfInBounds_toArray, List.set_cons_zero, List.set_cons_succ]
          refine wpAnyL_take (i := 7) (oi := { dst := some 37, op := Go.Op.load 3 (Go.Operand.tmp 36), type := 3, pos := "l2_mazes.go:364", after := #[{ on := 6, ground := Go.Ground.data }], guard := none }) (v := ?av7) rfl (by kernel_rfl) (by kernel_rfl) (by kernel_rfl) (by kernel_rfl) (fun _ _ _ h => h) (Or.inl ⟨by rfl, ?ah7⟩) hS ?ar7
          case ah7 => (intro wS hSw; (try dsimp only at hSw); go_split_ands; go_simp; try with_reducible rfl)
          try simp only [Act.put, List.setIfInBounds_toArray, List.set_cons_zero, List.set_cons_succ]
          refine wpAnyL_take (i := 8) (oi := { dst := some 38, op := Go.Op.fieldAddr 27 (Go.Operand.tmp 2) 1, type := 0, pos := "l2_mazes.go:364", after := #[], guard := none }) (v := ?av8) rfl (by kernel_rfl) (by kernel_rfl) (by kernel_rfl) (by kernel_rfl) (fun _ _ _ h => h) (Or.inl ⟨by rfl, ?ah8⟩) hS ?ar8
          case ah8 => (intro wS hSw; (try dsimp only at hSw); go_split_ands; go_simp; try with_reducible rfl)
          try simp only [Act.put, List.setIfInBounds_toArray, List.set_cons_zero, List.set_cons_succ]
          refine wpAnyL_take (i := 9) (oi := { dst := some 39, op := Go.Op.load 24 (Go.Operand.tmp 38), type := 24, pos := "l2_mazes.go:364", after := #[{ on := 8, ground := Go.Ground.data }], guard := none }) (v := ?av9) rfl (by kernel_rfl) (by kernel_rfl) (by kernel_rfl) (by kernel_rfl) (fun _ _ _ h => h) (Or.inl ⟨by rfl, ?ah9⟩) hS ?ar9
          case ah9 => (intro wS hSw; (try dsimp only at hSw); go_split_ands; go_simp; try with_reducible rfl)
          try simp only [Act.put, List.setIfInBounds_toArray, List.set_cons_zero, List.set_cons_succ]
          refine wpAnyL_take (i := 10) (oi := { dst := some 40, op := Go.Op.move (Go.Operand.tmp 7), type := 3, pos := "l2_mazes.go:364", after := #[], guard := none }) (v := ?av10) rfl (by kernel_rfl) (by kernel_rfl) (by kernel_rfl) (by kernel_rfl) (fun _ _ _ h => h) (Or.inl ⟨by rfl, ?ah10⟩) hS ?ar10
          case ah10 => (intro wS hSw; (try dsimp only at hSw); go_split_ands; go_simp; try with_reducible rfl)
          try simp only [Act.put, List.setIfInBounds_toArray, List.set_cons_zero, List.set_cons_succ]
          refine wpAnyL_take (i := 11) (oi := { dst := some 41, op := Go.Op.indexAddr 24 (Go.Operand.tmp 39) (Go.Operand.tmp 40), type := 0, pos := "l2_mazes.go:364", after := #[{ on := 9, ground := Go.Ground.data }, { on := 10, ground := Go.Ground.data }], guard := none }) (v := ?av11) rfl (by kernel_rfl) (by kernel_rfl) (by kernel_rfl) (by kernel_rfl) (fun _ _ _ h => h) (Or.inl ⟨by rfl, ?ah11⟩) hS ?ar11
          case ah11 => (intro wS hSw; (try dsimp only at hSw); go_split_ands; go_simp; try with_reducible rfl)
          try simp only [Act.put, List.setIfInBounds_toArray, List.set_cons_zero, List.set_cons_succ]
          refine wpAnyL_take (i := 12) (oi := { dst := some 42, op := Go.Op.indexAddr 60 (Go.Operand.tmp 41) (Go.Operand.const (Go.Value.int Go.IntKind.i64 1)), type := 0, pos := "l2_mazes.go:364", after := #[{ on := 11, ground := Go.Ground.data }], guard := none }) (v := ?av12) rfl (by kernel_rfl) (by kernel_rfl) (by kernel_rfl) (by kernel_rfl) (fun _ _ _ h => h) (Or.inl ⟨by rfl, ?ah12⟩) hS ?ar12
          case ah12 => (intro wS hSw; (try dsimp only at hSw); go_split_ands; go_simp; try with_reducible rfl)
          try simp only [Act.put, List.setIfInBounds_toArray, List.set_cons_zero, List.set_cons_succ]
          refine wpAnyL_take (i := 13) (oi := { dst := some 43, op := Go.Op.load 3 (Go.Operand.tmp 42), type := 3, pos := "l2_mazes.go:364", after := #[{ on := 12, ground := Go.Ground.data }], guard := none }) (v := ?av13) rfl (by kernel_rfl) (by kernel_rfl) (by kernel_rfl) (by kernel_rfl) (fun _ _ _ h => h) (Or.inl ⟨by rfl, ?ah13⟩) hS ?ar13
          case ah13 => (intro wS hSw; (try dsimp only at hSw); go_split_ands; go_simp; try with_reducible rfl)
          try simp only [Act.put, List.setIfInBounds_toArray, List.set_cons_zero, List.set_cons_succ]
          refine wpAnyL_take (i := 14) (oi := { dst := some 44, op := Go.Op.fieldAddr 27 (Go.Operand.tmp 2) 1, type := 0, pos := "l2_mazes.go:364", after := #[], guard := none }) (v := ?av14) rfl (by kernel_rfl) (by kernel_rfl) (by kernel_rfl) (by kernel_rfl) (fun _ _ _ h => h) (Or.inl ⟨by rfl, ?ah14⟩) hS ?ar14
          case ah14 => (intro wS hSw; (try dsimp only at hSw); go_split_ands; go_simp; try with_reducible rfl)
          try simp only [Act.put, List.setIfInBounds_toArray, List.set_cons_zero, List.set_cons_succ]
          refine wpAnyL_take (i := 15) (oi := { dst := some 45, op := Go.Op.load 24 (Go.Operand.tmp 44), type := 24, pos := "l2_mazes.go:364", after := #[{ on := 14, ground := Go.Ground.data }], guard := none }) (v := ?av15) rfl (by kernel_rfl) (by kernel_rfl) (by kernel_rfl) (by kernel_rfl) (fun _ _ _ h => h) (Or.inl ⟨by rfl, ?ah15⟩) hS ?ar15
          case ah15 => (intro wS hSw; (try dsimp only at hSw); go_split_ands; go_simp; try with_reducible rfl)
          try simp only [Act.put, List.setIfInBounds_toArray, List.set_cons_zero, List.set_cons_succ]
          refine wpAnyL_take (i := 16) (oi := { dst := some 46, op := Go.Op.move (Go.Operand.tmp 7), type := 3, pos := "l2_mazes.go:364", after := #[], guard := none }) (v := ?av16) rfl (by kernel_rfl) (by kernel_rfl) (by kernel_rfl) (by kernel_rfl) (fun _ _ _ h => h) (Or.inl ⟨by rfl, ?ah16⟩) hS ?ar16
          case ah16 => (intro wS hSw; (try dsimp only at hSw); go_split_ands; go_simp; try with_reducible rfl)
          try simp only [Act.put, List.setIfInBounds_toArray, List.set_cons_zero, List.set_cons_succ]
          refine wpAnyL_take (i := 17) (oi := { dst := some 47, op := Go.Op.indexAddr 24 (Go.Operand.tmp 45) (Go.Operand.tmp 46), type := 0, pos := "l2_mazes.go:364", after := #[{ on := 15, ground := Go.Ground.data }, { on := 16, ground := Go.Ground.data }], guard := none }) (v := ?av17) rfl (by kernel_rfl) (by kernel_rfl) (by kernel_rfl) (by kernel_rfl) (fun _ _ _ h => h) (Or.inl ⟨by rfl, ?ah17⟩) hS ?ar17
          case ah17 => (intro wS hSw; (try dsimp only at hSw); go_split_ands; go_simp; try with_reducible rfl)
          try simp only [Act.put, List.setIfInBounds_toArray, List.set_cons_zero, List.set_cons_succ]
          refine wpAnyL_take (i := 18) (oi := { dst := some 48, op := Go.Op.indexAddr 60 (Go.Operand.tmp 47) (Go.Operand.const (Go.Value.int Go.IntKind.i64 2)), type := 0, pos := "l2_mazes.go:364", after := #[{ on := 17, ground := Go.Ground.data }], guard := none }) (v := ?av18) rfl (by kernel_rfl) (by kernel_rfl) (by kernel_rfl) (by kernel_rfl) (fun _ _ _ h => h) (Or.inl ⟨by rfl, ?ah18⟩) hS ?ar18
          case ah18 => (intro wS hSw; (try dsimp only at hSw); go_split_ands; go_simp; try with_reducible rfl)
          try simp only [Act.put, List.setIfInBounds_toArray, List.set_cons_zero, List.set_cons_succ]
          refine wpAnyL_take (i := 19) (oi := { dst := some 49, op := Go.Op.load 3 (Go.Operand.tmp 48), type := 3, pos := "l2_mazes.go:364", after := #[{ on := 18, ground := Go.Ground.data }], guard := none }) (v := ?av19) rfl (by kernel_rfl) (by kernel_rfl) (by kernel_rfl) (by kernel_rfl) (fun _ _ _ h => h) (Or.inl ⟨by rfl, ?ah19⟩) hS ?ar19
          case ah19 => (intro wS hSw; (try dsimp only at hSw); go_split_ands; go_simp; try with_reducible rfl)
          try simp only [Act.put, List.setIfInBounds_toArray, List.set_cons_zero, List.set_cons_succ]
          refine wpAnyL_take (i := 20) (oi := { dst := some 50, op := Go.Op.move (Go.Operand.tmp 1), type := 25, pos := "l2_mazes.go:364", after := #[], guard := none }) (v := ?av20) rfl (by kernel_rfl) (by kernel_rfl) (by kernel_rfl) (by kernel_rfl) (fun _ _ _ h => h) (Or.inl ⟨by rfl, ?ah20⟩) hS ?ar20
          case ah20 => (intro wS hSw; (try dsimp only at hSw); go_split_ands; go_simp; try with_reducible rfl)
          try simp only [Act.put, List.setIfInBounds_toArray, List.set_cons_zero, List.set_cons_succ]
          refine wpAnyL_one (i := 21) (oi := { dst := some 51, op := Go.Op.call { callee := Go.Callee.value (Go.Operand.func 78), args := #[Go.Operand.tmp 49, Go.Operand.tmp 50], argTypes := #[3, 25] }, type := 3, pos := "l2_mazes.go:364", after := #[{ on := 19, ground := Go.Ground.data }, { on := 20, ground := Go.Ground.data }], guard := none }) (by kernel_rfl) rfl (fun K0 hK0 => ?_)
          refine step_call (by rfl) 78 #[.int .i64 (nd : Int), .slice ta nt.length tc] (by go_simp; try rfl) (PN.out wr.drew (Below.refl wr.heap.size wr).drew) ?_
          rintro e w4 ⟨rfl, hb4⟩
          refine ⟨_, rfl, ?_⟩
          have hb4' : Below wr.heap.size wr w4 := (Below.refl wr.heap.size wr).drew.trans hb4
          have bx4 := BX.out.below hb4'
          have mx4 := ST.out.box.below hb4'
          have hS4 : (fun wq => wq.cell? ⟨w.heap.size, 1, none⟩ = some (.slice (some ⟨db, off, none⟩) m.doors.length c) ∧ wq.cell? ⟨g, 1, none⟩ = some (.slice pa (M.rpTo m nt k).length pc) ∧ wq.cell? ⟨db, off + k * 3, none⟩ = some (.int .i64 m.doors[k].1) ∧ wq.cell? ⟨db, off + k * 3 + 1, none⟩ = some (.int .i64 m.doors[k].2.1) ∧ wq.cell? ⟨db, off + k * 3 + 2, none⟩ = some (.int .i64 (nd : Int))) w4 := ⟨mx4.cells.2.1, bx4.cells.2.1, (hb4'.cell (p := ⟨db, off + k * 3, none⟩) (show db < _ by omega)).trans P0.out, (hb4'.cell (p := ⟨db, off + k * 3 + 1, none⟩) (show db < _ by omega)).trans P1.out, (hb4'.cell (p := ⟨db, off + k * 3 + 2, none⟩) (show db < _ by omega)).trans P2.out⟩
          refine hK0 _ _ (fun _ => hS4) ?_
          clear hS hS4 bx4 mx4
          try simp only [Act.put, List.setIfInBounds_toArray, List.set_cons_zero, List.set_cons_succ]
          refine wpAnyL_one (i := 22) (oi := { dst := some 52, op := Go.Op.call { callee := Go.Callee.value (Go.Operand.func 76), args := #[Go.Operand.tmp 31, Go.Operand.tmp 37, Go.Operand.tmp 43, Go.Operand.tmp 51], argTypes := #[24, 3, 3, 3] }, type := 24, pos := "l2_mazes.go:364", after := #[{ on := 1, ground := Go.Ground.data }, { on := 7, ground := Go.Ground.data }, { on := 13, ground := Go.Ground.data }, { on := 21, ground := Go.Ground.data }, { on := 21, ground := Go.Ground.chain }], guard := none }) (by kernel_rfl) rfl (fun K1 hK1 => ?_)
          refine step_call (by rfl) 76 #[.slice pa (M.rpTo m nt k).length pc, .int .i64 m.doors[k].1, .int .i64 m.doors[k].2.1, .int .i64 (M.paintF nt nd)] (by go_simp; try rfl) (PA.out w4 hb4') ?_
          rintro e w5 ⟨pa2, pc2, rfl, hpp, hpp1, hpp2, hb5⟩
          refine ⟨_, rfl, ?_⟩
          have hb5' : Below wr.heap.size wr w5 := hb4'.trans (hb5.mono hb4'.size)
          have bx5 := BX.out.below hb5'
          have mx5 := ST.out.box.below hb5'
          have hS : (fun wq => wq.cell? ⟨w.heap.size, 1, none⟩ = some (.slice (some ⟨db, off, none⟩) m.doors.length c) ∧ wq.cell? ⟨g, 1, none⟩ = some (.slice pa (M.rpTo m nt k).length pc) ∧ wq.cell? ⟨db, off + k * 3, none⟩ = some (.int .i64 m.doors[k].1) ∧ wq.cell? ⟨db, off + k * 3 + 1, none⟩ = some (.int .i64 m.doors[k].2.1) ∧ wq.cell? ⟨db, off + k * 3 + 2, none⟩ = some (.int .i64 (nd : Int))) w5 := ⟨mx5.cells.2.1, bx5.cells.2.1, (hb5'.cell (p := ⟨db, off + k * 3, none⟩) (show db < _ by omega)).trans P0.out, (hb5'.cell (p := ⟨db, off + k * 3 + 1, none⟩) (show db < _ by omega)).trans P1.out, (hb5'.cell (p := ⟨db, off + k * 3 + 2, none⟩) (show db < _ by omega)).trans P2.out⟩
          refine hK1 _ _ (fun _ => hS) ?_
          try simp only [Act.put, List.setIfInBounds_toArray, List.set_cons_zero, List.set_cons_succ]
          refine wpAnyL_take (i := 23) (oi := { dst := some 53, op := Go.Op.fieldAddr 27 (Go.Operand.tmp 6) 1, type := 0, pos := "l2_mazes.go:364", after := #[{ on := 0, ground := Go.Ground.phase }, { on := 1, ground := Go.Ground.phase }, { on := 2, ground := Go.Ground.phase }, { on := 3, ground := Go.Ground.phase }, { on := 4, ground := Go.Ground.phase }, { on := 5, ground := Go.Ground.phase }, { on := 6, ground := Go.Ground.phase }, { on := 7, ground := Go.Ground.phase }, { on := 8, ground := Go.Ground.phase }, { on := 9, ground := Go.Ground.phase }, { on := 10, ground := Go.Ground.phase }, { on := 11, ground := Go.Ground.phase }, { on := 12, ground := Go.Ground.phase }, { on := 13, ground := Go.Ground.phase }, { on := 14, ground := Go.Ground.phase }, { on := 15, ground := Go.Ground.phase }, { on := 16, ground := Go.Ground.phase }, { on := 17, ground := Go.Ground.phase }, { on := 18, ground := Go.Ground.phase }, { on := 19, ground := Go.Ground.phase }, { on := 20, ground := Go.Ground.phase }, { on := 21, ground := Go.Ground.phase }, { on := 22, ground := Go.Ground.phase }], guard := none }) (v := ?bv23) rfl (by kernel_rfl) (by kernel_rfl) (by kernel_rfl) (by kernel_rfl) (fun _ _ _ h => h) (Or.inl ⟨by rfl, ?bh23⟩) hS ?br23
          case bh23 => (intro wS hSw; (try dsimp only at hSw); go_split_ands; go_simp; try with_reducible rfl)
          try simp only [Act.put, List.setIfInBounds_toArray, List.set_cons_zero, List.set_cons_succ]
          obtain ⟨b0, b1, b2⟩ := bx5.cells
          obtain ⟨g0, g1, g2⟩ := bx5.free
          have hl5 := bx5.lt
          refine wpAnyL_one (i := 24) (oi := { dst := none, op := Go.Op.store 24 (Go.Operand.tmp 53) (Go.Operand.tmp 52), type := 0, pos := "l2_mazes.go:364", after := #[{ on := 23, ground := Go.Ground.data }, { on := 22, ground := Go.Ground.data }, { on := 22, ground := Go.Ground.chain }, { on := 0, ground := Go.Ground.phase }, { on := 1, ground := Go.Ground.phase }, { on := 2, ground := Go.Ground.phase }, { on := 3, ground := Go.Ground.phase }, { on := 4, ground := Go.Ground.phase }, { on := 5, ground := Go.Ground.phase }, { on := 6, ground := Go.Ground.phase }, { on := 7, ground := Go.Ground.phase }, { on := 8, ground := Go.Ground.phase }, { on := 9, ground := Go.Ground.phase }, { on := 10, ground := Go.Ground.phase }, { on := 11, ground := Go.Ground.phase }, { on := 12, ground := Go.Ground.phase }, { on := 13, ground := Go.Ground.phase }, { on := 14, ground := Go.Ground.phase }, { on := 15, ground := Go.Ground.phase }, { on := 16, ground := Go.Ground.phase }, { on := 17, ground := Go.Ground.phase }, { on := 18, ground := Go.Ground.phase }, { on := 19, ground := Go.Ground.phase }, { on := 20, ground := Go.Ground.phase }, { on := 21, ground := Go.Ground.phase }, { on := 22, ground := Go.Ground.phase }], guard := none }) (by kernel_rfl) rfl (fun K2 hK2 => ?_)
          go_simp
          refine hK2 _ _ (fun h => absurd h (by decide)) ?_
          refine wpAnyL_done (by kernel_rfl) ?_ _
          all_goals
            go_wp2_with fail
            go_roundw
            case rel =>
              refine ⟨k + 1, by omega, by go_num, ?_⟩
              have hs5 := hb5'.size
              rw [M.rpTo_succ hlt]
              rw [HMIN.out] at hpp hpp1 ⊢
              exact ⟨⟨pa2, pc2, ka, kc, bx5.set1 _, (hpp.boxed bx5 (by decide) 1 _).mono (Nat.le_refl _) (by simp [World.setCell]), hpp1, hpp2, own_setBox (own_below KO.out hb5') bx5 (by decide) 1 _⟩, mx5.other hgne 1 _, (ST.out.res.below hb5').other hrne 1 _, (ST.out.below.trans (hb5'.mono ST.out.below.size)).setCell (p := ⟨g, 1, none⟩) (by show w.heap.size ≤ g; omega) _⟩
            case measure => simp [intOf]; omega
        · obtain rfl : k = m.doors.length := by omega
          go_wp2_with fail
          go_loopw [8] (fun i wr => ∃ (k : Nat), k ≤ m.keys.length ∧ i = .int .i64 k ∧ LSt w m a b c d g B wr (M.rpTo m nt m.doors.length) (M.rpKs m nt k)) (fun i _ => m.keys.length - (intOf i).toNat)
          case atStart => exact ⟨0, Nat.zero_le _, rfl, ST.out⟩
          case round =>
            obtain ⟨k, hk, rfl, hst⟩ := hrel
            have ST2 := Lib.hid hst
            have hkn : (M.rpKs m nt k).length ≤ 12 := by rw [M.rpKs_len hk]; omega
            obtain ⟨pa, pc, ka, kc, hbx, hpd, hp1, hp2, hko⟩ := hst.dm
            have BX := Lib.hid hbx
            have PD := Lib.hid hpd
            have KO := Lib.hid hko
            have hzr := hst.below.size
            have hxl := hst.box.lt
            have hgl := hbx.lt
            obtain ⟨d0, d1, d2⟩ := hst.box.cells
            have hrow := H.out.keys.below hst.below hz
            clear hst hbx hpd hko
            by_cases hlt : k < m.keys.length
            · obtain ⟨kb, koff, hkb, _, hkb2, hc0⟩ := hrow.at_ (k := k) (by rw [M.encIs_len]; exact hlt)
              subst hkb
              obtain ⟨r1, r2⟩ := HVA.out.key k hlt
              obtain ⟨nd, hnd⟩ : ∃ x : Nat, m.keys[k] = (x : Int) := ⟨m.keys[k].toNat, by omega⟩
              have hnd64 : nd < 64 := by omega
              have P0 : Hid (wr.cell? ⟨kb, koff + k, none⟩ = some (.int .i64 (nd : Int))) := Lib.hid (by rw [← hnd]; exact hc0 _ _ (M.encIs_at hlt))
              have HSU := Lib.hid (M.rpKs_succ (l := nt) hlt)
              have HND : Hid (M.encIs [M.paintF nt m.keys[k]] = [.int .i64 (M.paintF nt (nd : Int))]) := Lib.hid (by rw [hnd]; rfl)
              have PN := Lib.hid (fun W' (hq : Below wr.heap.size wr W') => l2Painted_any W' lo' hi' ta tc nt ((HT.out.below ST2.out.below hz').below hq (by omega)) (by have := hq.size; omega) HO.out nd hnd64)
              have hlts : (k : Int) < m.size := by omega
              have hltI : (k : Int) < (m.keys.length : Int) := by omega
              have hgne : w.heap.size ≠ g := by omega
              have hrne : w.heap.size + 1 ≠ g := by omega
              obtain ⟨b0, b1, b2⟩ := BX.out.cells
              clear hrow hc0 hnd
              go_wp2_with fail
              refine wp_region_late2 (fun wq => wq.cell? ⟨w.heap.size, 2, none⟩ = some (.slice (some ⟨kb, koff, none⟩) m.keys.length d) ∧ wq.cell? ⟨g, 2, none⟩ = some (.slice ka (M.rpKs m nt k).length kc) ∧ wq.cell? ⟨kb, koff + k, none⟩ = some (.int .i64 (nd : Int))) [12] 13 #[false, false, false, false, false, false, false, false, false, false, false, false, false] rfl rfl (by kernel_rfl) ?_
              have hS : (fun wq => wq.cell? ⟨w.heap.size, 2, none⟩ = some (.slice (some ⟨kb, koff, none⟩) m.keys.length d) ∧ wq.cell? ⟨g, 2, none⟩ = some (.slice ka (M.rpKs m nt k).length kc) ∧ wq.cell? ⟨kb, koff + k, none⟩ = some (.int .i64 (nd : Int))) wr.drew := ⟨d2, b2, P0.out⟩
              refine wpAnyL_take (i := 0) (oi := { dst := some 60, op := Go.Op.fieldAddr 27 (Go.Operand.tmp 6) 2, type := 0, pos := "l2_mazes.go:367", after := #[], guard := none }) (v := ?cv0) rfl (by kernel_rfl) (by kernel_rfl) (by kernel_rfl) (by kernel_rfl) (fun _ _ _ h => h) (Or.inl ⟨by rfl, ?ch0⟩) hS ?cr0
              case ch0 => (intro wS hSw; (try dsimp only at hSw); go_split_ands; go_simp; try with_reducible rfl)
              try simp only [Act.put, List.setIfInBounds_toArray, List.set_cons_zero, List.set_cons_succ]
              refine wpAnyL_take (i := 1) (oi := { dst := some 61, op := Go.Op.load 25 (Go.Operand.tmp 60), type := 25, pos := "l2_mazes.go:367", after := #[{ on := 0, ground := Go.Ground.data }], guard := none }) (v := ?cv1) rfl (by kernel_rfl) (by kernel_rfl) (by kernel_rfl) (by kernel_rfl) (fun _ _ _ h => h) (Or.inl ⟨by rfl, ?ch1⟩) hS ?cr1
              case ch1 => (intro wS hSw; (try dsimp only at hSw); go_split_ands; go_simp; try with_reducible rfl)
              try simp only [Act.put, List.setIfInBounds_toArray, List.set_cons_zero, List.set_cons_succ]
              refine wpAnyL_take (i := 2) (oi := { dst := some 62, op := Go.Op.fieldAddr 27 (Go.Operand.tmp 2) 2, type := 0, pos := "l2_mazes.go:367", after := #[], guard := none }) (v := ?cv2) rfl (by kernel_rfl) (by kernel_rfl) (by kernel_rfl) (by kernel_rfl) (fun _ _ _ h => h) (Or.inl ⟨by rfl, ?ch2⟩) hS ?cr2
              case ch2 => (intro wS hSw; (try dsimp only at hSw); go_split_ands; go_simp; try with_reducible rfl)
              try simp only [Act.put, List.setIfInBounds_toArray, List.set_cons_zero, List.set_cons_succ]
              refine wpAnyL_take (i := 3) (oi := { dst := some 63, op := Go.Op.load 25 (Go.Operand.tmp 62), type := 25, pos := "l2_mazes.go:367", after := #[{ on := 2, ground := Go.Ground.data }], guard := none }) (v := ?cv3) rfl (by kernel_rfl) (by kernel_rfl) (by kernel_rfl) (by kernel_rfl) (fun _ _ _ h => h) (Or.inl ⟨by rfl, ?ch3⟩) hS ?cr3
              case ch3 => (intro wS hSw; (try dsimp only at hSw); go_split_ands; go_simp; try with_reducible rfl)
              try simp only [Act.put, List.setIfInBounds_toArray, List.set_cons_zero, List.set_cons_succ]
              refine wpAnyL_take (i := 4) (oi := { dst := some 64, op := Go.Op.move (Go.Operand.tmp 8), type := 3, pos := "l2_mazes.go:367", after := #[], guard := none }) (v := ?cv4) rfl (by kernel_rfl) (by kernel_rfl) (by kernel_rfl) (by kernel_rfl) (fun _ _ _ h => h) (Or.inl ⟨by rfl, ?ch4⟩) hS ?cr4
              case ch4 => (intro wS hSw; (try dsimp only at hSw); go_split_ands; go_simp; try with_reducible rfl)
              try simp only [Act.put, List.setIfInBounds_toArray, List.set_cons_zero, List.set_cons_succ]
              refine wpAnyL_take (i := 5) (oi := { dst := some 65, op := Go.Op.indexAddr 25 (Go.Operand.tmp 63) (Go.Operand.tmp 64), type := 0, pos := "l2_mazes.go:367", after := #[{ on := 3, ground := Go.Ground.data }, { on := 4, ground := Go.Ground.data }], guard := none }) (v := ?cv5) rfl (by kernel_rfl) (by kernel_rfl) (by kernel_rfl) (by kernel_rfl) (fun _ _ _ h => h) (Or.inl ⟨by rfl, ?ch5⟩) hS ?cr5
              case ch5 => (intro wS hSw; (try dsimp only at hSw); go_split_ands; go_simp; try with_reducible rfl)
              try simp only [Act.put, List.setIfInBounds_toArray, List.set_cons_zero, List.set_cons_succ]
              refine wpAnyL_take (i := 6) (oi := { dst := some 66, op := Go.Op.load 3 (Go.Operand.tmp 65), type := 3, pos := "l2_mazes.go:367", after := #[{ on := 5, ground := Go.Ground.data }], guard := none }) (v := ?cv6) rfl (by kernel_rfl) (by kernel_rfl) (by kernel_rfl) (by kernel_rfl) (fun _ _ _ h => h) (Or.inl ⟨by rfl, ?ch6⟩) hS ?cr6
              case ch6 => (intro wS hSw; (try dsimp only at hSw); go_split_ands; go_simp; try with_reducible rfl)
              try simp only [Act.put, List.setIfInBounds_toArray, List.set_cons_zero, List.set_cons_succ]
              refine wpAnyL_take (i := 7) (oi := { dst := some 67, op := Go.Op.move (Go.Operand.tmp 1), type := 25, pos := "l2_mazes.go:367", after := #[], guard := none }) (v := ?cv7) rfl (by kernel_rfl) (by kernel_rfl) (by kernel_rfl) (by kernel_rfl) (fun _ _ _ h => h) (Or.inl ⟨by rfl, ?ch7⟩) hS ?cr7
              case ch7 => (intro wS hSw; (try dsimp only at hSw); go_split_ands; go_simp; try with_reducible rfl)
              try simp only [Act.put, List.setIfInBounds_toArray, List.set_cons_zero, List.set_cons_succ]
              refine wpAnyL_one (i := 8) (oi := { dst := some 68, op := Go.Op.call { callee := Go.Callee.value (Go.Operand.func 78), args := #[Go.Operand.tmp 66, Go.Operand.tmp 67], argTypes := #[3, 25] }, type := 3, pos := "l2_mazes.go:367", after := #[{ on := 6, ground := Go.Ground.data }, { on := 7, ground := Go.Ground.data }], guard := none }) (by kernel_rfl) rfl (fun K0 hK0 => ?_)
              refine step_call (by rfl) 78 #[.int .i64 (nd : Int), .slice ta nt.length tc] (by go_simp; try rfl) (PN.out wr.drew (Below.refl wr.heap.size wr).drew) ?_
              rintro e w4 ⟨rfl, hb4⟩
              refine ⟨_, rfl, ?_⟩
              have hb4' : Below wr.heap.size wr w4 := (Below.refl wr.heap.size wr).drew.trans hb4
              have hs4 := hb4'.size
              have bx4 := BX.out.below hb4'
              have mx4 := ST2.out.box.below hb4'
              have yx4 := ST2.out.res.below hb4'
              have ko4 := own_below KO.out hb4'
              have hS4 : (fun wq => wq.cell? ⟨w.heap.size, 2, none⟩ = some (.slice (some ⟨kb, koff, none⟩) m.keys.length d) ∧ wq.cell? ⟨g, 2, none⟩ = some (.slice ka (M.rpKs m nt k).length kc) ∧ wq.cell? ⟨kb, koff + k, none⟩ = some (.int .i64 (nd : Int))) w4 := ⟨mx4.cells.2.2, bx4.cells.2.2, (hb4'.cell (p := ⟨kb, koff + k, none⟩) (show kb < _ by omega)).trans P0.out⟩
              refine hK0 _ _ (fun _ => hS4) ?_
              clear hS
              try simp only [Act.put, List.setIfInBounds_toArray, List.set_cons_zero, List.set_cons_succ]
              have hS6 : ∀ o, (fun wq => wq.cell? ⟨w.heap.size, 2, none⟩ = some (.slice (some ⟨kb, koff, none⟩) m.keys.length d) ∧ wq.cell? ⟨g, 2, none⟩ = some (.slice ka (M.rpKs m nt k).length kc) ∧ wq.cell? ⟨kb, koff + k, none⟩ = some (.int .i64 (nd : Int))) (w4.alloc o) := fun o => ⟨(mx4.alloc o).cells.2.2, (bx4.alloc o).cells.2.2, ((below_alloc w4 o).cell (p := ⟨kb, koff + k, none⟩) (show kb < _ by omega)).trans hS4.2.2⟩
              refine wpAnyL_one (i := 9) (oi := { dst := some 69, op := Go.Op.buildSlice 25 1 #[(0, Go.Operand.tmp 68)], type := 25, pos := "l2_mazes.go:367", after := #[{ on := 8, ground := Go.Ground.data }], guard := none }) (by kernel_rfl) rfl (fun K2 hK2 => ?_)
              go_simp
              refine hK2 _ _ (fun _ => hS6 _) ?_
              try simp only [List.setIfInBounds_toArray, List.set_cons_zero, List.set_cons_succ]
              refine wpAnyL_one (i := 10) (oi := { dst := some 70, op := Go.Op.call { callee := Go.Callee.builtin Go.Builtin.append, args := #[Go.Operand.tmp 61, Go.Operand.tmp 69], argTypes := #[25, 25] }, type := 25, pos := "l2_mazes.go:367", after := #[{ on := 1, ground := Go.Ground.data }, { on := 9, ground := Go.Ground.data }, { on := 8, ground := Go.Ground.chain }], guard := none }) (by kernel_rfl) rfl (fun K3 hK3 => ?_)
              refine step_append_own rfl (.tmp 61) (.tmp 69) 25 rfl B 3 i0 (.int .i64 0) 1 8 Try.underlying25 hi0 hz0 hz1 hz2 rfl (by decide) _ _ _ (ko4.alloc (.cells #[.int .i64 (M.paintF nt nd)] 3)) (by first | (simp [Act.eval]; done) | simp [Act.eval, Act.put]) ⟨w4.heap.size, 0, none⟩ 1 1 [.int .i64 (M.paintF nt nd)] (by first | (simp [Act.eval]; done) | simp [Act.eval, Act.put]) rfl (cell_one_new w4 _ _) (fun x hx => by simp at hx; subst hx; rfl) (by unfold maxLen; omega) (by omega) (by simp; omega) ?_
              intro v7 w7 hown7 hgrow7 hnil7
              obtain ⟨ka2, kc2, hv7, hw1, hw2, hw3⟩ := own_slice hown7
              subst hv7
              have bx7 := (bx4.alloc (.cells #[.int .i64 (M.paintF nt nd)] 3)).grown hgrow7 (own_ne_box ko4 bx4 (by decide))
              have mx7 := (mx4.alloc (.cells #[.int .i64 (M.paintF nt nd)] 3)).grown hgrow7 (own_ne_box ko4 mx4 (by decide))
              have yx7 := (yx4.alloc (.cells #[.int .i64 (M.paintF nt nd)] 3)).grown hgrow7 (own_ne_box ko4 yx4 (by decide))
              have hb7 : Below B wr w7 := ((hb4'.mono (by omega)).alloc (by omega) (.cells #[.int .i64 (M.paintF nt nd)] 3)).grown hgrow7 (by simp; omega) (own_base ko4)
              have hS : (fun wq => wq.cell? ⟨w.heap.size, 2, none⟩ = some (.slice (some ⟨kb, koff, none⟩) m.keys.length d) ∧ wq.cell? ⟨g, 2, none⟩ = some (.slice ka (M.rpKs m nt k).length kc) ∧ wq.cell? ⟨kb, koff + k, none⟩ = some (.int .i64 (nd : Int))) w7 := ⟨mx7.cells.2.2, bx7.cells.2.2, (hb7.cell (p := ⟨kb, koff + k, none⟩) (show kb < _ by omega)).trans P0.out⟩
              have pd7 := ni_grownRow ((PD.out.below hb4' (Nat.le_refl _)).below (below_alloc w4 (.cells #[.int .i64 (M.paintF nt nd)] 3)) (by omega)) (ko4.alloc (.cells #[.int .i64 (M.paintF nt nd)] 3)) (by decide) hgrow7
              refine hK3 _ _ (fun _ => hS) ?_
              try simp only [Act.put, List.setIfInBounds_toArray, List.set_cons_zero, List.set_cons_succ]
              refine wpAnyL_take (i := 11) (oi := { dst := some 71, op := Go.Op.fieldAddr 27 (Go.Operand.tmp 6) 2, type := 0, pos := "l2_mazes.go:367", after := #[{ on := 0, ground := Go.Ground.phase }, { on := 1, ground := Go.Ground.phase }, { on := 2, ground := Go.Ground.phase }, { on := 3, ground := Go.Ground.phase }, { on := 4, ground := Go.Ground.phase }, { on := 5, ground := Go.Ground.phase }, { on := 6, ground := Go.Ground.phase }, { on := 7, ground := Go.Ground.phase }, { on := 8, ground := Go.Ground.phase }, { on := 9, ground := Go.Ground.phase }, { on := 10, ground := Go.Ground.phase }], guard := none }) (v := ?dv11) rfl (by kernel_rfl) (by kernel_rfl) (by kernel_rfl) (by kernel_rfl) (fun _ _ _ h => h) (Or.inl ⟨by rfl, ?dh11⟩) hS ?dr11
              case dh11 => (intro wS hSw; (try dsimp only at hSw); go_split_ands; go_simp; try with_reducible rfl)
              try simp only [Act.put, List.setIfInBounds_toArray, List.set_cons_zero, List.set_cons_succ]
              obtain ⟨b0, b1, b2⟩ := bx7.cells
              obtain ⟨g0, g1, g2⟩ := bx7.free
              have hl7 := bx7.lt
              have hs7 := hgrow7.size
              have hnn2 : (M.rpKs m nt (k + 1)).length = (M.rpKs m nt k).length + 1 := by rw [HSU.out, List.length_append]; rfl
              have hnew : LSt w m a (some ⟨kb, koff, none⟩) c d g B (w7.setCell ⟨g, 2, none⟩ (.slice ka2 ((M.rpKs m nt k).length + 1) kc2)) (M.rpTo m nt m.doors.length) (M.rpKs m nt (k + 1)) :=
                ⟨⟨pa, pc, ka2, kc2, by rw [hnn2]; exact bx7.set2 _, (pd7.boxed bx7 (by decide) 2 _).mono (Nat.le_refl _) (by simp [World.setCell] at hs7 ⊢; omega), hp1, hp2, by rw [hnn2, HSU.out, M.encIs_append]; refine own_setBox ?_ bx7 (by decide) 2 _; rw [HND.out]; exact hown7⟩, mx7.other hgne 2 _, yx7.other hrne 2 _,
                 (((ST2.out.below.trans (hb4'.mono (by omega))).alloc (by omega) (.cells #[.int .i64 (M.paintF nt nd)] 3)).grown hgrow7 (by simp; omega) (fun q hq => by have := own_base ko4 q hq; omega)).setCell (p := ⟨g, 2, none⟩) (by show w.heap.size ≤ g; omega) _⟩
              have HNEW := Lib.hid hnew
              clear hnew bx4 mx4 yx4 ko4 bx7 mx7 yx7 hS4 hS6 hS hown7 hgrow7 hnil7 pd7 hw3
              refine wpAnyL_one (i := 12) (oi := { dst := none, op := Go.Op.store 25 (Go.Operand.tmp 71) (Go.Operand.tmp 70), type := 0, pos := "l2_mazes.go:367", after := #[{ on := 11, ground := Go.Ground.data }, { on := 10, ground := Go.Ground.data }, { on := 10, ground := Go.Ground.chain }, { on := 0, ground := Go.Ground.phase }, { on := 1, ground := Go.Ground.phase }, { on := 2, ground := Go.Ground.phase }, { on := 3, ground := Go.Ground.phase }, { on := 4, ground := Go.Ground.phase }, { on := 5, ground := Go.Ground.phase }, { on := 6, ground := Go.Ground.phase }, { on := 7, ground := Go.Ground.phase }, { on := 8, ground := Go.Ground.phase }, { on := 9, ground := Go.Ground.phase }, { on := 10, ground := Go.Ground.phase }], guard := none }) (by kernel_rfl) rfl (fun K4 hK4 => ?_)
              go_simp
              refine hK4 _ _ (fun h => absurd h (by decide)) ?_
              refine wpAnyL_done (by kernel_rfl) ?_ _
              all_goals
                go_wp2_with fail
                go_roundw
                case rel => exact ⟨k + 1, by omega, by go_num, HNEW.out⟩
                case measure => simp [intOf]; omega
            · obtain rfl : k = m.keys.length := by omega
              have hnlt : ¬ (m.keys.length : Int) < m.size := by omega
              obtain ⟨b0, b1, b2⟩ := BX.out.cells
              obtain ⟨k0, k1, k2⟩ := ST2.out.res.cells
              obtain ⟨f0, f1, f2⟩ := ST2.out.res.free
              have hyl := ST2.out.res.lt
              have hkd : M.rpKs m nt m.keys.length = (M.rpOf m nt).keys := M.rpKs_all m nt
              have hdd : M.rpTo m nt m.doors.length = (M.rpOf m nt).doors := M.rpTo_all HVA.out HO.out
              have hmo : MzOwn B wr.heap.size wr (M.rpOf m nt) pa pc ka kc := by
                obtain ⟨i1, i2, i3, i4, i5, i6⟩ := own_slice KO.out
                injection i3 with j1 j2 j3
                subst j1; subst j3
                exact ⟨by rw [← hdd]; exact PD.out, by rw [← hkd]; exact i6, by rw [← hdd]; exact hp1, hp2, by rw [← hkd]; exact i4, i5⟩
              have HMO := Lib.hid hmo
              have HDD := Lib.hid hdd
              have HKD := Lib.hid hkd
              clear hmo hrow hdd hkd
              go_wp2_with fail
              refine bodyPost_ret (v := .tuple #[.agg #[.int .i64 m.size, .slice pa (M.rpTo m nt m.doors.length).length pc, .slice ka (M.rpKs m nt m.keys.length).length kc], .bool true]) (by simp [results, Try.results37, go_sem, k0, k1, k2]) rfl ?_
              rw [HF.out, HV.out]
              exact mzYes_end (m := M.rpOf m nt) ST2.out.below HMO.out (by omega) (Nat.le_refl _) (by rw [HDD.out]) (by rw [HKD.out])
end C
end Go.Proofs.Ytmccpjdgnenmeaa
