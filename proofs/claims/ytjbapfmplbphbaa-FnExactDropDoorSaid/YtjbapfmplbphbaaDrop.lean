/-
  CONTRACTS of DropDoor on both sides: the maze without one of its doors, in memory of its own, or the empty one and false; what lay in memory stays. No condition but that the maze reads so.
-/
import Derived.Test.YtjbapfmplbphbaaDel
import Derived.Test.YtjbapfmplbphbaaAdd
namespace Go.Proofs.Ytjbapfmplbphbaa
open Go.RowKit
namespace M
def placeB (m : Mz) (k : Int) : Bool := decide (0 ≤ k ∧ k < m.doors.length)
def dropB (m : Mz) (k : Int) : Bool := mazeB m && placeB m k
def without (m : Mz) (k : Nat) : Mz := ⟨m.size, m.doors.take k ++ m.doors.drop (k + 1), m.keys⟩
def dropV (m : Mz) (k : Int) : Mz := if dropB m k then without m k.toNat else C.mz0
theorem dropV_yes {m : Mz} {k : Int} (h : dropB m k = true) : dropV m k = without m k.toNat := by unfold dropV; rw [if_pos h]
theorem dropV_no {m : Mz} {k : Int} (h : dropB m k = false) : dropV m k = C.mz0 := by unfold dropV; rw [h]; rfl
theorem without_len {m : Mz} {k : Nat} (hk : k < m.doors.length) : (without m k).doors.length = m.doors.length - 1 := by
  show (m.doors.take k ++ m.doors.drop (k + 1)).length = _
  rw [List.length_append, List.length_take, List.length_drop]; omega
theorem dropV_len (m : Mz) (k : Int) : (dropV m k).doors.length ≤ 1048576 ∧ (dropV m k).keys.length ≤ 1048576 := by
  unfold dropV
  split
  · rename_i h
    unfold dropB placeB at h
    rw [Bool.and_eq_true, decide_eq_true_iff] at h
    have V := valid_of h.1
    have h1 := V.few
    have h2 := V.keysLen
    have h3 := V.size12
    have h4 := without_len (m := m) (k := k.toNat) (by omega)
    have h5 : (without m k.toNat).keys.length = m.keys.length := rfl
    omega
  · simp [C.mz0]
end M
namespace C
set_option maxHeartbeats 16000000
set_option maxRecDepth 20000
theorem OwnAt.boxed {lo hi : Nat} {w : World} {T S : TypeId} {a : Option Addr} {xs : List Value} {g : Nat} {x y z : Value} (h : OwnAt lo hi w T a xs) (hb : Box3 w g S x y z) (hne : T ≠ S) (i : Nat) (u : Value) : OwnAt lo hi (w.setCell ⟨g, i, none⟩ u) T a xs := by
  rcases h with h | ⟨b, off, cur, ha, h1, h2, hh, hc⟩
  · exact .inl h
  · refine .inr ⟨b, off, cur, ha, h1, h2, ?_, hc⟩
    rw [Below.heap_setCell w ⟨g, i, none⟩ u b (by
      rintro rfl
      have hb' : w.heap[b]? = some (.cells #[x, y, z] S (0, 0)) := hb
      rw [hh] at hb'
      injection hb' with e
      injection e with _ e2
      exact hne e2)]
    exact hh
theorem implDrop_lw (w : World) (lo hi : Nat) (m : M.Mz) (a b : Option Addr) (c d : Nat) (h : MzIn lo hi w m a c b d) (hz : hi ≤ w.heap.size) (_h1 : m.doors.length ≤ 1048576) (_h2 : m.keys.length ≤ 1048576) (x : Int) (_x1 : -9223372036854775808 ≤ x) (_x2 : x ≤ 9223372036854775807) :
    Calls Try.prog 40 #[.agg #[.int .i64 m.size, .slice a m.doors.length c, .slice b m.keys.length d], .int .i64 x] w (MzOkPost w (M.dropV m x) (M.dropB m x)) := by
  obtain ⟨i0, hi0, hz0, hz1, hz2⟩ := info_parts infoD
  have H := Lib.hid h
  clear h
  go_enter Try.func40, Try.ntmps40
  go_wp2_with fail
  refine named ?_
  intro W hW
  have hb : Below w.heap.size w W := by rw [hW]; exact (below_alloc _ _).alloc (by simp) _
  have x1 : Box3 W w.heap.size 29 (.int .i64 m.size) (.slice a m.doors.length c) (.slice b m.keys.length d) := by rw [hW]; exact (Box3.new _ _ _ _ rfl).alloc _
  have y1 : Box3 W (w.heap.size + 1) 29 (.int .i64 0) (.slice none 0 0) (.slice none 0 0) := by rw [hW]; exact Box3.new _ _ _ _ (by simp)
  clear hW
  have hzw := hb.size
  refine (isMaze_any W lo hi m a b c d (H.out.below hb hz) (by omega)).mono ?_
  rintro e w1 ⟨rfl, hb1⟩
  have X1 := Lib.hid (x1.below hb1)
  have Y1 := Lib.hid (y1.below hb1)
  have hbl := Y1.out.lt
  have hbl0 := X1.out.lt
  have HB1 := Lib.hid (hb.trans (hb1.mono hzw))
  have hz1w := hb1.size
  clear hb hb1 x1 y1
  obtain ⟨c0, c1, c2⟩ := X1.out.cells
  obtain ⟨k0, k1, k2⟩ := Y1.out.cells
  obtain ⟨f0, f1, f2⟩ := Y1.out.free
  cases q0 : M.mazeB m with
  | false =>
    have HF : Hid (M.dropB m x = false) := Lib.hid (by unfold M.dropB; rw [q0]; rfl)
    have HV := Lib.hid (M.dropV_no HF.out)
    clear q0
    go_wp2_with fail
    refine bodyPost_ret (v := .tuple #[.agg #[.int .i64 0, .slice none 0 0, .slice none 0 0], .bool false]) (by simp [results, Try.results40, go_sem, k0, k1, k2]) rfl ?_
    rw [HF.out, HV.out]
    exact mzNo_end HB1.out
  | true =>
    have HM := Lib.hid q0
    have HVA := Lib.hid (M.valid_of q0)
    have hdl := HVA.out.few
    have hkl := HVA.out.keysLen
    have hs12 := HVA.out.size12
    clear q0
    rcases Decidable.em (0 ≤ x) with hx0 | hx0
    · rcases Decidable.em (x < m.doors.length) with hx1 | hx1
      · have HF : Hid (M.dropB m x = true) := Lib.hid (by unfold M.dropB M.placeB; rw [HM.out, decide_eq_true ⟨hx0, hx1⟩]; rfl)
        have HV := Lib.hid (M.dropV_yes HF.out)
        obtain ⟨k, rfl⟩ : ∃ k : Nat, x = (k : Int) := ⟨x.toNat, by omega⟩
        have hkl' : k < m.doors.length := by omega
        go_wp2_with fail
        refine (clone_any w1 lo hi m a b c d (H.out.below HB1.out hz) (by omega) (by omega) (by omega)).mono ?_
        rintro e w3 ⟨ca, cc, cb, cd, rfl, ho, hb3⟩
        have hz3 := hb3.size
        have Y3 := Lib.hid (Y1.out.below hb3)
        have HB3 := Lib.hid (HB1.out.trans (hb3.mono (by omega)))
        have HO3 := Lib.hid ho
        have hy3 := Y3.out.lt
        clear hb3 ho c0 c1 c2 k0 k1 k2 f0 f1 f2
        go_wp2_with fail
        refine named ?_
        intro W4 hW4
        have hb4 : Below w3.heap.size w3 W4 := by rw [hW4]; exact below_alloc _ _
        have t4 : Box3 W4 w3.heap.size 29 (.int .i64 m.size) (.slice ca m.doors.length cc) (.slice cb m.keys.length cd) := by rw [hW4]; exact Box3.new _ _ _ _ rfl
        clear hW4
        have hz4 := hb4.size
        have HO4 := HO3.out.below hb4 (Nat.le_refl _)
        have Y4 := Y3.out.below hb4
        have HB4 := Lib.hid (HB3.out.trans (hb4.mono (by omega)))
        have hc1 := HO4.c1
        have hc2 := HO4.c2
        have hd1 := HO4.d1
        have hd2 := HO4.d2
        obtain ⟨g, off, hca, hg1, hg2, _⟩ := HO4.doors.row.at_ (k := 0) (by rw [M.encDs_len]; omega)
        subst hca
        obtain ⟨g9, n9, t9, q9, v9⟩ := HO4.doors.narrow
        refine (delete_any W4 g9 (g9 + 1) g off cc m.doors k hkl' n9 (by omega) hc1 hc2).mono ?_
        rintro e w5 ⟨rfl, od, ht⟩
        have hT := t9 _ ht
        have hkk := HO4.keys.other ht (fun cur V f hf => by rw [v9 _ _ _ hf]; decide)
        have hg9 : g9 = g := by
          rcases n9 with e | ⟨gg, oo, cur, e, p1, p2, _⟩
          · have := M.encDs_len m.doors; rw [e] at this; simp at this; omega
          · injection e with e; injection e with e1 _ _; omega
        have T5 := Lib.hid (t4.turned hT (.inr (Nat.le_refl _)))
        have Y5 := Lib.hid (Y4.turned hT (.inl (by omega)))
        have hz5 := hT.size
        have HB5 := Lib.hid (Below.thenTurned HB4.out hT (by omega) (by omega))
        have hod : OwnAt w1.heap.size w3.heap.size w5 59 (some ⟨g, off, none⟩) (M.encDs (M.without m k).doors) := od.mono (by omega) (by omega)
        have OD := Lib.hid hod
        have OK := Lib.hid hkk
        clear hb4 t4 HO4 Y4 n9 t9 q9 v9 od ht hT hkk hod
        obtain ⟨c0, c1, c2⟩ := T5.out.cells
        obtain ⟨g0, g1, g2⟩ := T5.out.free
        have htl := T5.out.lt
        have hyn : w.heap.size + 1 ≠ w3.heap.size := by omega
        obtain ⟨r0, r1, r2⟩ := (T5.out.set1 (.slice (some ⟨g, off, none⟩) (m.doors.length - 1) cc)).cells
        obtain ⟨k0, k1, k2⟩ := (Y5.out.other hyn 1 (.slice (some ⟨g, off, none⟩) (m.doors.length - 1) cc)).cells
        obtain ⟨f0, f1, f2⟩ := (Y5.out.other hyn 1 (.slice (some ⟨g, off, none⟩) (m.doors.length - 1) cc)).free
        have hyl : w.heap.size + 1 < (w5.setCell ⟨w3.heap.size, 1, none⟩ (.slice (some ⟨g, off, none⟩) (m.doors.length - 1) cc)).heap.size := (Y5.out.other hyn 1 (.slice (some ⟨g, off, none⟩) (m.doors.length - 1) cc)).lt
        have hmo : MzOwn w1.heap.size w3.heap.size (w5.setCell ⟨w3.heap.size, 1, none⟩ (.slice (some ⟨g, off, none⟩) (m.doors.length - 1) cc)) (M.without m k) (some ⟨g, off, none⟩) cc cb cd :=
          ⟨OD.out.boxed T5.out (by decide) 1 _, OK.out.boxed T5.out (by decide) 1 _, by rw [M.without_len hkl']; omega, hc2, hd1, hd2⟩
        have HMO := Lib.hid hmo
        have BB := Lib.hid (HB5.out.setCell (p := ⟨w3.heap.size, 1, none⟩) (by show w.heap.size ≤ w3.heap.size; omega) (.slice (some ⟨g, off, none⟩) (m.doors.length - 1) cc))
        clear hmo
        go_wp2_with fail
        refine bodyPost_ret (v := .tuple #[.agg #[.int .i64 m.size, .slice (some ⟨g, off, none⟩) (m.doors.length - 1) cc, .slice cb m.keys.length cd], .bool true]) (by simp [results, Try.results40, go_sem, k0, k1, k2]) rfl ?_
        rw [HF.out, HV.out]
        exact mzYes_end (m := M.without m (k : Int).toNat) BB.out (by simpa using HMO.out) (by omega) (by simp [World.setCell]; omega) (M.without_len hkl') rfl
      · have HF : Hid (M.dropB m x = false) := Lib.hid (by unfold M.dropB M.placeB; rw [decide_eq_false (fun h => hx1 h.2), Bool.and_false])
        have HV := Lib.hid (M.dropV_no HF.out)
        go_wp2_with fail
        refine bodyPost_ret (v := .tuple #[.agg #[.int .i64 0, .slice none 0 0, .slice none 0 0], .bool false]) (by simp [results, Try.results40, go_sem, k0, k1, k2]) rfl ?_
        rw [HF.out, HV.out]
        exact mzNo_end HB1.out
    · have HF : Hid (M.dropB m x = false) := Lib.hid (by unfold M.dropB M.placeB; rw [decide_eq_false (fun h => hx0 h.1), Bool.and_false])
      have HV := Lib.hid (M.dropV_no HF.out)
      have hxn : x < 0 := by omega
      go_wp2_with fail
      refine bodyPost_ret (v := .tuple #[.agg #[.int .i64 0, .slice none 0 0, .slice none 0 0], .bool false]) (by simp [results, Try.results40, go_sem, k0, k1, k2]) rfl ?_
      rw [HF.out, HV.out]
      exact mzNo_end HB1.out
end C
end Go.Proofs.Ytjbapfmplbphbaa
