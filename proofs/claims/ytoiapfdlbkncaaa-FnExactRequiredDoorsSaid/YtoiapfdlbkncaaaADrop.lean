/-
  CONTRACTS of DropDoor on both sides: the maze without one of its doors, in memory of its own, or the empty one and false; what lay in memory stays. No condition but that the maze reads so.
  CONTRACTS of the model's l3Door and RequiredDoors; what lay in memory stays. No condition but that the maze reads so.
  CONTRACTS of RequiredDoors on both sides; what lay in memory stays. No condition but that the maze reads so.
-/
import Derived.Test.YtoiapfdlbkncaaaDel
import Derived.Test.YtoiapfdlbkncaaaStep
import Derived.Test.YtoiapfdlbkncaaaOwnMaz3
import Derived.Test.YtoiapfdlbkncaaaDoorsAt
import Derived.Test.YtoiapfdlbkncaaaMzEnd
import Derived.Test.YtoiapfdlbkncaaaMzAt
import Derived.Test.YtoiapfdlbkncaaaAReq
import Derived.Deep.RegionHeld3
import Derived.Deep.RegionLaw
namespace Go.Proofs.Ytoiapfdlbkncaaa
open Go.RowKit
namespace M
def placeB (m : Mz) (k : Int) : Bool := decide (0 ≤ k ∧ k < m.doors.length)
def dropB (m : Mz) (k : Int) : Bool := mazeB m && placeB m k
def without (m : Mz) (k : Nat) : Mz := ⟨m.size, m.doors.take k ++ m.doors.drop (k + 1), m.keys⟩
def dropV (m : Mz) (k : Int) : Mz := if dropB m k then without m k.toNat else C.mz0
theorem dropV_yes {m : Mz} {k : Int} (h : dropB m k = true) : dropV m k = without m k.toNat := by unfold dropV; rw [if_pos h]
theorem dropV_no {m : Mz} {k : Int} (h : dropB m k = false) : dropV m k = C.mz0 := by unfold dropV; rw [h]; rfl
theorem without_len {m : Mz} {k : Nat} (hk : k < m.doors.length) : (without m k).doors.length = m.doors.length - 1 := by
  show (m.doors.take k ++ m.doors.drop (k + 1)).length = _
  rw [List.length_append, List.length_take, List.length_drop]; omega
theorem dropV_len (m : Mz) (k : Int) : (dropV m k).doors.length ≤ 1048576 ∧ (dropV m k).keys.length ≤ 1048576 := by
  unfold dropV
  split
  · rename_i h
    unfold dropB placeB at h
    rw [Bool.and_eq_true, decide_eq_true_iff] at h
    have V := valid_of h.1
    have h1 := V.few
    have h2 := V.keysLen
    have h3 := V.size12
    have h4 := without_len (m := m) (k := k.toNat) (by omega)
    have h5 : (without m k.toNat).keys.length = m.keys.length := rfl
    omega
  · simp [C.mz0]
end M
namespace C
set_option maxHeartbeats 16000000
set_option maxRecDepth 20000
theorem implDrop_lw (w : World) (lo hi : Nat) (m : M.Mz) (a b : Option Addr) (c d : Nat) (h : MzIn lo hi w m a c b d) (hz : hi ≤ w.heap.size) (_h1 : m.doors.length ≤ 1048576) (_h2 : m.keys.length ≤ 1048576) (x : Int) (_x1 : -9223372036854775808 ≤ x) (_x2 : x ≤ 9223372036854775807) :
    Calls Try.prog 89 #[.agg #[.int .i64 m.size, .slice a m.doors.length c, .slice b m.keys.length d], .int .i64 x] w (MzOkPost w (M.dropV m x) (M.dropB m x)) := by
  obtain ⟨i0, hi0, hz0, hz1, hz2⟩ := info_parts infoD
  have H := Lib.hid h
  clear h
  go_enter Try.func89, Try.ntmps89
  go_wp2_with fail
  refine named ?_
  intro W hW
  have hb : Below w.heap.size w W := by rw [hW]; exact (below_alloc _ _).alloc (by simp) _
  have x1 : Box3 W w.heap.size 29 (.int .i64 m.size) (.slice a m.doors.length c) (.slice b m.keys.length d) := by rw [hW]; exact (Box3.new _ _ _ _ rfl).alloc _
  have y1 : Box3 W (w.heap.size + 1) 29 (.int .i64 0) (.slice none 0 0) (.slice none 0 0) := by rw [hW]; exact Box3.new _ _ _ _ (by simp)
  clear hW
  have hzw := hb.size
  refine (isMaze_any W lo hi m a b c d (H.out.below hb hz) (by omega)).mono ?_
  rintro e w1 ⟨rfl, hb1⟩
  have X1 := Lib.hid (x1.below hb1)
  have Y1 := Lib.hid (y1.below hb1)
  have hbl := Y1.out.lt
  have hbl0 := X1.out.lt
  have HB1 := Lib.hid (hb.trans (hb1.mono hzw))
  have hz1w := hb1.size
  clear hb hb1 x1 y1
  obtain ⟨c0, c1, c2⟩ := X1.out.cells
  obtain ⟨k0, k1, k2⟩ := Y1.out.cells
  obtain ⟨f0, f1, f2⟩ := Y1.out.free
  cases q0 : M.mazeB m with
  | false =>
    have HF : Hid (M.dropB m x = false) := Lib.hid (by unfold M.dropB; rw [q0]; rfl)
    have HV := Lib.hid (M.dropV_no HF.out)
    clear q0
    go_wp2_with fail
    refine bodyPost_ret (v := .tuple #[.agg #[.int .i64 0, .slice none 0 0, .slice none 0 0], .bool false]) (by simp [results, Try.results89, go_sem, k0, k1, k2]) rfl ?_
    rw [HF.out, HV.out]
    exact mzNo_end HB1.out
  | true =>
    have HM := Lib.hid q0
    have HVA := Lib.hid (M.valid_of q0)
    have hdl := HVA.out.few
    have hkl := HVA.out.keysLen
    have hs12 := HVA.out.size12
    clear q0
    rcases Decidable.em (0 ≤ x) with hx0 | hx0
    · rcases Decidable.em (x < m.doors.length) with hx1 | hx1
      · have HF : Hid (M.dropB m x = true) := Lib.hid (by unfold M.dropB M.placeB; rw [HM.out, decide_eq_true ⟨hx0, hx1⟩]; rfl)
        have HV := Lib.hid (M.dropV_yes HF.out)
        obtain ⟨k, rfl⟩ : ∃ k : Nat, x = (k : Int) := ⟨x.toNat, by omega⟩
        have hkl' : k < m.doors.length := by omega
        go_wp2_with fail
        refine (clone_any w1 lo hi m a b c d (H.out.below HB1.out hz) (by omega) (by omega) (by omega)).mono ?_
        rintro e w3 ⟨ca, cc, cb, cd, rfl, ho, hb3⟩
        have hz3 := hb3.size
        have Y3 := Lib.hid (Y1.out.below hb3)
        have HB3 := Lib.hid (HB1.out.trans (hb3.mono (by omega)))
        have HO3 := Lib.hid ho
        have hy3 := Y3.out.lt
        clear hb3 ho c0 c1 c2 k0 k1 k2 f0 f1 f2
        go_wp2_with fail
        refine named ?_
        intro W4 hW4
        have hb4 : Below w3.heap.size w3 W4 := by rw [hW4]; exact below_alloc _ _
        have t4 : Box3 W4 w3.heap.size 29 (.int .i64 m.size) (.slice ca m.doors.length cc) (.slice cb m.keys.length cd) := by rw [hW4]; exact Box3.new _ _ _ _ rfl
        clear hW4
        have hz4 := hb4.size
        have HO4 := HO3.out.below hb4 (Nat.le_refl _)
        have Y4 := Y3.out.below hb4
        have HB4 := Lib.hid (HB3.out.trans (hb4.mono (by omega)))
        have hc1 := HO4.c1
        have hc2 := HO4.c2
        have hd1 := HO4.d1
        have hd2 := HO4.d2
        obtain ⟨g, off, hca, hg1, hg2, _⟩ := HO4.doors.row.at_ (k := 0) (by rw [M.encDs_len]; omega)
        subst hca
        obtain ⟨g9, n9, t9, q9, v9⟩ := HO4.doors.narrow
        refine (delete_any W4 g9 (g9 + 1) g off cc m.doors k hkl' n9 (by omega) hc1 hc2).mono ?_
        rintro e w5 ⟨rfl, od, ht⟩
        have hT := t9 _ ht
        have hkk := HO4.keys.other ht (fun cur V f hf => by rw [v9 _ _ _ hf]; decide)
        have hg9 : g9 = g := by
          rcases n9 with e | ⟨gg, oo, cur, e, p1, p2, _⟩
          · have := M.encDs_len m.doors; rw [e] at this; simp at this; omega
          · injection e with e; injection e with e1 _ _; omega
        have T5 := Lib.hid (t4.turned hT (.inr (Nat.le_refl _)))
        have Y5 := Lib.hid (Y4.turned hT (.inl (by omega)))
        have hz5 := hT.size
        have HB5 := Lib.hid (Below.thenTurned HB4.out hT (by omega) (by omega))
        have hod : OwnAt w1.heap.size w3.heap.size w5 81 (some ⟨g, off, none⟩) (M.encDs (M.without m k).doors) := od.mono (by omega) (by omega)
        have OD := Lib.hid hod
        have OK := Lib.hid hkk
        clear hb4 t4 HO4 Y4 n9 t9 q9 v9 od ht hT hkk hod
        obtain ⟨c0, c1, c2⟩ := T5.out.cells
        obtain ⟨g0, g1, g2⟩ := T5.out.free
        have htl := T5.out.lt
        have hyn : w.heap.size + 1 ≠ w3.heap.size := by omega
        obtain ⟨r0, r1, r2⟩ := (T5.out.set1 (.slice (some ⟨g, off, none⟩) (m.doors.length - 1) cc)).cells
        obtain ⟨k0, k1, k2⟩ := (Y5.out.other hyn 1 (.slice (some ⟨g, off, none⟩) (m.doors.length - 1) cc)).cells
        obtain ⟨f0, f1, f2⟩ := (Y5.out.other hyn 1 (.slice (some ⟨g, off, none⟩) (m.doors.length - 1) cc)).free
        have hyl : w.heap.size + 1 < (w5.setCell ⟨w3.heap.size, 1, none⟩ (.slice (some ⟨g, off, none⟩) (m.doors.length - 1) cc)).heap.size := (Y5.out.other hyn 1 (.slice (some ⟨g, off, none⟩) (m.doors.length - 1) cc)).lt
        have hmo : MzOwn w1.heap.size w3.heap.size (w5.setCell ⟨w3.heap.size, 1, none⟩ (.slice (some ⟨g, off, none⟩) (m.doors.length - 1) cc)) (M.without m k) (some ⟨g, off, none⟩) cc cb cd :=
          ⟨OD.out.boxed T5.out (by decide) 1 _, OK.out.boxed T5.out (by decide) 1 _, by rw [M.without_len hkl']; omega, hc2, hd1, hd2⟩
        have HMO := Lib.hid hmo
        have BB := Lib.hid (HB5.out.setCell (p := ⟨w3.heap.size, 1, none⟩) (by show w.heap.size ≤ w3.heap.size; omega) (.slice (some ⟨g, off, none⟩) (m.doors.length - 1) cc))
        clear hmo
        go_wp2_with fail
        refine bodyPost_ret (v := .tuple #[.agg #[.int .i64 m.size, .slice (some ⟨g, off, none⟩) (m.doors.length - 1) cc, .slice cb m.keys.length cd], .bool true]) (by simp [results, Try.results89, go_sem, k0, k1, k2]) rfl ?_
        rw [HF.out, HV.out]
        exact mzYes_end (m := M.without m (k : Int).toNat) BB.out (by simpa using HMO.out) (by omega) (by simp [World.setCell]; omega) (M.without_len hkl') rfl
      · have HF : Hid (M.dropB m x = false) := Lib.hid (by unfold M.dropB M.placeB; rw [decide_eq_false (fun h => hx1 h.2), Bool.and_false])
        have HV := Lib.hid (M.dropV_no HF.out)
        go_wp2_with fail
        refine bodyPost_ret (v := .tuple #[.agg #[.int .i64 0, .slice none 0 0, .slice none 0 0], .bool false]) (by simp [results, Try.results89, go_sem, k0, k1, k2]) rfl ?_
        rw [HF.out, HV.out]
        exact mzNo_end HB1.out
    · have HF : Hid (M.dropB m x = false) := Lib.hid (by unfold M.dropB M.placeB; rw [decide_eq_false (fun h => hx0 h.1), Bool.and_false])
      have HV := Lib.hid (M.dropV_no HF.out)
      have hxn : x < 0 := by omega
      go_wp2_with fail
      refine bodyPost_ret (v := .tuple #[.agg #[.int .i64 0, .slice none 0 0, .slice none 0 0], .bool false]) (by simp [results, Try.results89, go_sem, k0, k1, k2]) rfl ?_
      rw [HF.out, HV.out]
      exact mzNo_end HB1.out
end C
end Go.Proofs.Ytoiapfdlbkncaaa
namespace Go.Proofs.Ytoiapfdlbkncaaa
open Go.RowKit
namespace C
set_option maxHeartbeats 32000000
set_option maxRecDepth 20000
theorem l3Door_any (w : World) (lo hi : Nat) (m : M.Mz) (a b : Option Addr) (c d : Nat) (h : MzIn lo hi w m a c b d) (hz : hi ≤ w.heap.size) (h1 : m.doors.length ≤ 1048576) (h2 : m.keys.length ≤ 1048576) (k : Nat) (hkl' : k < m.doors.length) :
    Calls Try.prog 88 #[.agg #[.int .i64 m.size, .slice a m.doors.length c, .slice b m.keys.length d], .int .i64 (k : Int)] w (MzPost w (M.without m k)) := by
  obtain ⟨i0, hi0, hz0, hz1, hz2⟩ := info_parts infoD
  have H := Lib.hid h
  clear h
  go_enter Try.func88, Try.ntmps88
  go_wp2_with fail
  refine named ?_
  intro W hW
  have hb : Below w.heap.size w W := by rw [hW]; exact (below_alloc _ _).alloc (by simp) _
  have x1 : Box3 W w.heap.size 29 (.int .i64 m.size) (.slice a m.doors.length c) (.slice b m.keys.length d) := by rw [hW]; exact (Box3.new _ _ _ _ rfl).alloc _
  have y1 : Box3 W (w.heap.size + 1) 29 (.int .i64 0) (.slice none 0 0) (.slice none 0 0) := by rw [hW]; exact Box3.new _ _ _ _ (by simp)
  clear hW
  have hzw := hb.size
  refine (l2Own_any W lo hi m a b c d (H.out.below hb hz) (by omega) h1 h2).mono ?_
  rintro e w3 ⟨ca, cc, cb, cd, rfl, ho, hb3⟩
  have hz3 := hb3.size
  have X3 := Lib.hid (x1.below hb3)
  have Y3 := Lib.hid (y1.below hb3)
  have HB3 := Lib.hid (hb.trans (hb3.mono hzw))
  have hwl := y1.lt
  have HO3 := Lib.hid ho
  have hy3 := Y3.out.lt
  clear hb hb3 ho x1 y1
  have hc1 := H.out.c1
  have hc2 := H.out.c2
  obtain ⟨bb, off, hca, _, hgb, hcc⟩ := H.out.doors.at_ (k := 0) (by rw [M.encDs_len]; omega)
  subst hca
  have hbw : bb < w.heap.size := by omega
  have HC := Lib.hid (fun W' (hq : Below w.heap.size w W') j u hu => (hq.cell (p := ⟨bb, off + j, none⟩) hbw).trans (hcc j u hu))
  clear hcc
  obtain ⟨c0, c1, c2⟩ := X3.out.cells
  go_wp2_with fail
  refine wp_named ?_
  intro V4 hV4
  have hb4 : Below w3.heap.size w3 V4 := by rw [hV4]; exact below_alloc _ _
  have t4 : Box3 V4 w3.heap.size 29 (.int .i64 m.size) (.slice ca m.doors.length cc) (.slice cb m.keys.length cd) := by rw [hV4]; exact Box3.new _ _ _ _ rfl
  clear hV4 c0 c1 c2
  have hzW := hb4.size
  have TW := Lib.hid t4
  have XW := Lib.hid (X3.out.below hb4)
  have YW := Lib.hid (Y3.out.below hb4)
  have HBW := Lib.hid (HB3.out.trans (hb4.mono (by omega)))
  have HO4 := Lib.hid (HO3.out.below hb4 (Nat.le_refl _))
  have htw := t4.lt
  clear hb4 t4
  obtain ⟨d0, d1, d2⟩ := XW.out.cells
  have hxn : w.heap.size ≠ w3.heap.size := by omega
  have hyn : w.heap.size + 1 ≠ w3.heap.size := by omega
  have hxl := XW.out.lt
  have hkc : k ≤ c := by omega
  have hkc1 : k + 1 ≤ c := by omega
  have hb0 : (0 : Int) ≤ (k : Int) + 1 := by omega
  have hb9' : (k : Int) + 1 ≤ (m.doors.length : Int) := by omega
  have hlk : k + (m.doors.length - (k + 1)) = m.doors.length - 1 := by omega
  have hdrew : V4.drew.heap.size = V4.heap.size := rfl
  have hwr : IntKind.i64.wrap ((k : Int) + 1) = (k : Int) + 1 := IntWalk.i64_in _ (by omega)
  rcases Decidable.em (c = k + 1) with hck0 | hck0
  all_goals have HCK := Lib.hid hck0
  all_goals clear hck0
  all_goals go_region_held3 (fun wq => wq.cell? ⟨w.heap.size, 0, none⟩ = some (.int .i64 m.size) ∧ wq.cell? ⟨w.heap.size, 1, none⟩ = some (.slice (some ⟨bb, off, none⟩) m.doors.length c) ∧ wq.cell? ⟨w.heap.size, 2, none⟩ = some (.slice b m.keys.length d)) (first | exact ⟨d0, d1, d2⟩ | exact ⟨e0, e1, e2⟩ | go_keep) (first
    | (have hcg : ¬ c = k + 1 := HCK.out; clear hcg; refine step_append_own rfl (.tmp 13) (.tmp 18) 22 rfl V4.heap.size 81 i0 (.agg #[.int .i64 0, .int .i64 0, .int .i64 0]) 3 24 Try.underlying22 hi0 hz0 hz1 hz2 rfl (by decide) _ _ _ o8 (by first | (simp [Act.eval]; done) | simp [Act.eval, Act.put]) ⟨bb, off + (k + 1) * 3, none⟩ (m.doors.length - (k + 1)) (c - (k + 1)) (M.encDs (m.doors.drop (k + 1))) (by first | (simp [Act.eval, HCK.out]; done) | simp [Act.eval, Act.put, HCK.out]) (by rw [M.encDs_len, List.length_drop]) (news_drop (HC.out _ (HBW.out.trans (hb8.mono HBW.out.size))) (k + 1)) (encDs_one _) (by unfold maxLen; omega) (by omega) (by omega) ?_; intro v3 w9 hownw9 hgroww9 hnilw9; have hb9 : Below V4.heap.size V4 w9 := hb8.grown hgroww9 (by omega) (own_base o8); have o9 : w9.ownsRow V4.heap.size 81 3 v3 (k + (m.doors.length - (k + 1))) (M.encDs (M.without m k).doors) := (by show w9.ownsRow _ _ _ _ _ (M.encDs (m.doors.take k ++ m.doors.drop (k + 1))); rw [M.encDs_append]; exact hownw9); rw [hlk] at o9; obtain ⟨va, vc, hva, hv1, hv2, hv3⟩ := own_slice o9; subst hva; have x9 := XW.out.below hb9; have t9 := TW.out.below hb9; have y9 := YW.out.below hb9; obtain ⟨d0, d1, d2⟩ := x9.cells; obtain ⟨e0, e1, e2⟩ := (x9.other hxn 1 (.slice va (m.doors.length - 1) vc)).cells; obtain ⟨s0, s1, s2⟩ := t9.cells; obtain ⟨g0, g1, g2⟩ := t9.free; have htl := t9.lt; have hs9 := hb9.size)
    | (have hcg : c = k + 1 := HCK.out; clear hcg; refine step_append_own rfl (.tmp 13) (.tmp 18) 22 rfl V4.heap.size 81 i0 (.agg #[.int .i64 0, .int .i64 0, .int .i64 0]) 3 24 Try.underlying22 hi0 hz0 hz1 hz2 rfl (by decide) _ _ _ o8 (by first | (simp [Act.eval]; done) | simp [Act.eval, Act.put]) ⟨bb, off, none⟩ (m.doors.length - (k + 1)) (c - (k + 1)) (M.encDs (m.doors.drop (k + 1))) (by first | (simp [Act.eval, HCK.out]; done) | simp [Act.eval, Act.put, HCK.out]) (by rw [M.encDs_len, List.length_drop]) (fun j u hu => absurd hu (by rw [List.drop_eq_nil_of_le (by have := HCK.out; omega)]; simp [M.encDs])) (encDs_one _) (by unfold maxLen; omega) (by omega) (by omega) ?_; intro v3 w9 hownw9 hgroww9 hnilw9; have hb9 : Below V4.heap.size V4 w9 := hb8.grown hgroww9 (by omega) (own_base o8); have o9 : w9.ownsRow V4.heap.size 81 3 v3 (k + (m.doors.length - (k + 1))) (M.encDs (M.without m k).doors) := (by show w9.ownsRow _ _ _ _ _ (M.encDs (m.doors.take k ++ m.doors.drop (k + 1))); rw [M.encDs_append]; exact hownw9); rw [hlk] at o9; obtain ⟨va, vc, hva, hv1, hv2, hv3⟩ := own_slice o9; subst hva; have x9 := XW.out.below hb9; have t9 := TW.out.below hb9; have y9 := YW.out.below hb9; obtain ⟨d0, d1, d2⟩ := x9.cells; obtain ⟨e0, e1, e2⟩ := (x9.other hxn 1 (.slice va (m.doors.length - 1) vc)).cells; obtain ⟨s0, s1, s2⟩ := t9.cells; obtain ⟨g0, g1, g2⟩ := t9.free; have htl := t9.lt; have hs9 := hb9.size)
    | (refine step_append_own rfl (.tmp 8) (.tmp 12) 22 rfl V4.heap.size 81 i0 (.agg #[.int .i64 0, .int .i64 0, .int .i64 0]) 3 24 Try.underlying22 hi0 hz0 hz1 hz2 rfl (by decide) _ _ _ (ownsRow_empty V4.drew V4.heap.size 81 3 (Nat.le_refl _)) (by first | (simp [Act.eval]; done) | simp [Act.eval, Act.put]) ⟨bb, off, none⟩ k c (M.encDs (m.doors.take k)) (by first | (simp [Act.eval]; done) | simp [Act.eval, Act.put]) (by rw [M.encDs_len, List.length_take]; omega) (news_take (HC.out _ (HBW.out.trans (((Below.refl V4.heap.size V4).drew.alloc (Nat.le_refl _) _).mono HBW.out.size))) k) (encDs_one _) (by unfold maxLen; omega) (by omega) (by simp) ?_; intro v1 w8 hownw8 hgroww8 hnilw8; have hb8 : Below V4.heap.size V4 w8 := ((Below.refl V4.heap.size V4).drew.alloc (Nat.le_refl _) _).grown hgroww8 (by simp) (own_base (ownsRow_empty V4.drew V4.heap.size 81 3 (Nat.le_refl _))); have o8 : w8.ownsRow V4.heap.size 81 3 v1 k (M.encDs (m.doors.take k)) := (by simpa using hownw8); obtain ⟨d0, d1, d2⟩ := (XW.out.below hb8).cells; have hs8 := hb8.size))
  all_goals
    clear hwr
    have hmo : MzOwn W.heap.size w9.heap.size (w9.setCell ⟨w3.heap.size, 1, none⟩ (.slice va (m.doors.length - 1) vc)) (M.without m k) va vc cb cd :=
      ⟨((OwnAt.of_own o9).mono (by omega) (Nat.le_refl _)).boxed t9 (by decide) 1 _, ((HO4.out.keys.below hb9 (by omega)).mono (Nat.le_refl _) (by omega)).boxed t9 (by decide) 1 _, by rw [M.without_len hkl']; exact hv1, hv2, HO4.out.d1, HO4.out.d2⟩
    have HMO := Lib.hid hmo
    have BB := Lib.hid ((HBW.out.trans (hb9.mono HBW.out.size)).setCell (p := ⟨w3.heap.size, 1, none⟩) (by show w.heap.size ≤ w3.heap.size; omega) (.slice va (m.doors.length - 1) vc))
    obtain ⟨r0, r1, r2⟩ := (t9.set1 (.slice va (m.doors.length - 1) vc)).cells
    obtain ⟨k0, k1, k2⟩ := (y9.other hyn 1 (.slice va (m.doors.length - 1) vc)).cells
    obtain ⟨f0, f1, f2⟩ := (y9.other hyn 1 (.slice va (m.doors.length - 1) vc)).free
    have hyl := (y9.other hyn 1 (.slice va (m.doors.length - 1) vc)).lt
    obtain ⟨q0, q1, q2⟩ := ((y9.other hyn 1 (.slice va (m.doors.length - 1) vc)).setAll (.int .i64 m.size) (.slice va (m.doors.length - 1) vc) (.slice cb m.keys.length cd)).cells
    clear hmo o8 o9 hb8 hb9 x9 t9 y9 hv3 hownw8 hgroww8 hownw9 hgroww9 hnilw8 hnilw9
    go_wp2_with fail
    refine bodyPost_ret (v := .agg #[.int .i64 m.size, .slice va (m.doors.length - 1) vc, .slice cb m.keys.length cd]) (by simp [results, Try.results88, go_sem, q0, q1, q2]) rfl ?_
    exact mz_endAt (m := M.without m k) (lo := W.heap.size) (hi := w9.heap.size) BB.out HMO.out (.inl (by omega)) (by omega) (by omega) (by simp [World.setCell]) (M.without_len hkl') rfl
end C
end Go.Proofs.Ytoiapfdlbkncaaa
namespace Go.Proofs.Ytoiapfdlbkncaaa
open Go.RowKit
namespace M
noncomputable def reqD (m : Mz) (s : Int) (k : Nat) : Bool := !canB (without m k) s
noncomputable def reqDV (m : Mz) (s : Int) : List Int := ifWins (winsB m s) (numsTo (reqD m s) m.doors.length) []
theorem reqDV_len (m : Mz) (s : Int) : (reqDV m s).length ≤ 1048576 := by
  cases h : winsB m s with
  | false => rw [show reqDV m s = _ from ifWins_no h _ _]; simp
  | true =>
    rw [show reqDV m s = _ from ifWins_yes h _ _]
    have := numsTo_len (reqD m s) m.doors.length
    have := (ask_yes (wins_yes h).1).1.few
    omega
theorem without_valid {m : Mz} (V : Valid m) (k : Nat) : Valid (without m k) := noDoor_valid V k
theorem part_reqD {m : Mz} {s : Int} (V : Valid m) (h0 : 0 ≤ s ∧ s < 64) {k : Nat} (hk : k < m.doors.length) : partB false s (fun k => dropV m k) (fun k => dropB m k) k = reqD m s k := by
  have hb : dropB m k = true := by unfold dropB; rw [of_valid V, show placeB m k = true from decide_eq_true ⟨by omega, by omega⟩]; rfl
  show (dropB m (k : Int) && (winsB (dropV m (k : Int)) s == false)) = !canB (without m k) s
  rw [hb, dropV_yes hb, Int.toNat_natCast, wins_of (without_valid V k) h0]
  cases canB (without m k) s <;> rfl
theorem parts_reqD {m : Mz} {s : Int} (h : winsB m s = true) : partsV false m s m.doors.length (fun k => dropV m k) (fun k => dropB m k) = reqDV m s := by
  obtain ⟨V, h0⟩ := ask_yes (wins_yes h).1
  unfold partsV
  rw [if_pos h, show reqDV m s = _ from ifWins_yes h _ _]
  exact numsTo_congr fun i hi => part_reqD V h0 hi
end M
namespace C
set_option maxHeartbeats 3200000
set_option maxRecDepth 20000
theorem specReqD_lw (w : World) (lo hi : Nat) (m : M.Mz) (a b : Option Addr) (c d : Nat) (h : MzIn lo hi w m a c b d) (hz : hi ≤ w.heap.size) (_h1 : m.doors.length ≤ 1048576) (_h2 : m.keys.length ≤ 1048576) (s : Int) (_s1 : -9223372036854775808 ≤ s) (_s2 : s ≤ 9223372036854775807) :
    Calls Try.prog 38 #[.agg #[.int .i64 m.size, .slice a m.doors.length c, .slice b m.keys.length d], .int .i64 s] w (IntsOkPost w (M.reqDV m s) (M.winsB m s)) := by
  obtain ⟨ii0, hi0, hz0, hzz1, hzz2⟩ := info_parts infoI
  have H := Lib.hid h
  clear h
  go_enter Try.func38, Try.ntmps38
  go_wp2_with fail
  refine named ?_
  intro W hW
  have hb : Below w.heap.size w W := by rw [hW]; exact (below_alloc _ _).alloc (by simp) _
  have x1 : Box3 W w.heap.size 29 (.int .i64 m.size) (.slice a m.doors.length c) (.slice b m.keys.length d) := by rw [hW]; exact (Box3.new _ _ _ _ rfl).alloc _
  have o1 : W.ownsRow w.heap.size 3 1 (.slice (some ⟨w.heap.size + 1, 0, none⟩) 0 0) 0 [] := by
    rw [hW]
    have := ownsRow_empty (w.alloc (.cells #[.int .i64 m.size, .slice a m.doors.length c, .slice b m.keys.length d] 29)) w.heap.size 3 1 (by simp)
    simpa using this
  clear hW
  have hzw := hb.size
  refine (can_any W lo hi m a b c d s (H.out.below hb hz) (by omega)).mono ?_
  rintro e w1 ⟨rfl, hb1⟩
  have X1 := Lib.hid (x1.below hb1)
  have O1 := Lib.hid (own_below o1 hb1)
  clear o1
  have HB1 := Lib.hid (hb.trans (hb1.mono hzw))
  have hz1 := hb1.size
  have hbl := X1.out.lt
  clear hb hb1 x1
  obtain ⟨c0, c1, c2⟩ := X1.out.cells
  cases q0 : M.winsB m s with
  | false =>
    have HF := Lib.hid q0
    clear q0
    go_wp2_with fail
    go_ret2
    rw [HF.out, show M.reqDV m s = _ from M.ifWins_no HF.out _ _]
    exact intsOk_end (l := []) O1.out HB1.out
  | true =>
    have HF := Lib.hid q0
    have HA := (M.wins_yes q0).1
    have HVA := Lib.hid (M.ask_yes HA).1
    obtain ⟨_, s0, s64⟩ := M.ask_yes HA
    have v1 := HVA.out.size1
    have v12 := HVA.out.size12
    have v30 := HVA.out.few
    have vk := HVA.out.keysLen
    clear q0 HA
    go_wp2_with fail
    have HV := Lib.hid (show M.reqDV m s = _ from M.ifWins_yes HF.out _ _)
    go_loopw [6, 7] (fun v6 v7 wr => ∃ (k : Nat), 0 ≤ k ∧ k ≤ m.doors.length ∧ v7 = .int .i64 k ∧ wr.ownsRow w.heap.size 3 1 v6 (M.numsTo (M.reqD m s) k).length (M.encIs (M.numsTo (M.reqD m s) k)) ∧ Box3 wr w.heap.size 29 (.int .i64 m.size) (.slice a m.doors.length c) (.slice b m.keys.length d) ∧ Below w.heap.size w wr) (fun _ v7 _ => m.doors.length - (intOf v7).toNat)
    case atStart => exact ⟨0, Nat.le_refl _, Nat.zero_le _, rfl, O1.out, X1.out, HB1.out⟩
    case round =>
      obtain ⟨k, hlk, hk, rfl, hso, hx, hlow⟩ := hrel
      obtain ⟨la, lc, hv, hl1, hl2, _⟩ := own_slice hso
      subst hv
      have SO := Lib.hid hso
      have X7 := Lib.hid hx
      have LO := Lib.hid hlow
      have hzr := hlow.size
      have hxl := hx.lt
      have hll := M.numsTo_len (M.reqD m s) k
      obtain ⟨c0, c1, c2⟩ := hx.cells
      clear hso hx hlow
      by_cases hkl : k < m.doors.length
      · have HY := Lib.hid (fun (h : M.reqD m s k = true) => M.numsTo_yes h)
        have HN := Lib.hid (fun (h : M.reqD m s k = false) => M.numsTo_no h)
        have HNV := Lib.hid (M.without_valid HVA.out k)
        have HPK : Hid (M.reqD m s k = !M.canB (M.without m k) s) := Lib.hid rfl
        have CL := Lib.hid (l3Door_any wr lo hi m a b c d (H.out.below LO.out hz) (by omega) (by omega) (by omega) k hkl)
        generalize M.without m k = mn at *
        generalize M.reqD m s k = pk at *
        go_wp2_with fail
        refine CL.out.mono ?_
        rintro e w2 ⟨ca, cc, cb, cd, rfl, ho, hb2⟩
        have HO := Lib.hid ho
        have HB2 := Lib.hid hb2
        have hz2 := hb2.size
        clear ho hb2
        go_wp2_with fail
        refine (wins_any w2 _ _ mn ca cb cc cd HO.out.mz (Nat.le_refl _) HNV.out s s0 s64).mono ?_
        rintro e w3 ⟨rfl, hb3⟩
        have HB3 := Lib.hid (HB2.out.trans (hb3.mono hz2))
        have X3 := Lib.hid (X7.out.below HB3.out)
        have SO3 := Lib.hid (own_below SO.out HB3.out)
        have LO3 := Lib.hid (LO.out.trans (HB3.out.mono hzr))
        have hz3 := HB3.out.size
        clear hb3 c0 c1 c2
        generalize M.canB mn s = cn at *
        cases cn with
        | true =>
          have HS := Lib.hid (HN.out (by rw [HPK.out]; try rfl))
          go_wp2_with fail
          go_roundw
          case rel => exact ⟨k + 1, by omega, by omega, by go_num, by rw [HS.out]; exact SO3.out, X3.out, LO3.out⟩
          case measure => simp [intOf]; omega
        | false =>
          have HS := Lib.hid (HY.out (by rw [HPK.out]; try rfl))
          have HNE := Lib.hid (own_ne_box SO3.out X3.out (by decide))
          go_wp2_with (at_builtin; refine wpList_append_own _ rfl _ _ 23 rfl w.heap.size 3 ii0 (.int .i64 0) 1 8 Try.underlying23 hi0 hz0 hzz1 hzz2 rfl (by decide) _ _ _ rfl (SO3.out.alloc _) ⟨w3.heap.size, 0, none⟩ 1 1 [.int .i64 (k : Int)] rfl rfl (cell_one_new _ _ _) (fun x hx => by simp at hx; subst hx; rfl) (by unfold maxLen; omega) (by omega) (by simp; omega) ?_; intro v' w5 hown' hgrow5 hnil5)
          go_roundw
          case rel =>
            refine ⟨k + 1, by omega, by omega, by go_num, ?_, (X3.out.alloc _).grown hgrow5 HNE.out, (LO3.out.alloc (by omega) _).grown hgrow5 (by simp; omega) (own_base SO3.out)⟩
            rw [HS.out, M.encIs_append, List.length_append]
            exact hown'
          case measure => simp [intOf]; omega
      · obtain rfl : k = m.doors.length := by omega
        go_wp2_with fail
        go_ret2
        rw [HF.out, HV.out]
        exact intsOk_end SO.out LO.out
theorem implReqD_lw (w : World) (lo hi : Nat) (m : M.Mz) (a b : Option Addr) (c d : Nat) (h : MzIn lo hi w m a c b d) (hz : hi ≤ w.heap.size) (_h1 : m.doors.length ≤ 1048576) (_h2 : m.keys.length ≤ 1048576) (s : Int) (_s1 : -9223372036854775808 ≤ s) (_s2 : s ≤ 9223372036854775807) :
    Calls Try.prog 39 #[.agg #[.int .i64 m.size, .slice a m.doors.length c, .slice b m.keys.length d], .int .i64 s] w (IntsOkPost w (M.reqDV m s) (M.winsB m s)) := by
  have H := Lib.hid h
  clear h
  go_enter Try.func39, Try.ntmps39
  go_wp2_with fail
  refine named ?_
  intro W hW
  have hb : Below w.heap.size w W := by rw [hW]; exact below_alloc _ _
  clear hW
  have hzw := hb.size
  have HB0 := Lib.hid hb
  cases q0 : M.winsB m s with
  | false =>
    have HF := Lib.hid q0
    have HV := Lib.hid (show M.reqDV m s = _ from M.ifWins_no q0 _ _)
    have CP := parts_no 89 false (m.doors.length : Int) W lo hi m a b c d (H.out.below hb hz) (by omega) _h1 _h2 s _s1 _s2 q0
    clear q0
    refine CP.mono ?_
    rintro e w1 ⟨ra, rc, rfl, ho, ho1, ho2, hb1⟩
    have HB1 := Lib.hid (hb.trans (hb1.mono hzw))
    clear CP hb hb1 ho
    go_wp2_with fail
    go_ret2
    rw [HV.out, HF.out]
    exact ⟨_, _, rfl, OwnAt.nil _ _ _ _ _, by simp, ho2, HB1.out⟩
  | true =>
    have HF := Lib.hid q0
    have HVA := Lib.hid (M.ask_yes (M.wins_yes q0).1).1
    have v30 := HVA.out.few
    have CP := parts_any 89 (enters_of Try.func89 (by kernel_rfl) rfl) false m.doors.length (fun k => M.dropV m k) (fun k => M.dropB m k) (fun k => M.dropV_len m k) (by omega) W lo hi m a b c d (H.out.below hb hz) (by omega) _h1 _h2 s _s1 _s2 (fun W' k _ hq => implDrop_lw W' lo hi m a b c d (H.out.below (HB0.out.trans (hq.mono hzw)) hz) (by have := hq.size; omega) _h1 _h2 (k : Int) (by omega) (by omega))
    rw [M.parts_reqD q0, q0] at CP
    clear q0
    refine CP.mono ?_
    rintro e w1 ⟨ra, rc, rfl, ho, ho1, ho2, hb1⟩
    have HB1 := Lib.hid (hb.trans (hb1.mono hzw))
    have HO := Lib.hid ho
    have hz1 := hb1.size
    clear CP hb hb1 ho
    go_wp2_with fail
    go_ret2
    rw [HF.out]
    exact ⟨_, _, rfl, HO.out.mono (by omega) (Nat.le_refl _), ho1, ho2, HB1.out⟩
end C
end Go.Proofs.Ytoiapfdlbkncaaa
