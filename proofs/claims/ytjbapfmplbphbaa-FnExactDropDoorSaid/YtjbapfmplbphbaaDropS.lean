/-
  CONTRACT of spec.DropDoor: the same maze as the program's, in memory of its own; what lay in memory stays. No condition but that the maze reads so.
-/
import Derived.Test.YtjbapfmplbphbaaDrop
import Derived.Deep.RegionHeld3
import Derived.Deep.RegionLaw
namespace Go.Proofs.Ytjbapfmplbphbaa
open Go.RowKit
namespace C
set_option maxHeartbeats 32000000
set_option maxRecDepth 20000
theorem specDrop_lw (w : World) (lo hi : Nat) (m : M.Mz) (a b : Option Addr) (c d : Nat) (h : MzIn lo hi w m a c b d) (hz : hi ≤ w.heap.size) (_h1 : m.doors.length ≤ 1048576) (_h2 : m.keys.length ≤ 1048576) (x : Int) (_x1 : -9223372036854775808 ≤ x) (_x2 : x ≤ 9223372036854775807) :
    Calls Try.prog 39 #[.agg #[.int .i64 m.size, .slice a m.doors.length c, .slice b m.keys.length d], .int .i64 x] w (MzOkPost w (M.dropV m x) (M.dropB m x)) := by
  obtain ⟨i0, hi0, hz0, hz1, hz2⟩ := info_parts infoD
  have H := Lib.hid h
  clear h
  go_enter Try.func39, Try.ntmps39
  go_wp2_with fail
  refine named ?_
  intro W hW
  have hb : Below w.heap.size w W := by rw [hW]; exact (below_alloc _ _).alloc (by simp) _
  have x1 : Box3 W w.heap.size 29 (.int .i64 m.size) (.slice a m.doors.length c) (.slice b m.keys.length d) := by rw [hW]; exact (Box3.new _ _ _ _ rfl).alloc _
  have y1 : Box3 W (w.heap.size + 1) 29 (.int .i64 0) (.slice none 0 0) (.slice none 0 0) := by rw [hW]; exact Box3.new _ _ _ _ (by simp)
  clear hW
  have hzw := hb.size
  refine (specMaze_any W lo hi m a b c d (H.out.below hb hz) (by omega)).mono ?_
  rintro e w1 ⟨rfl, hb1⟩
  have X1 := Lib.hid (x1.below hb1)
  have Y1 := Lib.hid (y1.below hb1)
  have hbl := Y1.out.lt
  have hbl0 := X1.out.lt
  have HB1 := Lib.hid (hb.trans (hb1.mono hzw))
  have hz1w := hb1.size
  clear hb hb1 x1 y1
  obtain ⟨c0, c1, c2⟩ := X1.out.cells
  obtain ⟨k0, k1, k2⟩ := Y1.out.cells
  obtain ⟨f0, f1, f2⟩ := Y1.out.free
  cases q0 : M.mazeB m with
  | false =>
    have HF : Hid (M.dropB m x = false) := Lib.hid (by unfold M.dropB; rw [q0]; rfl)
    have HV := Lib.hid (M.dropV_no HF.out)
    clear q0
    go_wp2_with fail
    refine bodyPost_ret (v := .tuple #[.agg #[.int .i64 0, .slice none 0 0, .slice none 0 0], .bool false]) (by simp [results, Try.results39, go_sem, k0, k1, k2]) rfl ?_
    rw [HF.out, HV.out]
    exact mzNo_end HB1.out
  | true =>
    have HM := Lib.hid q0
    have HVA := Lib.hid (M.valid_of q0)
    have hdl := HVA.out.few
    have hkl := HVA.out.keysLen
    have hs12 := HVA.out.size12
    clear q0
    have hE : M.inB x 0 ((m.doors.length : Int) - 1) = M.placeB m x := by unfold M.inB M.placeB; congr 1; apply propext; omega
    have HE := Lib.hid hE
    clear hE
    go_wp2_with fail
    refine (l1In_any _ _ _ _).mono ?_
    rintro e w2 ⟨rfl, rfl⟩
    rw [HE.out]
    cases q1 : M.placeB m x with
    | false =>
      have HF : Hid (M.dropB m x = false) := Lib.hid (by unfold M.dropB; rw [q1, Bool.and_false])
      have HV := Lib.hid (M.dropV_no HF.out)
      clear q1
      go_wp2_with fail
      refine bodyPost_ret (v := .tuple #[.agg #[.int .i64 0, .slice none 0 0, .slice none 0 0], .bool false]) (by simp [results, Try.results39, go_sem, k0, k1, k2]) rfl ?_
      rw [HF.out, HV.out]
      exact mzNo_end HB1.out
    | true =>
      have HF : Hid (M.dropB m x = true) := Lib.hid (by unfold M.dropB; rw [q1, HM.out]; rfl)
      have HV := Lib.hid (M.dropV_yes HF.out)
      have hx : 0 ≤ x ∧ x < m.doors.length := by unfold M.placeB at q1; exact decide_eq_true_iff.1 q1
      clear q1
      go_wp2_with fail
      refine (l2Own_any w1 lo hi m a b c d (H.out.below HB1.out hz) (by omega) (by omega) (by omega)).mono ?_
      rintro e w3 ⟨ca, cc, cb, cd, rfl, ho, hb3⟩
      have hz3 := hb3.size
      have X3 := Lib.hid (X1.out.below hb3)
      have Y3 := Lib.hid (Y1.out.below hb3)
      have HB3 := Lib.hid (HB1.out.trans (hb3.mono (by omega)))
      have HO3 := Lib.hid ho
      have hy3 := Y3.out.lt
      clear hb3 ho c0 c1 c2 k0 k1 k2 f0 f1 f2
      obtain ⟨k, rfl⟩ : ∃ k : Nat, x = (k : Int) := ⟨x.toNat, by omega⟩
      have hkl' : k < m.doors.length := by omega
      have hc1 := H.out.c1
      have hc2 := H.out.c2
      obtain ⟨bb, off, hca, _, hgb, hcc⟩ := H.out.doors.at_ (k := 0) (by rw [M.encDs_len]; omega)
      subst hca
      have hbw : bb < w.heap.size := by omega
      have HC := Lib.hid (fun W' (hq : Below w.heap.size w W') j u hu => (hq.cell (p := ⟨bb, off + j, none⟩) hbw).trans (hcc j u hu))
      clear hcc
      obtain ⟨c0, c1, c2⟩ := X3.out.cells
      go_wp2_with fail
      refine wp_named ?_
      intro W hW
      have hb4 : Below w3.heap.size w3 W := by rw [hW]; exact below_alloc _ _
      have t4 : Box3 W w3.heap.size 29 (.int .i64 m.size) (.slice ca m.doors.length cc) (.slice cb m.keys.length cd) := by rw [hW]; exact Box3.new _ _ _ _ rfl
      clear hW c0 c1 c2
      have hzW := hb4.size
      have TW := Lib.hid t4
      have XW := Lib.hid (X3.out.below hb4)
      have YW := Lib.hid (Y3.out.below hb4)
      have HBW := Lib.hid (HB3.out.trans (hb4.mono (by omega)))
      have HO4 := Lib.hid (HO3.out.below hb4 (Nat.le_refl _))
      have htw := t4.lt
      clear hb4 t4
      obtain ⟨d0, d1, d2⟩ := XW.out.cells
      have hxn : w.heap.size ≠ w3.heap.size := by omega
      have hyn : w.heap.size + 1 ≠ w3.heap.size := by omega
      have hxl := XW.out.lt
      have hkc : k ≤ c := by omega
      have hkc1 : k + 1 ≤ c := by omega
      have hb0 : (0 : Int) ≤ (k : Int) + 1 := by omega
      have hb9' : (k : Int) + 1 ≤ (m.doors.length : Int) := by omega
      have hlk : k + (m.doors.length - (k + 1)) = m.doors.length - 1 := by omega
      have hdrew : W.drew.heap.size = W.heap.size := rfl
      have hwr : IntKind.i64.wrap ((k : Int) + 1) = (k : Int) + 1 := IntWalk.i64_in _ (by omega)
      rcases Decidable.em (c = k + 1) with hck0 | hck0
      all_goals have HCK := Lib.hid hck0
      all_goals clear hck0
      all_goals go_region_held3 (fun wq => wq.cell? ⟨w.heap.size, 0, none⟩ = some (.int .i64 m.size) ∧ wq.cell? ⟨w.heap.size, 1, none⟩ = some (.slice (some ⟨bb, off, none⟩) m.doors.length c) ∧ wq.cell? ⟨w.heap.size, 2, none⟩ = some (.slice b m.keys.length d)) (first | exact ⟨d0, d1, d2⟩ | exact ⟨e0, e1, e2⟩ | go_keep) (first
        | (have hcg : ¬ c = k + 1 := HCK.out; clear hcg; refine step_append_own rfl (.tmp 27) (.tmp 32) 22 rfl W.heap.size 59 i0 (.agg #[.int .i64 0, .int .i64 0, .int .i64 0]) 3 24 Try.underlying22 hi0 hz0 hz1 hz2 rfl (by decide) _ _ _ o8 (by simp [Act.eval, Act.put]) ⟨bb, off + (k + 1) * 3, none⟩ (m.doors.length - (k + 1)) (c - (k + 1)) (M.encDs (m.doors.drop (k + 1))) (by simp [Act.eval, Act.put, HCK.out]) (by rw [M.encDs_len, List.length_drop]) (news_drop (HC.out _ (HBW.out.trans (hb8.mono HBW.out.size))) (k + 1)) (encDs_one _) (by unfold maxLen; omega) (by omega) (by omega) ?_; intro v3 w9 hownw9 hgroww9 hnilw9; have hb9 : Below W.heap.size W w9 := hb8.grown hgroww9 (by omega) (own_base o8); have o9 : w9.ownsRow W.heap.size 59 3 v3 (k + (m.doors.length - (k + 1))) (M.encDs (M.without m k).doors) := (by show w9.ownsRow _ _ _ _ _ (M.encDs (m.doors.take k ++ m.doors.drop (k + 1))); rw [M.encDs_append]; exact hownw9); rw [hlk] at o9; obtain ⟨va, vc, hva, hv1, hv2, hv3⟩ := own_slice o9; subst hva; have x9 := XW.out.below hb9; have t9 := TW.out.below hb9; have y9 := YW.out.below hb9; obtain ⟨d0, d1, d2⟩ := x9.cells; obtain ⟨e0, e1, e2⟩ := (x9.other hxn 1 (.slice va (m.doors.length - 1) vc)).cells; obtain ⟨s0, s1, s2⟩ := t9.cells; obtain ⟨g0, g1, g2⟩ := t9.free; have htl := t9.lt; have hs9 := hb9.size)
        | (have hcg : c = k + 1 := HCK.out; clear hcg; refine step_append_own rfl (.tmp 27) (.tmp 32) 22 rfl W.heap.size 59 i0 (.agg #[.int .i64 0, .int .i64 0, .int .i64 0]) 3 24 Try.underlying22 hi0 hz0 hz1 hz2 rfl (by decide) _ _ _ o8 (by simp [Act.eval, Act.put]) ⟨bb, off, none⟩ (m.doors.length - (k + 1)) (c - (k + 1)) (M.encDs (m.doors.drop (k + 1))) (by simp [Act.eval, Act.put, HCK.out]) (by rw [M.encDs_len, List.length_drop]) (fun j u hu => absurd hu (by rw [List.drop_eq_nil_of_le (by have := HCK.out; omega)]; simp [M.encDs])) (encDs_one _) (by unfold maxLen; omega) (by omega) (by omega) ?_; intro v3 w9 hownw9 hgroww9 hnilw9; have hb9 : Below W.heap.size W w9 := hb8.grown hgroww9 (by omega) (own_base o8); have o9 : w9.ownsRow W.heap.size 59 3 v3 (k + (m.doors.length - (k + 1))) (M.encDs (M.without m k).doors) := (by show w9.ownsRow _ _ _ _ _ (M.encDs (m.doors.take k ++ m.doors.drop (k + 1))); rw [M.encDs_append]; exact hownw9); rw [hlk] at o9; obtain ⟨va, vc, hva, hv1, hv2, hv3⟩ := own_slice o9; subst hva; have x9 := XW.out.below hb9; have t9 := TW.out.below hb9; have y9 := YW.out.below hb9; obtain ⟨d0, d1, d2⟩ := x9.cells; obtain ⟨e0, e1, e2⟩ := (x9.other hxn 1 (.slice va (m.doors.length - 1) vc)).cells; obtain ⟨s0, s1, s2⟩ := t9.cells; obtain ⟨g0, g1, g2⟩ := t9.free; have htl := t9.lt; have hs9 := hb9.size)
        | (refine step_append_own rfl (.tmp 22) (.tmp 26) 22 rfl W.heap.size 59 i0 (.agg #[.int .i64 0, .int .i64 0, .int .i64 0]) 3 24 Try.underlying22 hi0 hz0 hz1 hz2 rfl (by decide) _ _ _ (ownsRow_empty W.drew W.heap.size 59 3 (Nat.le_refl _)) (by simp [Act.eval, Act.put]) ⟨bb, off, none⟩ k c (M.encDs (m.doors.take k)) (by simp [Act.eval, Act.put]) (by rw [M.encDs_len, List.length_take]; omega) (news_take (HC.out _ (HBW.out.trans (((Below.refl W.heap.size W).drew.alloc (Nat.le_refl _) _).mono HBW.out.size))) k) (encDs_one _) (by unfold maxLen; omega) (by omega) (by simp) ?_; intro v1 w8 hownw8 hgroww8 hnilw8; have hb8 : Below W.heap.size W w8 := ((Below.refl W.heap.size W).drew.alloc (Nat.le_refl _) _).grown hgroww8 (by simp) (own_base (ownsRow_empty W.drew W.heap.size 59 3 (Nat.le_refl _))); have o8 : w8.ownsRow W.heap.size 59 3 v1 k (M.encDs (m.doors.take k)) := (by simpa using hownw8); obtain ⟨d0, d1, d2⟩ := (XW.out.below hb8).cells; have hs8 := hb8.size))
      all_goals
        clear hwr
        have hmo : MzOwn w1.heap.size w9.heap.size (w9.setCell ⟨w3.heap.size, 1, none⟩ (.slice va (m.doors.length - 1) vc)) (M.without m k) va vc cb cd :=
          ⟨((OwnAt.of_own o9).mono (by omega) (Nat.le_refl _)).boxed t9 (by decide) 1 _, ((HO4.out.keys.below hb9 (by omega)).mono (Nat.le_refl _) (by omega)).boxed t9 (by decide) 1 _, by rw [M.without_len hkl']; exact hv1, hv2, HO4.out.d1, HO4.out.d2⟩
        have HMO := Lib.hid hmo
        have BB := Lib.hid ((HBW.out.trans (hb9.mono HBW.out.size)).setCell (p := ⟨w3.heap.size, 1, none⟩) (by show w.heap.size ≤ w3.heap.size; omega) (.slice va (m.doors.length - 1) vc))
        obtain ⟨r0, r1, r2⟩ := (t9.set1 (.slice va (m.doors.length - 1) vc)).cells
        obtain ⟨k0, k1, k2⟩ := (y9.other hyn 1 (.slice va (m.doors.length - 1) vc)).cells
        obtain ⟨f0, f1, f2⟩ := (y9.other hyn 1 (.slice va (m.doors.length - 1) vc)).free
        have hyl := (y9.other hyn 1 (.slice va (m.doors.length - 1) vc)).lt
        clear hmo o8 o9 hb8 hb9 x9 t9 y9 hv3 hownw8 hgroww8 hownw9 hgroww9 hnilw8 hnilw9
        go_wp2_with fail
        refine bodyPost_ret (v := .tuple #[.agg #[.int .i64 m.size, .slice va (m.doors.length - 1) vc, .slice cb m.keys.length cd], .bool true]) (by simp [results, Try.results39, go_sem, k0, k1, k2]) rfl ?_
        rw [HF.out, HV.out]
        exact mzYes_end (m := M.without m (k : Int).toNat) BB.out (by simpa using HMO.out) (by omega) (by simp [World.setCell]) (M.without_len hkl') rfl
end C
end Go.Proofs.Ytjbapfmplbphbaa
