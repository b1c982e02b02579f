/-
  CONTRACTS of WithoutKeys on both sides, and of the model's l3Keys: the maze without the keys at a node, in memory of its own, or the empty one and false; what lay in memory stays. No condition but that the maze reads so.
-/
import Derived.Test.YtcaaookecgdbdaaMzAt
import Derived.Test.YtcaaookecgdbdaaPutKeys
import Derived.Test.YtcaaookecgdbdaaPartMath
namespace Go.Proofs.Ytcaaookecgdbdaa
open Go.RowKit
namespace M
theorem putB0 (m : Mz) (x : Int) : putB m x 0 = mzNodeB m x := by unfold putB; rw [show setB 0 = true from rfl, Bool.and_true]
end M
namespace C
set_option maxHeartbeats 1600000
set_option maxRecDepth 20000
theorem l3Keys_any (w : World) (lo hi : Nat) (m : M.Mz) (a b : Option Addr) (c d : Nat) (h : MzIn lo hi w m a c b d) (hz : hi ≤ w.heap.size) (h1 : m.doors.length ≤ 1048576) (h2 : m.keys.length ≤ 1048576) (k : Nat) (hk : k < m.keys.length) :
    Calls Try.prog 54 #[.agg #[.int .i64 m.size, .slice a m.doors.length c, .slice b m.keys.length d], .int .i64 (k : Int)] w (MzPost w (M.noKeys m k)) := by
  have H := Lib.hid h
  clear h
  go_enter Try.func54, Try.ntmps54
  go_wp2_with fail
  refine named ?_
  intro W hW
  have hb : Below w.heap.size w W := by rw [hW]; exact (below_alloc _ _).alloc (by simp) _
  have y1 : Box3 W (w.heap.size + 1) 27 (.int .i64 0) (.slice none 0 0) (.slice none 0 0) := by rw [hW]; exact Box3.new _ _ _ _ (by simp)
  clear hW
  have hzw := hb.size
  refine (l2Own_any W lo hi m a b c d (H.out.below hb hz) (by omega) h1 h2).mono ?_
  rintro e w3 ⟨ca, cc, cb, cd, rfl, ho, hb3⟩
  have hz3w := hb3.size
  have Y3 := Lib.hid (y1.below hb3)
  have hyl := y1.lt
  have HB3 := Lib.hid (hb.trans (hb3.mono (by omega)))
  have HO := Lib.hid ho
  clear hb hb3 ho y1
  obtain ⟨g, off, hcb, hg1, hg2, hc0⟩ := HO.out.keys.row.at_ (k := k) (by rw [M.encIs_len]; exact hk)
  have cx0 := hc0 _ _ (M.encIs_at hk)
  have fx0 : w3.frozen? ⟨g, off + k, none⟩ = false := HO.out.keys.free hcb (k := k) (by rw [M.encIs_len]; exact hk) _
  clear hc0
  subst hcb
  have HE := Lib.hid (HO.out.setKey rfl k hk 0)
  have hyb := (Y3.out.turned (Turned.setCell w3 g (off + k) (.int .i64 0) hg1 hg2) (.inl (by omega))).alloc (.cells #[.int .i64 m.size, .slice ca m.doors.length cc, .slice (some ⟨g, off, none⟩) m.keys.length cd] 27)
  obtain ⟨k0, k1, k2⟩ := hyb.cells
  obtain ⟨f0, f1, f2⟩ := hyb.free
  obtain ⟨r0, r1, r2⟩ := (hyb.setAll (.int .i64 m.size) (.slice ca m.doors.length cc) (.slice (some ⟨g, off, none⟩) m.keys.length cd)).cells
  have hsz : (w3.setCell ⟨g, off + k, none⟩ (.int .i64 0)).heap.size = w3.heap.size := by simp [World.setCell]
  go_wp2_with fail
  refine bodyPost_ret (v := .agg #[.int .i64 m.size, .slice ca m.doors.length cc, .slice (some ⟨g, off, none⟩) m.keys.length cd]) (by simp [results, Try.results54, go_sem, r0, r1, r2]) rfl ?_
  exact mz_endAt (m := M.noKeys m k) (lo := W.heap.size) (hi := w3.heap.size) ((HB3.out.setCell (p := ⟨g, off + k, none⟩) (by show w.heap.size ≤ g; omega) _).alloc (by simp [World.setCell]; omega) _) (HE.out.below (below_alloc _ _) (by omega)) (.inl hyl) (by omega) (by omega) (by simp [World.setCell]) rfl (by simp [M.noKeys])
theorem implWoKeys_lw (w : World) (lo hi : Nat) (m : M.Mz) (a b : Option Addr) (c d : Nat) (h : MzIn lo hi w m a c b d) (hz : hi ≤ w.heap.size) (h1 : m.doors.length ≤ 1048576) (h2 : m.keys.length ≤ 1048576) (x : Int) (x1 : -9223372036854775808 ≤ x) (x2 : x ≤ 9223372036854775807) :
    Calls Try.prog 14 #[.agg #[.int .i64 m.size, .slice a m.doors.length c, .slice b m.keys.length d], .int .i64 x] w (MzOkPost w (M.putV m x 0) (M.putB m x 0)) := by
  have H := Lib.hid h
  clear h
  go_enter Try.func14, Try.ntmps14
  go_wp2_with fail
  refine named ?_
  intro W hW
  have hb : Below w.heap.size w W := by rw [hW]; exact (below_alloc _ _).alloc (by simp) _
  have y1 : Box3 W (w.heap.size + 1) 27 (.int .i64 0) (.slice none 0 0) (.slice none 0 0) := by rw [hW]; exact Box3.new _ _ _ _ (by simp)
  clear hW
  have hzw := hb.size
  refine (implPutKeys_lw W lo hi m a b c d (H.out.below hb hz) (by omega) h1 h2 x x1 x2 0 (by omega) (by omega)).mono ?_
  rintro e w3 ⟨ca, cc, cb, cd, rfl, ho, hb3⟩
  have hz3w := hb3.size
  have Y3 := Lib.hid (y1.below hb3)
  have hyl := y1.lt
  have HB3 := Lib.hid (hb.trans (hb3.mono (by omega)))
  have HO := Lib.hid ho
  clear hb hb3 ho y1
  generalize M.putV m x 0 = mv at *
  generalize M.putB m x 0 = bv at *
  obtain ⟨k0, k1, k2⟩ := Y3.out.cells
  obtain ⟨f0, f1, f2⟩ := Y3.out.free
  obtain ⟨r0, r1, r2⟩ := (Y3.out.setAll (.int .i64 mv.size) (.slice ca mv.doors.length cc) (.slice cb mv.keys.length cd)).cells
  go_wp2_with fail
  refine bodyPost_ret (v := .tuple #[.agg #[.int .i64 mv.size, .slice ca mv.doors.length cc, .slice cb mv.keys.length cd], .bool bv]) (by simp [results, Try.results14, go_sem, r0, r1, r2]) rfl ?_
  exact mzYes_endAt (lo := W.heap.size) (hi := w3.heap.size) HB3.out HO.out (.inl hyl) (by omega) (by omega) (Nat.le_refl _) rfl rfl
theorem specWoKeys_lw (w : World) (lo hi : Nat) (m : M.Mz) (a b : Option Addr) (c d : Nat) (h : MzIn lo hi w m a c b d) (hz : hi ≤ w.heap.size) (h1 : m.doors.length ≤ 1048576) (h2 : m.keys.length ≤ 1048576) (x : Int) (_x1 : -9223372036854775808 ≤ x) (_x2 : x ≤ 9223372036854775807) :
    Calls Try.prog 15 #[.agg #[.int .i64 m.size, .slice a m.doors.length c, .slice b m.keys.length d], .int .i64 x] w (MzOkPost w (M.putV m x 0) (M.putB m x 0)) := by
  have H := Lib.hid h
  have HQ := Lib.hid (M.putB0 m x)
  clear h
  go_enter Try.func15, Try.ntmps15
  go_wp2_with fail
  refine named ?_
  intro W hW
  have hb : Below w.heap.size w W := by rw [hW]; exact (below_alloc _ _).alloc (by simp) _
  have x1 : Box3 W w.heap.size 27 (.int .i64 m.size) (.slice a m.doors.length c) (.slice b m.keys.length d) := by rw [hW]; exact (Box3.new _ _ _ _ rfl).alloc _
  have y1 : Box3 W (w.heap.size + 1) 27 (.int .i64 0) (.slice none 0 0) (.slice none 0 0) := by rw [hW]; exact Box3.new _ _ _ _ (by simp)
  clear hW
  have hzw := hb.size
  refine (l2Node_any W lo hi m a b c d x (H.out.below hb hz) (by omega)).mono ?_
  rintro e W2 ⟨rfl, hb1⟩
  have X2 := Lib.hid (x1.below hb1)
  have Y2 := Lib.hid (y1.below hb1)
  have hbl := Y2.out.lt
  have hwl := y1.lt
  have HB2 := Lib.hid (hb.trans (hb1.mono hzw))
  have hz1w := hb1.size
  clear hb hb1 x1 y1
  obtain ⟨c0, c1, c2⟩ := X2.out.cells
  obtain ⟨k0, k1, k2⟩ := Y2.out.cells
  obtain ⟨f0, f1, f2⟩ := Y2.out.free
  cases q0 : M.mzNodeB m x with
  | false =>
    have HF : Hid (M.putB m x 0 = false) := Lib.hid (by rw [HQ.out, q0])
    have HV := Lib.hid (M.putV_no HF.out)
    clear q0
    go_wp2_with fail
    refine bodyPost_ret (v := .tuple #[.agg #[.int .i64 0, .slice none 0 0, .slice none 0 0], .bool false]) (by simp [results, Try.results15, go_sem, k0, k1, k2]) rfl ?_
    rw [HF.out, HV.out]
    exact mzNo_endAt HB2.out (by omega)
  | true =>
    have hmx : M.mazeB m = true ∧ M.nodeB m.size x = true := by unfold M.mzNodeB at q0; rwa [Bool.and_eq_true] at q0
    have HVA := Lib.hid (M.valid_of hmx.1)
    have hx : 0 ≤ x ∧ x < m.size := by have := hmx.2; unfold M.nodeB at this; exact decide_eq_true_iff.1 this
    have HF : Hid (M.putB m x 0 = true) := Lib.hid (by rw [HQ.out, q0])
    have HV := Lib.hid (M.putV_yes HF.out)
    have hkl := HVA.out.keysLen
    clear q0 hmx
    obtain ⟨k, rfl⟩ : ∃ k : Nat, x = (k : Int) := ⟨x.toNat, by omega⟩
    have hkk : k < m.keys.length := by omega
    go_wp2_with fail
    refine (l3Keys_any W2 lo hi m a b c d (H.out.below HB2.out hz) (by omega) h1 h2 k hkk).mono ?_
    rintro e w3 ⟨ca, cc, cb, cd, rfl, ho, hb3⟩
    have hz3w := hb3.size
    have Y3 := Lib.hid (Y2.out.below hb3)
    have HB3 := Lib.hid (HB2.out.trans (hb3.mono (by omega)))
    have HO := Lib.hid ho
    have HE : Hid (M.noKeys m k = M.putV m k 0) := Lib.hid (by rw [HV.out]; rfl)
    clear hb3 ho k0 k1 k2 f0 f1 f2
    generalize M.noKeys m k = mv at *
    obtain ⟨k0, k1, k2⟩ := Y3.out.cells
    obtain ⟨f0, f1, f2⟩ := Y3.out.free
    obtain ⟨r0, r1, r2⟩ := (Y3.out.setAll (.int .i64 mv.size) (.slice ca mv.doors.length cc) (.slice cb mv.keys.length cd)).cells
    go_wp2_with fail
    refine bodyPost_ret (v := .tuple #[.agg #[.int .i64 mv.size, .slice ca mv.doors.length cc, .slice cb mv.keys.length cd], .bool true]) (by simp [results, Try.results15, go_sem, r0, r1, r2]) rfl ?_
    rw [HF.out, ← HE.out]
    exact mzYes_endAt (lo := W2.heap.size) (hi := w3.heap.size) HB3.out HO.out (.inl hbl) (by omega) (by omega) (Nat.le_refl _) rfl rfl
end C
end Go.Proofs.Ytcaaookecgdbdaa
