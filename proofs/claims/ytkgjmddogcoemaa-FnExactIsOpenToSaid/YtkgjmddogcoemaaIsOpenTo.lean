/-
  CONTRACTS of IsOpenTo on both sides; what lay in memory stays. No condition but that the maze reads so.
-/
import Derived.Test.YtkgjmddogcoemaaIsOpen
namespace Go.Proofs.Ytkgjmddogcoemaa
open Go.RowKit
namespace C
set_option maxHeartbeats 1600000
theorem specIsOpenTo_lw (w : World) (lo hi : Nat) (m : M.Mz) (a b : Option Addr) (c d : Nat) (h : MzIn lo hi w m a c b d) (hz : hi ≤ w.heap.size) (h1 : m.doors.length ≤ 1048576) (_h2 : m.keys.length ≤ 1048576) (x : Int) (_x1 : -9223372036854775808 ≤ x) (_x2 : x ≤ 9223372036854775807) (y : Int) (_y1 : -9223372036854775808 ≤ y) (_y2 : y ≤ 9223372036854775807) (set : Int) (_s1 : -9223372036854775808 ≤ set) (_s2 : set ≤ 9223372036854775807) :
    Calls Try.prog 31 #[.agg #[.int .i64 m.size, .slice a m.doors.length c, .slice b m.keys.length d], .int .i64 x, .int .i64 y, .int .i64 set] w (BoolOkPost w (M.openV m x y set) (M.openVB m x y set)) := by
  have H := Lib.hid h
  clear h
  have hcase : ∀ q, M.openVB m x y set = q → q = false → M.openV m x y set = false := fun q h1 h2 => by unfold M.openV; rw [h1, h2]; rfl
  have HCS := Lib.hid hcase
  clear hcase
  go_enter Try.func31, Try.ntmps31
  go_wp2_with fail
  refine named ?_
  intro W hW
  have hb : Below w.heap.size w W := by rw [hW]; exact below_alloc _ _
  have x1 : Box3 W w.heap.size 33 (.int .i64 m.size) (.slice a m.doors.length c) (.slice b m.keys.length d) := by rw [hW]; exact Box3.new _ _ _ _ rfl
  clear hW
  have hzw := hb.size
  refine (l2Node_any W lo hi m a b c d x (H.out.below hb hz) (by omega)).mono ?_
  rintro e w1 ⟨rfl, hb1⟩
  have X1 := Lib.hid (x1.below hb1)
  have HB1 := Lib.hid (hb.trans (hb1.mono hzw))
  have hz1 := hb1.size
  clear hb hb1 x1
  obtain ⟨c0, c1, c2⟩ := X1.out.cells
  cases q1 : M.mzNodeB m x with
  | false =>
    have HF : Hid (M.openVB m x y set = false) := Lib.hid (by unfold M.openVB; rw [q1]; rfl)
    have HV := Lib.hid (HCS.out _ HF.out rfl)
    clear q1
    go_wp2_with fail
    go_ret2
    exact ⟨by rw [HF.out, HV.out]; rfl, HB1.out⟩
  | true =>
    have Q1 := Lib.hid q1
    have hm : M.mazeB m = true := by unfold M.mzNodeB at q1; rw [Bool.and_eq_true] at q1; exact q1.1
    have HM := Lib.hid hm
    clear q1 hm
    go_wp2_with fail
    refine (l2Node_any w1 lo hi m a b c d y (H.out.below HB1.out hz) (by omega)).mono ?_
    rintro e w2 ⟨rfl, hb2⟩
    have X2 := Lib.hid (X1.out.below hb2)
    have HB2 := Lib.hid (HB1.out.trans (hb2.mono (by omega)))
    have hz2 := hb2.size
    clear hb2 c0 c1 c2
    obtain ⟨c0, c1, c2⟩ := X2.out.cells
    have hny : M.mzNodeB m y = M.nodeB m.size y := by unfold M.mzNodeB; rw [HM.out]; rfl
    have HNY := Lib.hid hny
    clear hny
    rw [HNY.out]
    cases q2 : M.nodeB m.size y with
    | false =>
      have HF : Hid (M.openVB m x y set = false) := Lib.hid (by unfold M.openVB; rw [q2, Q1.out]; rfl)
      have HV := Lib.hid (HCS.out _ HF.out rfl)
      clear q2
      go_wp2_with fail
      go_ret2
      exact ⟨by rw [HF.out, HV.out]; rfl, HB2.out⟩
    | true =>
      have Q2 := Lib.hid q2
      clear q2
      go_wp2_with fail
      refine (l2Set_any _ _).mono ?_
      rintro e w3 ⟨rfl, rfl⟩
      cases q3 : M.setB set with
      | false =>
        have HF : Hid (M.openVB m x y set = false) := Lib.hid (by unfold M.openVB; rw [q3, Q2.out, Q1.out]; rfl)
        have HV := Lib.hid (HCS.out _ HF.out rfl)
        clear q3
        go_wp2_with fail
        go_ret2
        exact ⟨by rw [HF.out, HV.out]; rfl, HB2.out⟩
      | true =>
        have HF : Hid (M.openVB m x y set = true) := Lib.hid (by unfold M.openVB; rw [q3, Q2.out, Q1.out]; rfl)
        have HV : Hid (M.openV m x y set = M.openB m.doors x y set) := Lib.hid (by unfold M.openV; rw [HF.out]; rfl)
        clear q3
        go_wp2_with fail
        refine (l2Open_any w2 lo hi m a b c d x y set (H.out.below HB2.out hz) (by omega) h1).mono ?_
        rintro e w4 ⟨rfl, hb4⟩
        have HB4 := Lib.hid (HB2.out.trans (hb4.mono (by omega)))
        clear hb4
        go_wp2_with fail
        go_ret2
        exact ⟨by rw [HF.out, HV.out]; rfl, HB4.out⟩
theorem implIsOpenTo_lw (w : World) (lo hi : Nat) (m : M.Mz) (a b : Option Addr) (c d : Nat) (h : MzIn lo hi w m a c b d) (hz : hi ≤ w.heap.size) (_h1 : m.doors.length ≤ 1048576) (_h2 : m.keys.length ≤ 1048576) (x : Int) (_x1 : -9223372036854775808 ≤ x) (_x2 : x ≤ 9223372036854775807) (y : Int) (_y1 : -9223372036854775808 ≤ y) (_y2 : y ≤ 9223372036854775807) (set : Int) (_s1 : -9223372036854775808 ≤ set) (_s2 : set ≤ 9223372036854775807) :
    Calls Try.prog 32 #[.agg #[.int .i64 m.size, .slice a m.doors.length c, .slice b m.keys.length d], .int .i64 x, .int .i64 y, .int .i64 set] w (BoolOkPost w (M.openV m x y set) (M.openVB m x y set)) := by
  have H := Lib.hid h
  clear h
  have hcase : ∀ q, M.openVB m x y set = q → q = false → M.openV m x y set = false := fun q h1 h2 => by unfold M.openV; rw [h1, h2]; rfl
  have HCS := Lib.hid hcase
  clear hcase
  go_enter Try.func32, Try.ntmps32
  go_wp2_with fail
  refine named ?_
  intro W hW
  have hb : Below w.heap.size w W := by rw [hW]; exact below_alloc _ _
  have x1 : Box3 W w.heap.size 33 (.int .i64 m.size) (.slice a m.doors.length c) (.slice b m.keys.length d) := by rw [hW]; exact Box3.new _ _ _ _ rfl
  clear hW
  have hzw := hb.size
  refine (isMaze_any W lo hi m a b c d (H.out.below hb hz) (by omega)).mono ?_
  rintro e w1 ⟨rfl, hb1⟩
  have X1 := Lib.hid (x1.below hb1)
  have hbl := X1.out.lt
  have HB1 := Lib.hid (hb.trans (hb1.mono hzw))
  have hz1 := hb1.size
  clear hb hb1 x1
  obtain ⟨c0, c1, c2⟩ := X1.out.cells
  cases q0 : M.mazeB m with
  | false =>
    have HF : Hid (M.openVB m x y set = false) := Lib.hid (by unfold M.openVB M.mzNodeB; rw [q0]; rfl)
    have HV := Lib.hid (HCS.out _ HF.out rfl)
    clear q0
    go_wp2_with fail
    go_ret2
    exact ⟨by rw [HF.out, HV.out]; rfl, HB1.out⟩
  | true =>
    have HM := Lib.hid q0
    have HVA := Lib.hid (M.valid_of q0)
    clear q0
    go_wp2_with fail
    refine (hasNode_any m _ _ _ _ _ _).mono ?_
    rintro e w2 ⟨rfl, rfl⟩
    cases q1 : M.nodeB m.size x with
    | false =>
      have HF : Hid (M.openVB m x y set = false) := Lib.hid (by unfold M.openVB M.mzNodeB; rw [q1, HM.out]; rfl)
      have HV := Lib.hid (HCS.out _ HF.out rfl)
      clear q1
      go_wp2_with fail
      go_ret2
      exact ⟨by rw [HF.out, HV.out]; rfl, HB1.out.alloc (by omega) _⟩
    | true =>
      have Q1 : Hid (M.mzNodeB m x = true) := Lib.hid (M.mzNode_yes HM.out q1)
      clear q1
      go_wp2_with fail
      refine (hasNode_any m _ _ _ _ _ _).mono ?_
      rintro e w2 ⟨rfl, rfl⟩
      cases q2 : M.nodeB m.size y with
      | false =>
        have HF : Hid (M.openVB m x y set = false) := Lib.hid (by unfold M.openVB; rw [q2, Q1.out]; rfl)
        have HV := Lib.hid (HCS.out _ HF.out rfl)
        clear q2
        go_wp2_with fail
        go_ret2
        exact ⟨by rw [HF.out, HV.out]; rfl, (HB1.out.alloc (by omega) _).alloc (by simp; omega) _⟩
      | true =>
        have Q2 := Lib.hid q2
        clear q2
        go_wp2_with fail
        refine (isSet_any _ _).mono ?_
        rintro e w3 ⟨rfl, rfl⟩
        cases q3 : M.setB set with
        | false =>
          have HF : Hid (M.openVB m x y set = false) := Lib.hid (by unfold M.openVB; rw [q3, Q2.out, Q1.out]; rfl)
          have HV := Lib.hid (HCS.out _ HF.out rfl)
          clear q3
          go_wp2_with fail
          go_ret2
          exact ⟨by rw [HF.out, HV.out]; rfl, (HB1.out.alloc (by omega) _).alloc (by simp; omega) _⟩
        | true =>
          have HF : Hid (M.openVB m x y set = true) := Lib.hid (by unfold M.openVB; rw [q3, Q2.out, Q1.out]; rfl)
          have HV : Hid (M.openV m x y set = M.openB m.doors x y set) := Lib.hid (by unfold M.openV; rw [HF.out]; rfl)
          have hset : 0 ≤ set ∧ set < 64 := by unfold M.setB at q3; exact decide_eq_true_iff.1 q3
          obtain ⟨s0, s64⟩ := hset
          clear q3
          go_wp2_with fail
          refine named ?_
          intro W4 hW4
          have hb4 : Below w.heap.size w W4 := by rw [hW4]; exact (HB1.out.alloc (by omega) _).alloc (by simp; omega) _
          clear hW4
          have HB4 := Lib.hid hb4
          have hz4 := hb4.size
          clear hb4
          refine (isOpen_any W4 lo hi m a b c d x y set (H.out.below HB4.out hz) (by omega) HVA.out s0 s64).mono ?_
          rintro e w5 ⟨rfl, hb5⟩
          have HB5 := Lib.hid (HB4.out.trans (hb5.mono hz4))
          clear hb5
          go_wp2_with fail
          go_ret2
          exact ⟨by rw [HF.out, HV.out]; rfl, HB5.out⟩
end C
end Go.Proofs.Ytkgjmddogcoemaa
