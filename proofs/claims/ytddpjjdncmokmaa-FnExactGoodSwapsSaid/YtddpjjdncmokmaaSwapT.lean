/-
  CONTRACT of the model's SwapFilling. No condition but that the maze and the list read so.
-/
import Derived.Test.YtddpjjdncmokmaaSwapS
import Derived.Test.YtddpjjdncmokmaaFilS
namespace Go.Proofs.Ytddpjjdncmokmaa
open Go.RowKit
namespace C
set_option linter.unusedVariables false
set_option maxHeartbeats 3200000
set_option maxRecDepth 20000
theorem specSwap_lw (w : World) (lo hi : Nat) (m : M.Mz) (a b : Option Addr) (c d : Nat) (h : MzIn lo hi w m a c b d) (hz : hi ≤ w.heap.size) (_h1 : m.doors.length ≤ 1048576) (_h2 : m.keys.length ≤ 1048576) (s : Int) (_s1 : -9223372036854775808 ≤ s) (_s2 : s ≤ 9223372036854775807) (lo' hi' : Nat) (fa : Option Addr) (fc : Nat) (fs : List Int) (hf : RowIn lo' hi' w fa (M.encIs fs)) (hz' : hi' ≤ w.heap.size) (hl : fs.length ≤ 1048576) (_u1 : fs.length ≤ fc) (_u2 : fc ≤ 9223372036854775807) (_u3 : ∀ z ∈ fs, -9223372036854775808 ≤ z ∧ z ≤ 9223372036854775807) (x : Int) (_x1 : -9223372036854775808 ≤ x) (_x2 : x ≤ 9223372036854775807) (y : Int) (_y1 : -9223372036854775808 ≤ y) (_y2 : y ≤ 9223372036854775807) :
    Calls Try.prog 44 #[.agg #[.int .i64 m.size, .slice a m.doors.length c, .slice b m.keys.length d], .int .i64 s, .slice fa fs.length fc, .int .i64 x, .int .i64 y] w (IntsOkPost w (M.swV m s fs x y) (M.swapB m s fs x y)) := by
  have H := Lib.hid h
  have HF := Lib.hid hf
  have HU3 := Lib.hid _u3
  clear h hf _u3
  have hm6 := M.many_le s
  have hcl6 : (M.colours s).length ≤ 1048576 := by unfold M.manyC at hm6; omega
  go_enter Try.func44, Try.ntmps44
  go_wp2_with fail
  refine named ?_
  intro W hW
  have hb : Below w.heap.size w W := by rw [hW]; exact below_alloc _ _
  have x1 : Box3 W w.heap.size 27 (.int .i64 m.size) (.slice a m.doors.length c) (.slice b m.keys.length d) := by rw [hW]; exact Box3.new _ _ _ _ rfl
  clear hW
  have hzw := hb.size
  refine (good9_any W lo hi m a b c d (H.out.below hb hz) (by omega) s lo' hi' fa fc fs (HF.out.below hb hz') (by omega) hl).mono ?_
  rintro e w1 ⟨rfl, hb1⟩
  have HB1 := Lib.hid (hb.trans (hb1.mono hzw))
  have hz1 := hb1.size
  clear hb hb1 x1
  cases qf : M.filB m s fs with
  | false =>
    have HV := Lib.hid (M.sw_no (a := x) (b := y) (.inl qf))
    clear qf
    go_wp2_with fail
    go_ret2
    rw [HV.out.1, HV.out.2]
    exact intsOk_end (l := []) (ownsRow_empty _ _ _ _ (by omega)) (HB1.out.alloc (by omega) _)
  | true =>
    obtain ⟨ha, _, hfl⟩ := M.fil_yes qf
    have hset := M.setB_iff.2 (M.ask_yes ha).2
    have HQ := Lib.hid qf
    have HFL := Lib.hid hfl
    have HCS := Lib.hid (fun W => colours9_any s hset W)
    clear qf ha hfl
    by_cases hxy : x = y
    · have HV := Lib.hid (M.sw_no (m := m) (s := s) (fs := fs) (a := x) (b := y) (.inr (.inr (.inr hxy))))
      have hb0 : (x == y) = true := by rw [beq_iff_eq]; exact hxy
      clear hxy
      go_wp2_with fail
      go_ret2
      rw [HV.out.1, HV.out.2]
      exact intsOk_end (l := []) (ownsRow_empty _ _ _ _ (by omega)) (HB1.out.alloc (by omega) _)
    · have hb0 : (x == y) = false := by rw [beq_eq_false_iff_ne]; exact hxy
      have HXY := Lib.hid hxy
      clear hxy
      go_wp2_with fail
      refine (HCS.out _).mono ?_
      rintro e w2 ⟨qa, qc, rfl, hoc, hoc1, hoc2, hb2⟩
      have HB2 := Lib.hid (HB1.out.trans (hb2.mono (by omega)))
      have hz2 := hb2.size
      have HHX := Lib.hid (l1Has_any w2 _ _ qa qc (M.colours s) x hoc.row hcl6)
      clear hoc hb2
      go_wp2_with fail
      refine HHX.out.mono ?_
      rintro e w3 ⟨rfl, rfl⟩
      cases qx : M.memB (M.colours s) x with
      | false =>
        have HV := Lib.hid (M.sw_no (m := m) (fs := fs) (b := y) (.inr (.inl qx)))
        clear qx
        go_wp2_with fail
        go_ret2
        rw [HV.out.1, HV.out.2]
        exact intsOk_end (l := []) (ownsRow_empty _ _ _ _ (by omega)) (HB2.out.alloc (by omega) _)
      | true =>
        have HMX := Lib.hid qx
        clear qx HHX
        go_wp2_with fail
        refine (HCS.out _).mono ?_
        rintro e w4 ⟨ra, rc, rfl, hoc, hoc1, hoc2, hb4⟩
        have HB4 := Lib.hid (HB2.out.trans (hb4.mono (by omega)))
        have hz4 := hb4.size
        have HHY := Lib.hid (l1Has_any w4 _ _ ra rc (M.colours s) y hoc.row hcl6)
        clear hoc hb4
        go_wp2_with fail
        refine HHY.out.mono ?_
        rintro e w5 ⟨rfl, rfl⟩
        cases qy : M.memB (M.colours s) y with
        | false =>
          have HV := Lib.hid (M.sw_no (m := m) (fs := fs) (a := x) (.inr (.inr (.inl qy))))
          clear qy
          go_wp2_with fail
          go_ret2
          rw [HV.out.1, HV.out.2]
          exact intsOk_end (l := []) (ownsRow_empty _ _ _ _ (by omega)) (HB4.out.alloc (by omega) _)
        | true =>
          have HV := Lib.hid (M.sw_yes HQ.out HMX.out qy HXY.out)
          have HMY := Lib.hid qy
          clear qy HHY
          have HSW := Lib.hid (swap9_any w4 s hset lo' hi' fa fc fs (HF.out.below HB4.out hz') (by omega) hl HFL.out x y (M.memB_true HMX.out) (M.memB_true HMY.out))
          go_wp2_with fail
          refine HSW.out.mono ?_
          rintro e w6 ⟨sa, sc, rfl, ho6, h61, h62, hb6⟩
          have HO6 := Lib.hid ho6
          have HB6 := Lib.hid (HB4.out.trans (hb6.mono (by omega)))
          clear ho6 hb6
          go_wp2_with fail
          go_ret2
          rw [HV.out.1, HV.out.2]
          exact ⟨sa, sc, rfl, HO6.out.mono (by omega) (Nat.le_refl _), h61, h62, HB6.out⟩
end C
end Go.Proofs.Ytddpjjdncmokmaa
