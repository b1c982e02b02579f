/-
  CONTRACTS of FillingWins and FillingDepth on both sides. No condition but that the maze and the list read so.
-/
import Derived.Test.YtddpjjdncmokmaaDepS
import Derived.Test.YtddpjjdncmokmaaLayI
import Derived.Test.YtddpjjdncmokmaaFilL
import Derived.Test.YtddpjjdncmokmaaP3I
namespace Go.Proofs.Ytddpjjdncmokmaa
open Go.RowKit
namespace M
noncomputable def fwinB (m : Mz) (s : Int) (fs : List Int) : Bool := filB m s fs && winF m s fs
noncomputable def fdepV (m : Mz) (s : Int) (fs : List Int) : Int := if filB m s fs then depR m s fs else 0
theorem fwin_no {m : Mz} {s : Int} {fs : List Int} (h : filB m s fs = false) : fwinB m s fs = false ∧ fdepV m s fs = 0 := by
  unfold fwinB fdepV; rw [h]; exact ⟨rfl, rfl⟩
theorem fwin_yes {m : Mz} {s : Int} {fs : List Int} (h : filB m s fs = true) : fwinB m s fs = decide (0 < depR m s fs) ∧ fdepV m s fs = depR m s fs := by
  unfold fwinB fdepV; rw [← winF_dep h, h]; exact ⟨rfl, rfl⟩
theorem laid_win (m : Mz) (s : Int) (fs : List Int) : ifAsk (laidV m s fs) 0 (canB (laidV m s fs) 0) false = fwinB m s fs := by
  cases h : filB m s fs with
  | false => rw [ifAsk_no (by rw [laidV_ask]; exact h), (fwin_no h).1]
  | true => rw [ifAsk_yes (by rw [laidV_ask]; exact h), laidV_yes h]; unfold fwinB winF; rw [h]; rfl
theorem laid_dep (m : Mz) (s : Int) (fs : List Int) : ifAsk (laidV m s fs) 0 (winR (laidV m s fs) 0) 0 = fdepV m s fs ∧ (askB (laidV m s fs) 0 && decide (0 < winR (laidV m s fs) 0)) = fwinB m s fs := by
  rw [laidV_ask]
  cases h : filB m s fs with
  | false => rw [ifAsk_no (by rw [laidV_ask]; exact h), (fwin_no h).1, (fwin_no h).2]; exact ⟨rfl, rfl⟩
  | true => rw [ifAsk_yes (by rw [laidV_ask]; exact h), (fwin_yes h).1, (fwin_yes h).2, laidV_yes h]; exact ⟨rfl, rfl⟩
end M
namespace C
set_option linter.unusedVariables false
set_option maxHeartbeats 3200000
set_option maxRecDepth 20000
theorem specWins_lw (w : World) (lo hi : Nat) (m : M.Mz) (a b : Option Addr) (c d : Nat) (h : MzIn lo hi w m a c b d) (hz : hi ≤ w.heap.size) (_h1 : m.doors.length ≤ 1048576) (_h2 : m.keys.length ≤ 1048576) (s : Int) (_s1 : -9223372036854775808 ≤ s) (_s2 : s ≤ 9223372036854775807) (lo' hi' : Nat) (fa : Option Addr) (fc : Nat) (fs : List Int) (hf : RowIn lo' hi' w fa (M.encIs fs)) (hz' : hi' ≤ w.heap.size) (hl : fs.length ≤ 1048576) (_u1 : fs.length ≤ fc) (_u2 : fc ≤ 9223372036854775807) (_u3 : ∀ z ∈ fs, -9223372036854775808 ≤ z ∧ z ≤ 9223372036854775807) :
    Calls Try.prog 27 #[.agg #[.int .i64 m.size, .slice a m.doors.length c, .slice b m.keys.length d], .int .i64 s, .slice fa fs.length fc] w (BoolsPost w (M.fwinB m s fs) (M.filB m s fs)) := by
  have H := Lib.hid h
  have HF := Lib.hid hf
  have HU3 := Lib.hid _u3
  clear h hf _u3
  go_enter Try.func27, Try.ntmps27
  go_wp2_with fail
  refine named ?_
  intro W hW
  have hb : Below w.heap.size w W := by rw [hW]; exact below_alloc _ _
  have x1 : Box3 W w.heap.size 27 (.int .i64 m.size) (.slice a m.doors.length c) (.slice b m.keys.length d) := by rw [hW]; exact Box3.new _ _ _ _ rfl
  clear hW
  have hzw := hb.size
  refine (good9_any W lo hi m a b c d (H.out.below hb hz) (by omega) s lo' hi' fa fc fs (HF.out.below hb hz') (by omega) hl).mono ?_
  rintro e w1 ⟨rfl, hb1⟩
  have HB1 := Lib.hid (hb.trans (hb1.mono hzw))
  have X1 := Lib.hid (x1.below hb1)
  have hz1 := hb1.size
  clear hb hb1 x1
  obtain ⟨c0, c1, c2⟩ := X1.out.cells
  have hxl := X1.out.lt
  cases qf : M.filB m s fs with
  | false =>
    have HV := Lib.hid (M.fwin_no qf).1
    have HQ := Lib.hid qf
    clear qf
    go_wp2_with fail
    go_ret2
    exact ⟨by rw [HV.out, HQ.out]; rfl, HB1.out⟩
  | true =>
    have HV := Lib.hid (M.fwin_yes qf).1
    have HQ := Lib.hid qf
    clear qf
    go_wp2_with fail
    refine (depth9_any w1 lo hi m a b c d (H.out.below HB1.out hz) (by omega) _h1 _h2 s lo' hi' fa fc fs (HF.out.below HB1.out hz') (by omega) hl HQ.out).mono ?_
    rintro e w2 ⟨rfl, hb2⟩
    have HB2 := Lib.hid (HB1.out.trans (hb2.mono (by omega)))
    clear hb2
    generalize M.depR m s fs = r at *
    go_wp2_with fail
    go_ret2
    exact ⟨by rw [HV.out, HQ.out]; rfl, HB2.out⟩
theorem specDepth_lw (w : World) (lo hi : Nat) (m : M.Mz) (a b : Option Addr) (c d : Nat) (h : MzIn lo hi w m a c b d) (hz : hi ≤ w.heap.size) (_h1 : m.doors.length ≤ 1048576) (_h2 : m.keys.length ≤ 1048576) (s : Int) (_s1 : -9223372036854775808 ≤ s) (_s2 : s ≤ 9223372036854775807) (lo' hi' : Nat) (fa : Option Addr) (fc : Nat) (fs : List Int) (hf : RowIn lo' hi' w fa (M.encIs fs)) (hz' : hi' ≤ w.heap.size) (hl : fs.length ≤ 1048576) (_u1 : fs.length ≤ fc) (_u2 : fc ≤ 9223372036854775807) (_u3 : ∀ z ∈ fs, -9223372036854775808 ≤ z ∧ z ≤ 9223372036854775807) :
    Calls Try.prog 29 #[.agg #[.int .i64 m.size, .slice a m.doors.length c, .slice b m.keys.length d], .int .i64 s, .slice fa fs.length fc] w (fun e w' => e = .returned (.tuple #[.int .i64 (M.fdepV m s fs), .bool (M.fwinB m s fs)]) ∧ Below w.heap.size w w') := by
  have H := Lib.hid h
  have HF := Lib.hid hf
  have HU3 := Lib.hid _u3
  clear h hf _u3
  go_enter Try.func29, Try.ntmps29
  go_wp2_with fail
  refine named ?_
  intro W hW
  have hb : Below w.heap.size w W := by rw [hW]; exact below_alloc _ _
  have x1 : Box3 W w.heap.size 27 (.int .i64 m.size) (.slice a m.doors.length c) (.slice b m.keys.length d) := by rw [hW]; exact Box3.new _ _ _ _ rfl
  clear hW
  have hzw := hb.size
  refine (good9_any W lo hi m a b c d (H.out.below hb hz) (by omega) s lo' hi' fa fc fs (HF.out.below hb hz') (by omega) hl).mono ?_
  rintro e w1 ⟨rfl, hb1⟩
  have HB1 := Lib.hid (hb.trans (hb1.mono hzw))
  have X1 := Lib.hid (x1.below hb1)
  have hz1 := hb1.size
  clear hb hb1 x1
  obtain ⟨c0, c1, c2⟩ := X1.out.cells
  have hxl := X1.out.lt
  cases qf : M.filB m s fs with
  | false =>
    have HV := Lib.hid (M.fwin_no qf)
    clear qf
    go_wp2_with fail
    go_ret2
    exact ⟨by rw [HV.out.1, HV.out.2]; rfl, HB1.out⟩
  | true =>
    have HV := Lib.hid (M.fwin_yes qf)
    have HQ := Lib.hid qf
    have HD9 := Lib.hid (fun W hb hzz => depth9_any W lo hi m a b c d (H.out.below hb hz) hzz _h1 _h2 s lo' hi' fa fc fs (HF.out.below hb hz') (show hi' ≤ W.heap.size from Nat.le_trans hz' (Below.size hb)) hl qf)
    have hr0 := M.depR_nonneg m s fs
    clear qf
    go_wp2_with fail
    refine (HD9.out _ HB1.out (by omega)).mono ?_
    rintro e w2 ⟨rfl, hb2⟩
    have HB2 := Lib.hid (HB1.out.trans (hb2.mono (by omega)))
    have X2 := Lib.hid (X1.out.below hb2)
    have hz2 := hb2.size
    clear hb2
    generalize M.depR m s fs = r at *
    obtain ⟨c0, c1, c2⟩ := X2.out.cells
    by_cases hr : r = 0
    · subst hr
      go_wp2_with fail
      go_ret2
      exact ⟨by rw [HV.out.1, HV.out.2]; rfl, HB2.out⟩
    · have hr1 : (r == 0) = false := by rw [beq_eq_false_iff_ne]; exact hr
      have hr2 : 0 < r := by omega
      have HR2 := Lib.hid hr2
      clear hr2
      go_wp2_with fail
      refine (HD9.out _ HB2.out (by omega)).mono ?_
      rintro e w3 ⟨rfl, hb3⟩
      have HB3 := Lib.hid (HB2.out.trans (hb3.mono (by omega)))
      clear hb3
      go_wp2_with fail
      go_ret2
      exact ⟨by rw [HV.out.1, HV.out.2, decide_eq_true HR2.out]; rfl, HB3.out⟩
theorem implWins_lw (w : World) (lo hi : Nat) (m : M.Mz) (a b : Option Addr) (c d : Nat) (h : MzIn lo hi w m a c b d) (hz : hi ≤ w.heap.size) (_h1 : m.doors.length ≤ 1048576) (_h2 : m.keys.length ≤ 1048576) (s : Int) (_s1 : -9223372036854775808 ≤ s) (_s2 : s ≤ 9223372036854775807) (lo' hi' : Nat) (fa : Option Addr) (fc : Nat) (fs : List Int) (hf : RowIn lo' hi' w fa (M.encIs fs)) (hz' : hi' ≤ w.heap.size) (hl : fs.length ≤ 1048576) (_u1 : fs.length ≤ fc) (_u2 : fc ≤ 9223372036854775807) (_u3 : ∀ z ∈ fs, -9223372036854775808 ≤ z ∧ z ≤ 9223372036854775807) :
    Calls Try.prog 28 #[.agg #[.int .i64 m.size, .slice a m.doors.length c, .slice b m.keys.length d], .int .i64 s, .slice fa fs.length fc] w (BoolsPost w (M.fwinB m s fs) (M.filB m s fs)) := by
  have H := Lib.hid h
  have HF := Lib.hid hf
  have HU3 := Lib.hid _u3
  clear h hf _u3
  go_enter Try.func28, Try.ntmps28
  go_wp2_with fail
  refine named ?_
  intro W hW
  have hb : Below w.heap.size w W := by rw [hW]; exact below_alloc _ _
  have x1 : Box3 W w.heap.size 27 (.int .i64 m.size) (.slice a m.doors.length c) (.slice b m.keys.length d) := by rw [hW]; exact Box3.new _ _ _ _ rfl
  clear hW
  have hzw := hb.size
  refine (implLay_lw W lo hi m a b c d (H.out.below hb hz) (by omega) _h1 _h2 s _s1 _s2 lo' hi' fa fc fs (HF.out.below hb hz') (by omega) hl _u1 _u2 HU3.out).mono ?_
  rintro e w1 ⟨ra, rc, rb, rd, rfl, ho, hb1⟩
  have HB1 := Lib.hid (hb.trans (hb1.mono hzw))
  have HO := Lib.hid ho
  have hz1 := hb1.size
  clear hb hb1 x1 ho
  have HV := Lib.hid (M.laid_win m s fs)
  have HVA := Lib.hid (M.laidV_ask m s fs)
  obtain ⟨g1, g2⟩ := M.laidV_bd (m := m) s fs
  generalize M.laidV m s fs = z at *
  go_wp2_with fail
  refine named ?_
  intro W4 hW4
  have hb4 : Below w1.heap.size w1 W4 := by rw [hW4]; exact below_alloc _ _
  clear hW4
  have HB4 := Lib.hid (HB1.out.trans (hb4.mono (by omega)))
  have hz4 := hb4.size
  refine (implCan_lw W4 W.heap.size w1.heap.size z ra rb rc rd (HO.out.mz.below hb4 (Nat.le_refl _)) hz4 g1 g2 0 (by decide) (by decide)).mono ?_
  rintro e w5 ⟨rfl, hb5⟩
  have HB5 := Lib.hid (HB4.out.trans (hb5.mono (by omega)))
  clear hb5
  go_wp2_with fail
  go_ret2
  exact ⟨by rw [← HV.out, ← HVA.out]; rfl, HB5.out⟩
theorem implDepth_lw (w : World) (lo hi : Nat) (m : M.Mz) (a b : Option Addr) (c d : Nat) (h : MzIn lo hi w m a c b d) (hz : hi ≤ w.heap.size) (_h1 : m.doors.length ≤ 1048576) (_h2 : m.keys.length ≤ 1048576) (s : Int) (_s1 : -9223372036854775808 ≤ s) (_s2 : s ≤ 9223372036854775807) (lo' hi' : Nat) (fa : Option Addr) (fc : Nat) (fs : List Int) (hf : RowIn lo' hi' w fa (M.encIs fs)) (hz' : hi' ≤ w.heap.size) (hl : fs.length ≤ 1048576) (_u1 : fs.length ≤ fc) (_u2 : fc ≤ 9223372036854775807) (_u3 : ∀ z ∈ fs, -9223372036854775808 ≤ z ∧ z ≤ 9223372036854775807) :
    Calls Try.prog 30 #[.agg #[.int .i64 m.size, .slice a m.doors.length c, .slice b m.keys.length d], .int .i64 s, .slice fa fs.length fc] w (fun e w' => e = .returned (.tuple #[.int .i64 (M.fdepV m s fs), .bool (M.fwinB m s fs)]) ∧ Below w.heap.size w w') := by
  have H := Lib.hid h
  have HF := Lib.hid hf
  have HU3 := Lib.hid _u3
  clear h hf _u3
  go_enter Try.func30, Try.ntmps30
  go_wp2_with fail
  refine named ?_
  intro W hW
  have hb : Below w.heap.size w W := by rw [hW]; exact below_alloc _ _
  have x1 : Box3 W w.heap.size 27 (.int .i64 m.size) (.slice a m.doors.length c) (.slice b m.keys.length d) := by rw [hW]; exact Box3.new _ _ _ _ rfl
  clear hW
  have hzw := hb.size
  refine (implLay_lw W lo hi m a b c d (H.out.below hb hz) (by omega) _h1 _h2 s _s1 _s2 lo' hi' fa fc fs (HF.out.below hb hz') (by omega) hl _u1 _u2 HU3.out).mono ?_
  rintro e w1 ⟨ra, rc, rb, rd, rfl, ho, hb1⟩
  have HB1 := Lib.hid (hb.trans (hb1.mono hzw))
  have HO := Lib.hid ho
  have hz1 := hb1.size
  clear hb hb1 x1 ho
  have HV := Lib.hid (M.laid_dep m s fs)
  have HVA := Lib.hid (M.laidV_ask m s fs)
  obtain ⟨g1, g2⟩ := M.laidV_bd (m := m) s fs
  generalize M.laidV m s fs = z at *
  go_wp2_with fail
  refine named ?_
  intro W4 hW4
  have hb4 : Below w1.heap.size w1 W4 := by rw [hW4]; exact below_alloc _ _
  clear hW4
  have HB4 := Lib.hid (HB1.out.trans (hb4.mono (by omega)))
  have hz4 := hb4.size
  refine (implWin_lw W4 W.heap.size w1.heap.size z ra rb rc rd (HO.out.mz.below hb4 (Nat.le_refl _)) hz4 g1 g2 0 (by decide) (by decide)).mono ?_
  rintro e w5 ⟨rfl, hb5⟩
  have HB5 := Lib.hid (HB4.out.trans (hb5.mono (by omega)))
  clear hb5
  go_wp2_with fail
  go_ret2
  exact ⟨by rw [← HV.out.1, ← HV.out.2]; rfl, HB5.out⟩
end C
end Go.Proofs.Ytddpjjdncmokmaa
