/-
  CONTRACTS of the model's AssumedFilling, ForwardFilling. No condition but that the maze and the lists read so.
-/
import Derived.Test.YtddpjjdncmokmaaFillS
namespace Go.Proofs.Ytddpjjdncmokmaa
open Go.RowKit
namespace M
noncomputable def fillW (fw : Bool) (m : Mz) (s : Int) (o ch : List Int) : List Int := if makesB m s o ch then fillV fw m s o ch else []
theorem fillW_yes {fw : Bool} {m : Mz} {s : Int} {o ch : List Int} (h : makesB m s o ch = true) : fillW fw m s o ch = fillV fw m s o ch := by unfold fillW; rw [if_pos h]
theorem fillW_no {fw : Bool} {m : Mz} {s : Int} {o ch : List Int} (h : makesB m s o ch = false) : fillW fw m s o ch = [] := by unfold fillW; rw [h]; rfl
theorem fillW_len (fw : Bool) (m : Mz) (s : Int) (o ch : List Int) : (fillW fw m s o ch).length ≤ 1048576 := by
  unfold fillW
  split
  · rw [fillV_len]; have := many_le s; omega
  · simp
end M
namespace C
set_option linter.unusedVariables false
set_option maxHeartbeats 3200000
set_option maxRecDepth 20000
theorem specAss_lw (w : World) (lo hi : Nat) (m : M.Mz) (a b : Option Addr) (c d : Nat) (h : MzIn lo hi w m a c b d) (hz : hi ≤ w.heap.size) (_h1 : m.doors.length ≤ 1048576) (_h2 : m.keys.length ≤ 1048576) (s : Int) (_s1 : -9223372036854775808 ≤ s) (_s2 : s ≤ 9223372036854775807) (ol oh : Nat) (oa : Option Addr) (oc : Nat) (o : List Int) (ho : RowIn ol oh w oa (M.encIs o)) (hzo : oh ≤ w.heap.size) (hlo : o.length ≤ 1048576) (_u1o : o.length ≤ oc) (_u2o : oc ≤ 9223372036854775807) (_u3o : ∀ z ∈ o, -9223372036854775808 ≤ z ∧ z ≤ 9223372036854775807) (cl ch' : Nat) (ca : Option Addr) (cc : Nat) (ch : List Int) (hc : RowIn cl ch' w ca (M.encIs ch)) (hzc : ch' ≤ w.heap.size) (hlc : ch.length ≤ 1048576) (_u1ch : ch.length ≤ cc) (_u2ch : cc ≤ 9223372036854775807) (_u3ch : ∀ z ∈ ch, -9223372036854775808 ≤ z ∧ z ≤ 9223372036854775807) :
    Calls Try.prog 40 #[.agg #[.int .i64 m.size, .slice a m.doors.length c, .slice b m.keys.length d], .int .i64 s, .slice oa o.length oc, .slice ca ch.length cc] w (IntsOkPost w (M.fillW false m s o ch) (M.makesB m s o ch)) := by
  have H := Lib.hid h
  have HO := Lib.hid ho
  have HC := Lib.hid hc
  clear h ho hc _u3o _u3ch
  go_enter Try.func40, Try.ntmps40
  go_wp2_with fail
  refine named ?_
  intro W hW
  have hb : Below w.heap.size w W := by rw [hW]; exact below_alloc _ _
  have x1 : Box3 W w.heap.size 27 (.int .i64 m.size) (.slice a m.doors.length c) (.slice b m.keys.length d) := by rw [hW]; exact Box3.new _ _ _ _ rfl
  clear hW
  have hzw := hb.size
  refine (makes9_any W lo hi m a b c d (H.out.below hb hz) (by omega) s ol oh oa oc o (HO.out.below hb hzo) (by omega) hlo cl ch' ca cc ch (HC.out.below hb hzc) (by omega) hlc).mono ?_
  rintro e w1 ⟨rfl, hb1⟩
  have HB1 := Lib.hid (hb.trans (hb1.mono hzw))
  have X1 := Lib.hid (x1.below hb1)
  have hz1 := hb1.size
  clear hb hb1 x1
  obtain ⟨c0, c1, c2⟩ := X1.out.cells
  have hxl := X1.out.lt
  cases qm : M.makesB m s o ch with
  | false =>
    have HV := Lib.hid (M.fillW_no (fw := false) qm)
    have HQ := Lib.hid qm
    clear qm
    go_wp2_with fail
    go_ret2
    rw [HV.out, HQ.out]
    exact intsOk_end (l := []) (ownsRow_empty _ _ _ _ (by omega)) (HB1.out.alloc (by omega) _)
  | true =>
    have HV := Lib.hid (M.fillW_yes (fw := false) qm)
    have HQ := Lib.hid qm
    obtain ⟨qa, qo, qc, ql⟩ := M.makes_yes qm
    have HF := Lib.hid (fill9_call w1 lo hi m a b c d (H.out.below HB1.out hz) (by omega) _h1 _h2 (M.ask_yes qa).1 s (M.setB_iff.2 (M.ask_yes qa).2) ol oh oa oc o (HO.out.below HB1.out hzo) (by omega) hlo cl ch' ca cc ch (HC.out.below HB1.out hzc) (by omega) hlc qo qc ql false)
    clear qm qa qo qc ql
    go_wp2_with fail
    refine HF.out.mono ?_
    rintro e w2 ⟨ra, rc, rfl, hr, hr1, hr2, hb2⟩
    have HR := Lib.hid hr
    have HB2 := Lib.hid (HB1.out.trans (hb2.mono (by omega)))
    clear hr hb2
    go_wp2_with fail
    go_ret2
    rw [HV.out, HQ.out]
    exact ⟨ra, rc, rfl, HR.out.mono (by omega) (Nat.le_refl _), hr1, hr2, HB2.out⟩
theorem specFwd_lw (w : World) (lo hi : Nat) (m : M.Mz) (a b : Option Addr) (c d : Nat) (h : MzIn lo hi w m a c b d) (hz : hi ≤ w.heap.size) (_h1 : m.doors.length ≤ 1048576) (_h2 : m.keys.length ≤ 1048576) (s : Int) (_s1 : -9223372036854775808 ≤ s) (_s2 : s ≤ 9223372036854775807) (ol oh : Nat) (oa : Option Addr) (oc : Nat) (o : List Int) (ho : RowIn ol oh w oa (M.encIs o)) (hzo : oh ≤ w.heap.size) (hlo : o.length ≤ 1048576) (_u1o : o.length ≤ oc) (_u2o : oc ≤ 9223372036854775807) (_u3o : ∀ z ∈ o, -9223372036854775808 ≤ z ∧ z ≤ 9223372036854775807) (cl ch' : Nat) (ca : Option Addr) (cc : Nat) (ch : List Int) (hc : RowIn cl ch' w ca (M.encIs ch)) (hzc : ch' ≤ w.heap.size) (hlc : ch.length ≤ 1048576) (_u1ch : ch.length ≤ cc) (_u2ch : cc ≤ 9223372036854775807) (_u3ch : ∀ z ∈ ch, -9223372036854775808 ≤ z ∧ z ≤ 9223372036854775807) :
    Calls Try.prog 42 #[.agg #[.int .i64 m.size, .slice a m.doors.length c, .slice b m.keys.length d], .int .i64 s, .slice oa o.length oc, .slice ca ch.length cc] w (IntsOkPost w (M.fillW true m s o ch) (M.makesB m s o ch)) := by
  have H := Lib.hid h
  have HO := Lib.hid ho
  have HC := Lib.hid hc
  clear h ho hc _u3o _u3ch
  go_enter Try.func42, Try.ntmps42
  go_wp2_with fail
  refine named ?_
  intro W hW
  have hb : Below w.heap.size w W := by rw [hW]; exact below_alloc _ _
  have x1 : Box3 W w.heap.size 27 (.int .i64 m.size) (.slice a m.doors.length c) (.slice b m.keys.length d) := by rw [hW]; exact Box3.new _ _ _ _ rfl
  clear hW
  have hzw := hb.size
  refine (makes9_any W lo hi m a b c d (H.out.below hb hz) (by omega) s ol oh oa oc o (HO.out.below hb hzo) (by omega) hlo cl ch' ca cc ch (HC.out.below hb hzc) (by omega) hlc).mono ?_
  rintro e w1 ⟨rfl, hb1⟩
  have HB1 := Lib.hid (hb.trans (hb1.mono hzw))
  have X1 := Lib.hid (x1.below hb1)
  have hz1 := hb1.size
  clear hb hb1 x1
  obtain ⟨c0, c1, c2⟩ := X1.out.cells
  have hxl := X1.out.lt
  cases qm : M.makesB m s o ch with
  | false =>
    have HV := Lib.hid (M.fillW_no (fw := true) qm)
    have HQ := Lib.hid qm
    clear qm
    go_wp2_with fail
    go_ret2
    rw [HV.out, HQ.out]
    exact intsOk_end (l := []) (ownsRow_empty _ _ _ _ (by omega)) (HB1.out.alloc (by omega) _)
  | true =>
    have HV := Lib.hid (M.fillW_yes (fw := true) qm)
    have HQ := Lib.hid qm
    obtain ⟨qa, qo, qc, ql⟩ := M.makes_yes qm
    have HF := Lib.hid (fill9_call w1 lo hi m a b c d (H.out.below HB1.out hz) (by omega) _h1 _h2 (M.ask_yes qa).1 s (M.setB_iff.2 (M.ask_yes qa).2) ol oh oa oc o (HO.out.below HB1.out hzo) (by omega) hlo cl ch' ca cc ch (HC.out.below HB1.out hzc) (by omega) hlc qo qc ql true)
    clear qm qa qo qc ql
    go_wp2_with fail
    refine HF.out.mono ?_
    rintro e w2 ⟨ra, rc, rfl, hr, hr1, hr2, hb2⟩
    have HR := Lib.hid hr
    have HB2 := Lib.hid (HB1.out.trans (hb2.mono (by omega)))
    clear hr hb2
    go_wp2_with fail
    go_ret2
    rw [HV.out, HQ.out]
    exact ⟨ra, rc, rfl, HR.out.mono (by omega) (Nat.le_refl _), hr1, hr2, HB2.out⟩
end C
end Go.Proofs.Ytddpjjdncmokmaa
