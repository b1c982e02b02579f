/-
  CONTRACTS of the program's AssumedFilling and ForwardFilling. No condition but that the maze and the lists read so.
-/
import Derived.Test.YtddpjjdncmokmaaFillI
namespace Go.Proofs.Ytddpjjdncmokmaa
open Go.RowKit
namespace C
set_option linter.unusedVariables false
set_option maxHeartbeats 3200000
set_option maxRecDepth 20000
theorem implAss_lw (w : World) (lo hi : Nat) (m : M.Mz) (a b : Option Addr) (c d : Nat) (h : MzIn lo hi w m a c b d) (hz : hi ≤ w.heap.size) (_h1 : m.doors.length ≤ 1048576) (_h2 : m.keys.length ≤ 1048576) (s : Int) (_s1 : -9223372036854775808 ≤ s) (_s2 : s ≤ 9223372036854775807) (ol oh : Nat) (oa : Option Addr) (oc : Nat) (o : List Int) (ho : RowIn ol oh w oa (M.encIs o)) (hzo : oh ≤ w.heap.size) (hlo : o.length ≤ 1048576) (_u1o : o.length ≤ oc) (_u2o : oc ≤ 9223372036854775807) (_u3o : ∀ z ∈ o, -9223372036854775808 ≤ z ∧ z ≤ 9223372036854775807) (cl ch' : Nat) (ca : Option Addr) (cc : Nat) (ch : List Int) (hc : RowIn cl ch' w ca (M.encIs ch)) (hzc : ch' ≤ w.heap.size) (hlc : ch.length ≤ 1048576) (_u1ch : ch.length ≤ cc) (_u2ch : cc ≤ 9223372036854775807) (_u3ch : ∀ z ∈ ch, -9223372036854775808 ≤ z ∧ z ≤ 9223372036854775807) :
    Calls Try.prog 41 #[.agg #[.int .i64 m.size, .slice a m.doors.length c, .slice b m.keys.length d], .int .i64 s, .slice oa o.length oc, .slice ca ch.length cc] w (IntsOkPost w (M.fillW false m s o ch) (M.makesB m s o ch)) := by
  have H := Lib.hid h
  have HO := Lib.hid ho
  have HC := Lib.hid hc
  clear h ho hc _u3o _u3ch
  go_enter Try.func41, Try.ntmps41
  go_wp2_with fail
  refine named ?_
  intro W hW
  have hb : Below w.heap.size w W := by rw [hW]; exact below_alloc _ _
  have x1 : Box3 W w.heap.size 27 (.int .i64 m.size) (.slice a m.doors.length c) (.slice b m.keys.length d) := by rw [hW]; exact Box3.new _ _ _ _ rfl
  clear hW
  have hzw := hb.size
  refine (fillW_any W lo hi m a b c d (H.out.below hb hz) (by omega) _h1 _h2 s ol oh oa oc o (HO.out.below hb hzo) (by omega) hlo cl ch' ca cc ch (HC.out.below hb hzc) (by omega) hlc).mono ?_
  rintro e w1 ⟨ra, rc, rfl, hr, hr1, hr2, hb1⟩
  have HR := Lib.hid hr
  have HB1 := Lib.hid (hb.trans (hb1.mono hzw))
  clear hr hb hb1 x1
  go_wp2_with fail
  go_ret2
  exact ⟨ra, rc, rfl, HR.out.mono (by omega) (Nat.le_refl _), hr1, hr2, HB1.out⟩
theorem implFwd_lw (w : World) (lo hi : Nat) (m : M.Mz) (a b : Option Addr) (c d : Nat) (h : MzIn lo hi w m a c b d) (hz : hi ≤ w.heap.size) (_h1 : m.doors.length ≤ 1048576) (_h2 : m.keys.length ≤ 1048576) (s : Int) (_s1 : -9223372036854775808 ≤ s) (_s2 : s ≤ 9223372036854775807) (ol oh : Nat) (oa : Option Addr) (oc : Nat) (o : List Int) (ho : RowIn ol oh w oa (M.encIs o)) (hzo : oh ≤ w.heap.size) (hlo : o.length ≤ 1048576) (_u1o : o.length ≤ oc) (_u2o : oc ≤ 9223372036854775807) (_u3o : ∀ z ∈ o, -9223372036854775808 ≤ z ∧ z ≤ 9223372036854775807) (cl ch' : Nat) (ca : Option Addr) (cc : Nat) (ch : List Int) (hc : RowIn cl ch' w ca (M.encIs ch)) (hzc : ch' ≤ w.heap.size) (hlc : ch.length ≤ 1048576) (_u1ch : ch.length ≤ cc) (_u2ch : cc ≤ 9223372036854775807) (_u3ch : ∀ z ∈ ch, -9223372036854775808 ≤ z ∧ z ≤ 9223372036854775807) :
    Calls Try.prog 43 #[.agg #[.int .i64 m.size, .slice a m.doors.length c, .slice b m.keys.length d], .int .i64 s, .slice oa o.length oc, .slice ca ch.length cc] w (IntsOkPost w (M.fillW true m s o ch) (M.makesB m s o ch)) := by
  have H := Lib.hid h
  have HO := Lib.hid ho
  have HC := Lib.hid hc
  clear h ho hc _u3o _u3ch
  go_enter Try.func43, Try.ntmps43
  go_wp2_with fail
  refine named ?_
  intro W hW
  have hb : Below w.heap.size w W := by rw [hW]; exact below_alloc _ _
  have x1 : Box3 W w.heap.size 27 (.int .i64 m.size) (.slice a m.doors.length c) (.slice b m.keys.length d) := by rw [hW]; exact Box3.new _ _ _ _ rfl
  clear hW
  have hzw := hb.size
  refine (fillE_any W lo hi m a b c d (H.out.below hb hz) (by omega) _h1 _h2 s ol oh oa oc o (HO.out.below hb hzo) (by omega) hlo cl ch' ca cc ch (HC.out.below hb hzc) (by omega) hlc).mono ?_
  rintro e w1 ⟨ra, rc, rfl, hr, hr1, hr2, hb1⟩
  have HR := Lib.hid hr
  have HB1 := Lib.hid (hb.trans (hb1.mono hzw))
  clear hr hb hb1 x1
  go_wp2_with fail
  go_ret2
  exact ⟨ra, rc, rfl, HR.out.mono (by omega) (Nat.le_refl _), hr1, hr2, HB1.out⟩
end C
end Go.Proofs.Ytddpjjdncmokmaa
