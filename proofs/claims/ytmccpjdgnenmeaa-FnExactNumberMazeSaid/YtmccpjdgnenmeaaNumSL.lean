/-
  CONTRACT of spec.NumberMaze: the maze with other numbers of its nodes, in memory of its own, or the empty one and false; what lay in memory stays. No condition but that the arguments read so.
-/
import Derived.Test.YtmccpjdgnenmeaaNumS
import Derived.Test.YtmccpjdgnenmeaaRen
import Derived.OwnWalk
namespace Go.Proofs.Ytmccpjdgnenmeaa
open Go.RowKit
namespace C
set_option maxHeartbeats 3200000
set_option maxRecDepth 20000
theorem specNum_lw (w : World) (lo hi : Nat) (m : M.Mz) (a b : Option Addr) (c d : Nat) (h : MzIn lo hi w m a c b d) (hz : hi ≤ w.heap.size) (_h1 : m.doors.length ≤ 1048576) (_h2 : m.keys.length ≤ 1048576) (lo' hi' : Nat) (ta : Option Addr) (tc : Nat) (nt : List Int) (ht : RowIn lo' hi' w ta (M.encIs nt)) (hz' : hi' ≤ w.heap.size) (hl : nt.length ≤ 1048576) (_u1 : nt.length ≤ tc) (_u2 : tc ≤ 9223372036854775807) (_u3 : ∀ z ∈ nt, -9223372036854775808 ≤ z ∧ z ≤ 9223372036854775807) :
    Calls Try.prog 30 #[.agg #[.int .i64 m.size, .slice a m.doors.length c, .slice b m.keys.length d], .slice ta nt.length tc] w (MzOkPost w (M.numV m nt) (M.numB m nt)) := by
  have H := Lib.hid h
  have HT := Lib.hid ht
  clear h ht _u3
  go_enter Try.func30, Try.ntmps30
  go_wp2_with fail
  refine named ?_
  intro W hW
  have hb : Below w.heap.size w W := by rw [hW]; exact (below_alloc _ _).alloc (by simp) _
  have x1 : Box3 W w.heap.size 27 (.int .i64 m.size) (.slice a m.doors.length c) (.slice b m.keys.length d) := by rw [hW]; exact (Box3.new _ _ _ _ rfl).alloc _
  have y1 : Box3 W (w.heap.size + 1) 27 (.int .i64 0) (.slice none 0 0) (.slice none 0 0) := by rw [hW]; exact Box3.new _ _ _ _ (by simp)
  clear hW
  have hzw := hb.size
  refine (specMaze_any W lo hi m a b c d (H.out.below hb hz) (by omega)).mono ?_
  rintro e w1 ⟨rfl, hb1⟩
  have X1 := Lib.hid (x1.below hb1)
  have Y1 := Lib.hid (y1.below hb1)
  have HB1 := Lib.hid (hb.trans (hb1.mono hzw))
  have hz1 := hb1.size
  have hbl1 := Y1.out.lt
  clear hb hb1 x1 y1
  obtain ⟨c0, c1, c2⟩ := X1.out.cells
  obtain ⟨k0, k1, k2⟩ := Y1.out.cells
  obtain ⟨f0, f1, f2⟩ := Y1.out.free
  cases q0 : M.mazeB m with
  | false =>
    have HF : Hid (M.numB m nt = false) := Lib.hid (by unfold M.numB; rw [q0]; rfl)
    have HV := Lib.hid (M.numV_no HF.out)
    clear q0
    go_wp2_with fail
    refine bodyPost_ret (v := .tuple #[.agg #[.int .i64 0, .slice none 0 0, .slice none 0 0], .bool false]) (by simp [results, Try.results30, go_sem, k0, k1, k2]) rfl ?_
    rw [HF.out, HV.out]
    exact mzNo_end HB1.out
  | true =>
    have HVA := Lib.hid (M.valid_of q0)
    have HQ := Lib.hid q0
    have hs1 := HVA.out.size1
    have hs12 := HVA.out.size12
    clear q0
    obtain ⟨n, hn⟩ : ∃ n : Nat, m.size = (n : Int) := ⟨m.size.toNat, by omega⟩
    have hnn : m.size.toNat = n := by omega
    have LO := l2Order_any w1 lo' hi' ta tc nt n (HT.out.below HB1.out hz') hl (by omega)
    rw [← hn] at LO
    have HN := Lib.hid hn
    clear hn
    go_wp2_with fail
    refine LO.mono ?_
    clear LO
    rintro e w2 ⟨rfl, rfl⟩
    cases q1 : M.orderB nt n with
    | false =>
      have HF : Hid (M.numB m nt = false) := Lib.hid (by unfold M.numB; rw [HQ.out, hnn, q1]; rfl)
      have HV := Lib.hid (M.numV_no HF.out)
      clear q1
      go_wp2_with fail
      refine bodyPost_ret (v := .tuple #[.agg #[.int .i64 0, .slice none 0 0, .slice none 0 0], .bool false]) (by simp [results, Try.results30, go_sem, k0, k1, k2]) rfl ?_
      rw [HF.out, HV.out]
      exact mzNo_end HB1.out
    | true =>
      have HF : Hid (M.numB m nt = true) := Lib.hid (by unfold M.numB; rw [HQ.out, hnn, q1]; rfl)
      have HV := Lib.hid (M.numV_yes HF.out)
      have HO : Hid (M.orderB nt m.size.toNat = true) := Lib.hid (by rw [hnn]; exact q1)
      clear q1
      go_wp2_with fail
      refine (l2Numbered_lw w1 lo hi m a b c d (H.out.below HB1.out hz) (by omega) HVA.out nt ta tc lo' hi' (HT.out.below HB1.out hz') (by omega) HO.out).mono ?_
      rintro e w4 ⟨pa, pc, pb, pd, rfl, ho, hb4⟩
      have HB4 := Lib.hid (HB1.out.trans (hb4.mono (by omega)))
      have HO4 := Lib.hid ho
      have Y4 := Lib.hid (Y1.out.below hb4)
      have hz4 := hb4.size
      have hy4 := Y4.out.lt
      clear hb4 ho c0 c1 c2 k0 k1 k2 f0 f1 f2
      obtain ⟨k0, k1, k2⟩ := Y4.out.cells
      obtain ⟨f0, f1, f2⟩ := Y4.out.free
      go_wp2_with fail
      refine bodyPost_ret (v := .tuple #[.agg #[.int .i64 (M.numOf m nt).size, .slice pa (M.numOf m nt).doors.length pc, .slice pb (M.numOf m nt).keys.length pd], .bool true]) (by simp [results, Try.results30, go_sem, k0, k1, k2]) rfl ?_
      rw [HF.out, HV.out]
      exact mzYes_end HB4.out HO4.out (by omega) (Nat.le_refl _) rfl rfl
end C
end Go.Proofs.Ytmccpjdgnenmeaa
