/-
  CONTRACT of impl.RepaintMaze: the maze with other colours, in memory of its own, or the empty one and false; what lay in memory stays. No condition but that the arguments read so.
-/
import Derived.Test.YtmccpjdgnenmeaaPaint
import Derived.Test.YtmccpjdgnenmeaaAdd
import Derived.Test.YtmccpjdgnenmeaaMzAt
import Derived.Test.YtmccpjdgnenmeaaPutI
import Derived.OwnWalk
namespace Go.Proofs.Ytmccpjdgnenmeaa
open Go.RowKit
namespace C
set_option maxHeartbeats 3200000
set_option maxRecDepth 20000
theorem implRp_lw (w : World) (lo hi : Nat) (m : M.Mz) (a b : Option Addr) (c d : Nat) (h : MzIn lo hi w m a c b d) (hz : hi ≤ w.heap.size) (h1 : m.doors.length ≤ 1048576) (h2 : m.keys.length ≤ 1048576) (lo' hi' : Nat) (ta : Option Addr) (tc : Nat) (nt : List Int) (ht : RowIn lo' hi' w ta (M.encIs nt)) (hz' : hi' ≤ w.heap.size) (hl : nt.length ≤ 1048576) (_u1 : nt.length ≤ tc) (_u2 : tc ≤ 9223372036854775807) (_u3 : ∀ z ∈ nt, -9223372036854775808 ≤ z ∧ z ≤ 9223372036854775807) :
    Calls Try.prog 38 #[.agg #[.int .i64 m.size, .slice a m.doors.length c, .slice b m.keys.length d], .slice ta nt.length tc] w (MzOkPost w (M.rpV m nt) (M.rpB m nt)) := by
  have H := Lib.hid h
  have HT := Lib.hid ht
  clear h ht _u3
  go_enter Try.func38, Try.ntmps38
  go_wp2_with fail
  refine named ?_
  intro W hW
  have hb : Below w.heap.size w W := by rw [hW]; exact ((below_alloc _ _).alloc (by simp) _).alloc (by simp; omega) _
  have x1 : Box3 W w.heap.size 27 (.int .i64 m.size) (.slice a m.doors.length c) (.slice b m.keys.length d) := by rw [hW]; exact ((Box3.new _ _ _ _ rfl).alloc _).alloc _
  have y1 : Box3 W (w.heap.size + 1 + 1) 27 (.int .i64 0) (.slice none 0 0) (.slice none 0 0) := by rw [hW]; exact Box3.new _ _ _ _ (by simp)
  have i1 : Box1 W (w.heap.size + 1) 25 (.slice ta nt.length tc) := by rw [hW]; exact (Box1.new _ _ (by simp)).alloc _
  clear hW
  have hzw := hb.size
  have hwl := y1.lt
  refine (isMaze_any W lo hi m a b c d (H.out.below hb hz) (by omega)).mono ?_
  rintro e w1 ⟨rfl, hb1⟩
  have X1 := Lib.hid (x1.below hb1)
  have Y1 := Lib.hid (y1.below hb1)
  have I1 := Lib.hid (show Box1 w1 (w.heap.size + 1) 25 (.slice ta nt.length tc) from (hb1.block _ i1.lt).trans i1)
  have hbl := Y1.out.lt
  have HB1 := Lib.hid (hb.trans (hb1.mono hzw))
  have hz1w := hb1.size
  clear hb hb1 x1 y1 i1
  obtain ⟨c0, c1, c2⟩ := X1.out.cells
  have ci := cell_of_row w1 (w.heap.size + 1) 0 _ _ _ I1.out
  obtain ⟨k0, k1, k2⟩ := Y1.out.cells
  obtain ⟨f0, f1, f2⟩ := Y1.out.free
  cases q0 : M.mazeB m with
  | false =>
    have HF : Hid (M.rpB m nt = false) := Lib.hid (by unfold M.rpB; rw [q0]; rfl)
    have HV := Lib.hid (M.rpV_no HF.out)
    clear q0
    go_wp2_with fail
    refine bodyPost_ret (v := .tuple #[.agg #[.int .i64 0, .slice none 0 0, .slice none 0 0], .bool false]) (by simp [results, Try.results38, go_sem, k0, k1, k2]) rfl ?_
    rw [HF.out, HV.out]
    exact mzNo_endAt HB1.out (by omega)
  | true =>
    have HM := Lib.hid q0
    have HVA := Lib.hid (M.valid_of q0)
    clear q0
    have LO := isRen_any w1 lo' hi' ta tc nt 6 (HT.out.below HB1.out hz') (by omega) hl (by omega) (by omega)
    rw [show ((6 : Nat) : Int) = 6 from rfl] at LO
    go_wp2_with fail
    refine LO.mono ?_
    clear LO
    rintro e w2 ⟨rfl, hb2⟩
    have X2 := Lib.hid (X1.out.below hb2)
    have Y2 := Lib.hid (Y1.out.below hb2)
    have I2 := Lib.hid (show Box1 w2 (w.heap.size + 1) 25 (.slice ta nt.length tc) from (hb2.block _ I1.out.lt).trans I1.out)
    have HB2 := Lib.hid (HB1.out.trans (hb2.mono (by omega)))
    have hz2w := hb2.size
    clear hb2 c0 c1 c2 k0 k1 k2 f0 f1 f2 ci
    obtain ⟨c0, c1, c2⟩ := X2.out.cells
    have ci := cell_of_row w2 (w.heap.size + 1) 0 _ _ _ I2.out
    obtain ⟨k0, k1, k2⟩ := Y2.out.cells
    obtain ⟨f0, f1, f2⟩ := Y2.out.free
    have hbl2 := Y2.out.lt
    cases q1 : M.orderB nt 6 with
    | false =>
      have HF : Hid (M.rpB m nt = false) := Lib.hid (by unfold M.rpB; rw [q1, Bool.and_false])
      have HV := Lib.hid (M.rpV_no HF.out)
      clear q1
      go_wp2_with fail
      refine bodyPost_ret (v := .tuple #[.agg #[.int .i64 0, .slice none 0 0, .slice none 0 0], .bool false]) (by simp [results, Try.results38, go_sem, k0, k1, k2]) rfl ?_
      rw [HF.out, HV.out]
      exact mzNo_endAt HB2.out (by omega)
    | true =>
      have HF : Hid (M.rpB m nt = true) := Lib.hid (by unfold M.rpB; rw [q1, HM.out]; rfl)
      have HO := Lib.hid q1
      have v30 := HVA.out.few
      have vk := HVA.out.keysLen
      have v12 := HVA.out.size12
      clear q1
      have CW := withSetsP_any 80 #[.pointer (some ⟨w.heap.size + 1, 0, none⟩)] (M.paintF nt) (fun x => 0 ≤ x ∧ x < 64) (enters_of Try.func80 (by kernel_rfl) rfl) w2 lo hi m a b c d
        (fun W' z hzp hq => by
          obtain ⟨n, rfl⟩ : ∃ n : Nat, z = (n : Int) := ⟨z.toNat, by omega⟩
          exact paint1_any (w.heap.size + 1) nt ta tc lo' hi' n (by omega) HO.out W' ((HT.out.below HB2.out hz').below hq (by omega)) (by have := hq.size; omega) ((hq.cell (p := ⟨w.heap.size + 1, 0, none⟩) (show w.heap.size + 1 < w2.heap.size by omega)).trans ci) (by have := hq.size; omega))
        (fun k hk => by have := HVA.out.door k hk; omega) (fun k hk => HVA.out.key k hk) (H.out.below HB2.out hz) (by omega) h1 h2
      have CWH := Lib.hid CW
      clear CW
      go_wp2_with fail
      refine CWH.out.mono ?_
      rintro e w3 ⟨ca, cc, cb, cd, rfl, ho, hb3⟩
      have hz3w := hb3.size
      have hrd : (M.replaced (M.paintF nt) m).doors.length ≤ 1048576 := by unfold M.replaced; simp; omega
      have hrk : (M.replaced (M.paintF nt) m).keys.length ≤ 1048576 := by unfold M.replaced; simp; omega
      have IN := inOrder_any w3 w2.heap.size w3.heap.size (M.replaced (M.paintF nt) m) ca cb cc cd ho (Nat.le_refl _) hrd hrk
      rw [M.rpV_sorted HF.out, M.rpB_sorted HF.out] at IN
      have INH := Lib.hid IN
      have Y3 := Lib.hid (Y2.out.below hb3)
      have HB3 := Lib.hid (HB2.out.trans (hb3.mono (by omega)))
      clear IN ho hb3 hrd hrk c0 c1 c2 k0 k1 k2 f0 f1 f2 ci CWH
      generalize M.replaced (M.paintF nt) m = R at *
      go_wp2_with fail
      refine INH.out.mono ?_
      rintro e w8 ⟨ra, rc, rb, rd, rfl, ho8, hturn⟩
      have hz8 := hturn.size
      have Y8 := Y3.out.turned hturn (.inl (by omega))
      have HO8 := Lib.hid ho8
      have HT8 := Lib.hid hturn
      clear ho8 hturn
      obtain ⟨k0, k1, k2⟩ := Y8.cells
      obtain ⟨f0, f1, f2⟩ := Y8.free
      have hyl8 := Y8.lt
      obtain ⟨q0, q1, q2⟩ := (Y8.setAll (.int .i64 (M.rpV m nt).size) (.slice ra (M.rpV m nt).doors.length rc) (.slice rb (M.rpV m nt).keys.length rd)).cells
      clear Y8
      go_wp2_with fail
      refine bodyPost_ret (v := .tuple #[.agg #[.int .i64 (M.rpV m nt).size, .slice ra (M.rpV m nt).doors.length rc, .slice rb (M.rpV m nt).keys.length rd], .bool true]) (by simp [results, Try.results38, go_sem, q0, q1, q2]) rfl ?_
      rw [HF.out]
      exact mzYes_endAt (lo := w2.heap.size) (hi := w8.heap.size) (Below.thenTurned HB3.out HT8.out (by omega) (by omega)) HO8.out (.inl (by omega)) (by omega) (by omega) (Nat.le_refl _) rfl rfl
end C
end Go.Proofs.Ytmccpjdgnenmeaa
