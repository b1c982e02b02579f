/-
  CONTRACTS of impl.Maze.nodesOfOrder, IsEntryOrder, NextNodes; what lay in memory stays. No condition but that memory reads so, lists of at most 1048576 numbers.
-/
import Derived.Test.YtdjmmgfjcchloaaNextI
import Derived.Test.YtdjmmgfjcchloaaOrdMath3
import Derived.Test.YtdjmmgfjcchloaaDoorsAt
import Derived.Test.YtdjmmgfjcchloaaBoolOk
namespace Go.Proofs.Ytdjmmgfjcchloaa
open Go.RowKit
namespace M
theorem bit_testZ {n p : Nat} (h : n < 4096) : (bits .and .i64 ((n : Int) / 2 ^ p) 1 == 0) = !digB n p := bit_test0 h
end M
namespace C
set_option maxHeartbeats 3200000
set_option maxRecDepth 20000
theorem nodesOfOrder_any (w : World) (lo hi : Nat) (m : M.Mz) (a b : Option Addr) (c d : Nat) (h : MzIn lo hi w m a c b d) (hz : hi ≤ w.heap.size) (V : M.Valid m) (lo' hi' : Nat) (wa : Option Addr) (wc : Nat) (l : List Int) (hw : RowIn lo' hi' w wa (M.encIs l)) (hz' : hi' ≤ w.heap.size) (hl : l.length ≤ 1048576) :
    Calls Try.prog 59 #[.agg #[.int .i64 m.size, .slice a m.doors.length c, .slice b m.keys.length d], .slice wa l.length wc] w fun e w' => e = .returned (.tuple #[.int .i64 (M.orderN m l : Nat), .bool (decide (M.orderN m l ≠ 0))]) ∧ Below w.heap.size w w' := by
  have H := Lib.hid h
  have HW := Lib.hid hw
  have HV := Lib.hid V
  have v12 := V.size12
  clear h hw V
  go_enter Try.func59, Try.ntmps59
  go_wp2_with fail
  refine wp_named ?_
  intro W1 hW1
  have HB1 := Lib.hid (show Below w.heap.size w W1 by rw [hW1]; exact below_alloc _ _)
  have X1 := Lib.hid (show Box3 W1 w.heap.size 29 (.int .i64 m.size) (.slice a m.doors.length c) (.slice b m.keys.length d) by rw [hW1]; exact Box3.new _ _ _ _ rfl)
  clear hW1
  have hz1 := HB1.out.size
  go_loopw [6, 8, 11] (fun v _ i wr => ∃ (k n : Nat), k ≤ l.length ∧ i = .int .i64 k ∧ v = .int .i64 (n : Int) ∧ M.ordF m 0 (l.take k) = some n ∧ Below W1.heap.size W1 wr) (fun _ _ i _ => l.length - (intOf i).toNat)
  case atStart => exact ⟨0, 0, Nat.zero_le _, rfl, rfl, rfl, Below.refl _ _⟩
  case round =>
    obtain ⟨k, n, hk, rfl, rfl, hord, hni⟩ := hrel
    have HI := Lib.hid hni
    have HR := Lib.hid hord
    have hzi := hni.size
    have hn4 := M.ordF_lt HV.out hord (by decide)
    have HNK := Lib.hid (M.ordF_in hord M.zero_in)
    have HBI := Lib.hid (HB1.out.trans (hni.mono hz1))
    have XI := Lib.hid (X1.out.below hni)
    have hbl := XI.out.lt
    obtain ⟨c0, c1, c2⟩ := XI.out.cells
    clear hni hord
    by_cases hkl : k < l.length
    · have hrow := HW.out.below HBI.out hz'
      obtain ⟨lb, off, rfl, _, hdb, hc0⟩ := hrow.at_ (k := k) (by rw [M.encIs_len]; exact hkl)
      have a0 := hc0 _ _ (M.encIs_at hkl)
      have hdl : lb < wr.heap.size := by omega
      have HTK := Lib.hid (M.ordF_take hkl HR.out)
      clear hc0 hrow
      generalize l[k] = x at *
      cases hno : M.nodeB m.size x with
      | false =>
        have HF : Hid (M.orderN m l = 0) := Lib.hid (M.order_none (M.ordF_bad (k := k + 1) (by rw [HTK.out, hno]; rfl)))
        have HNO := Lib.hid hno
        clear hno
        go_wp2_with fail
        refine (hasNode_any m _ _ _ _ _ _).mono ?_
        rintro e w5 ⟨rfl, rfl⟩
        rw [HNO.out]
        go_wp2_with fail
        refine bodyPost_ret (results_tmp2 rfl _ _ _) rfl ?_
        rw [HF.out]
        exact ⟨rfl, HBI.out.alloc (by omega) _⟩
      | true =>
        obtain ⟨x0, x1⟩ : 0 ≤ x ∧ x < m.size := by unfold M.nodeB at hno; rwa [decide_eq_true_iff] at hno
        obtain ⟨q, rfl⟩ : ∃ q : Nat, x = (q : Int) := ⟨x.toNat, by omega⟩
        have HNO := Lib.hid hno
        have hq0 : ¬ (q : Int) < 0 := by omega
        have hnx := M.nextN_lt m n
        have hbt := M.bit_testZ (p := q) hnx
        clear hno
        go_wp2_with fail
        refine (hasNode_any m _ _ _ _ _ _).mono ?_
        rintro e w5 ⟨rfl, rfl⟩
        rw [HNO.out]
        have hb5 : Below wr.heap.size wr _ := below_alloc wr (.cells #[.int .i64 m.size, .slice a m.doors.length c, .slice b m.keys.length d] 29)
        obtain ⟨e0, e1, e2⟩ := (XI.out.below hb5).cells
        go_wp2_with fail
        refine (nextTo_any _ lo hi m a b c d (H.out.below (HBI.out.trans (hb5.mono (by omega))) hz) (by simp; omega) HV.out n hn4 HNK.out).mono ?_
        rintro e w6 ⟨rfl, hb6⟩
        have HB6 := Lib.hid (HI.out.trans ((hb5.trans (hb6.mono (by simp))).mono hzi))
        clear hb6 hb5 e0 e1 e2
        cases hd : M.digB (M.nextN m n) q with
        | false =>
          have HF : Hid (M.orderN m l = 0) := Lib.hid (M.order_none (M.ordF_bad (k := k + 1) (by rw [HTK.out, Int.toNat_natCast, hd]; exact if_neg (fun h => by cases h.2))))
          rw [hd] at hbt
          clear hd
          go_wp2_with fail
          refine bodyPost_ret (results_tmp2 rfl _ _ _) rfl ?_
          rw [HF.out]
          exact ⟨rfl, HB1.out.trans (HB6.out.mono hz1)⟩
        | true =>
          have HT : Hid (M.ordF m 0 (l.take (k + 1)) = some (n ||| 2 ^ q)) := Lib.hid (by rw [HTK.out, Int.toNat_natCast, HNO.out, hd]; rfl)
          rw [hd] at hbt
          have hwp := M.wrap_pow (k := q) (by omega)
          have hor : bits .or .i64 (n : Int) (2 ^ q) = ((n ||| 2 ^ q : Nat) : Int) := M.orP hn4 (by omega)
          clear hd
          go_wp2_with fail
          go_roundw
          case rel => exact ⟨k + 1, n ||| 2 ^ q, by omega, by go_num, by first | rfl | rw [hor], HT.out, HB6.out⟩
          case measure => simp [intOf]; omega
    · obtain rfl : k = l.length := by omega
      have hor := HR.out
      rw [List.take_of_length_le (Nat.le_refl _)] at hor
      have HF := Lib.hid (M.order_some hor)
      clear hor
      go_wp2_with fail
      refine bodyPost_ret (results_tmp2 rfl _ _ _) rfl ?_
      rw [HF.out]
      refine ⟨?_, HBI.out⟩
      have : (decide (n ≠ 0)) = ((n : Int) != 0) := by rw [Bool.eq_iff_iff]; simp
      rw [this]
      rfl
theorem implIsOrder_lw (w : World) (lo hi : Nat) (m : M.Mz) (a b : Option Addr) (c d : Nat) (h : MzIn lo hi w m a c b d) (hz : hi ≤ w.heap.size) (_h1 : m.doors.length ≤ 1048576) (_h2 : m.keys.length ≤ 1048576) (lo' hi' : Nat) (wa : Option Addr) (wc : Nat) (walk : List Int) (hw : RowIn lo' hi' w wa (M.encIs walk)) (hz' : hi' ≤ w.heap.size) (hl : walk.length ≤ 1048576) (_u1 : walk.length ≤ wc) (_u2 : wc ≤ 9223372036854775807) (_u3 : ∀ z ∈ walk, -9223372036854775808 ≤ z ∧ z ≤ 9223372036854775807) :
    Calls Try.prog 20 #[.agg #[.int .i64 m.size, .slice a m.doors.length c, .slice b m.keys.length d], .slice wa walk.length wc] w (BoolOkPost w (M.ordB m walk) (M.mazeB m)) := by
  have H := Lib.hid h
  have HW := Lib.hid hw
  clear h hw
  go_enter Try.func20, Try.ntmps20
  go_wp2_with fail
  refine named ?_
  intro W hW
  have hb : Below w.heap.size w W := by rw [hW]; exact below_alloc _ _
  have x1 : Box3 W w.heap.size 29 (.int .i64 m.size) (.slice a m.doors.length c) (.slice b m.keys.length d) := by rw [hW]; exact Box3.new _ _ _ _ rfl
  clear hW
  have hzw := hb.size
  refine (isMaze_any W lo hi m a b c d (H.out.below hb hz) (by omega)).mono ?_
  rintro e w1 ⟨rfl, hb1⟩
  have X1 := Lib.hid (x1.below hb1)
  have HB1 := Lib.hid (hb.trans (hb1.mono hzw))
  have hz1 := hb1.size
  clear hb hb1 x1
  obtain ⟨c0, c1, c2⟩ := X1.out.cells
  cases q0 : M.mazeB m with
  | false =>
    have HF := Lib.hid (M.ordB_no q0 walk)
    have HM := Lib.hid q0
    clear q0
    go_wp2_with fail
    go_ret2
    rw [HF.out, HM.out]
    exact ⟨rfl, HB1.out⟩
  | true =>
    have HF := Lib.hid (M.ordB_yes q0 walk)
    have HV := Lib.hid (M.valid_of q0)
    have HM := Lib.hid q0
    clear q0
    go_wp2_with fail
    refine (nodesOfOrder_any w1 lo hi m a b c d (H.out.below HB1.out hz) (by omega) HV.out lo' hi' wa wc walk (HW.out.below HB1.out hz') (by omega) hl).mono ?_
    rintro e w2 ⟨rfl, hb2⟩
    have HB2 := Lib.hid (HB1.out.trans (hb2.mono (by omega)))
    rw [← HF.out]
    clear hb2
    go_wp2_with fail
    go_ret2
    rw [HM.out]
    exact ⟨rfl, HB2.out⟩
theorem implNext_lw (w : World) (lo hi : Nat) (m : M.Mz) (a b : Option Addr) (c d : Nat) (h : MzIn lo hi w m a c b d) (hz : hi ≤ w.heap.size) (_h1 : m.doors.length ≤ 1048576) (_h2 : m.keys.length ≤ 1048576) (lo' hi' : Nat) (wa : Option Addr) (wc : Nat) (walk : List Int) (hw : RowIn lo' hi' w wa (M.encIs walk)) (hz' : hi' ≤ w.heap.size) (hl : walk.length ≤ 1048576) (_u1 : walk.length ≤ wc) (_u2 : wc ≤ 9223372036854775807) (_u3 : ∀ z ∈ walk, -9223372036854775808 ≤ z ∧ z ≤ 9223372036854775807) :
    Calls Try.prog 52 #[.agg #[.int .i64 m.size, .slice a m.doors.length c, .slice b m.keys.length d], .slice wa walk.length wc] w (IntsOkPost w (M.nextV m walk) (M.ordB m walk)) := by
  have H := Lib.hid h
  have HW := Lib.hid hw
  clear h hw
  go_enter Try.func52, Try.ntmps52
  go_wp2_with fail
  refine named ?_
  intro W hW
  have hb : Below w.heap.size w W := by rw [hW]; exact below_alloc _ _
  have x1 : Box3 W w.heap.size 29 (.int .i64 m.size) (.slice a m.doors.length c) (.slice b m.keys.length d) := by rw [hW]; exact Box3.new _ _ _ _ rfl
  clear hW
  have hzw := hb.size
  refine (isMaze_any W lo hi m a b c d (H.out.below hb hz) (by omega)).mono ?_
  rintro e w1 ⟨rfl, hb1⟩
  have X1 := Lib.hid (x1.below hb1)
  have HB1 := Lib.hid (hb.trans (hb1.mono hzw))
  have hz1 := hb1.size
  clear hb hb1 x1
  obtain ⟨c0, c1, c2⟩ := X1.out.cells
  cases q0 : M.mazeB m with
  | false =>
    have HF := Lib.hid (M.ordB_no q0 walk)
    clear q0
    go_wp2_with fail
    go_ret2
    rw [HF.out, M.nextV_no HF.out]
    exact intsOk_end (l := []) (ownsRow_empty _ _ _ _ (by omega)) (HB1.out.alloc (by omega) _)
  | true =>
    have HF := Lib.hid (M.ordB_yes q0 walk)
    have HV := Lib.hid (M.valid_of q0)
    obtain ⟨ho4, hok⟩ := M.orderN_ok HV.out walk
    have HOK := Lib.hid hok
    clear q0 hok
    go_wp2_with fail
    refine (nodesOfOrder_any w1 lo hi m a b c d (H.out.below HB1.out hz) (by omega) HV.out lo' hi' wa wc walk (HW.out.below HB1.out hz') (by omega) hl).mono ?_
    rintro e w2 ⟨rfl, hb2⟩
    have HB2 := Lib.hid (HB1.out.trans (hb2.mono (by omega)))
    have X2 := Lib.hid (X1.out.below hb2)
    have hz2 := hb2.size
    rw [← HF.out]
    clear hb2 c0 c1 c2
    obtain ⟨c0, c1, c2⟩ := X2.out.cells
    cases hob : M.ordB m walk with
    | false =>
      have HO := Lib.hid hob
      clear hob
      go_wp2_with fail
      go_ret2
      rw [M.nextV_no HO.out, HO.out]
      exact intsOk_end (l := []) (ownsRow_empty _ _ _ _ (by omega)) (HB2.out.alloc (by omega) _)
    | true =>
      have HNV := Lib.hid (M.nextV_yes hob)
      have HOB := Lib.hid hob
      have hne : M.orderN m walk ≠ 0 := by rw [HF.out] at hob; simpa using hob
      have HDN := Lib.hid (M.digs_nextN HV.out hne)
      have hnx := M.nextN_lt m (M.orderN m walk)
      clear hob hne
      generalize M.orderN m walk = n at *
      go_wp2_with fail
      refine (nextTo_any w2 lo hi m a b c d (H.out.below HB2.out hz) (by omega) HV.out n ho4 HOK.out).mono ?_
      rintro e w3 ⟨rfl, hb3⟩
      have HB3 := Lib.hid (HB2.out.trans (hb3.mono (by omega)))
      have hz3 := hb3.size
      clear hb3
      go_wp2_with fail
      refine (digits_any _ hnx w3).mono ?_
      rintro e w4 ⟨ra, rc, rfl, ho, hq1, hq2, hb4⟩
      rw [HDN.out] at ho hq1 ⊢
      have HO := Lib.hid ho
      have HB4 := Lib.hid (HB3.out.trans (hb4.mono (by omega)))
      clear ho hb4
      go_wp2_with fail
      go_ret2
      rw [HNV.out, HOB.out]
      exact ⟨ra, rc, rfl, HO.out.mono (by omega) (Nat.le_refl _), hq1, hq2, HB4.out⟩
end C
end Go.Proofs.Ytdjmmgfjcchloaa
