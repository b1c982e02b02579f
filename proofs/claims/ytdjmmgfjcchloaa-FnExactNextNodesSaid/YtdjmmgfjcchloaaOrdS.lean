/-
  CONTRACTS of spec.l5Order, IsEntryOrder, NextNodes; what lay in memory stays. No condition but that memory reads so, lists of at most 1048576 numbers.
-/
import Derived.Test.YtdjmmgfjcchloaaNextS
import Derived.Test.YtdjmmgfjcchloaaOrdMath3
import Derived.Test.YtdjmmgfjcchloaaDoorsAt
import Derived.Test.YtdjmmgfjcchloaaBoolOk
import Derived.Deep.RegionWith
import Derived.Deep.DeepCutAuto
namespace Go.Proofs.Ytdjmmgfjcchloaa
open Go.RowKit
namespace C
set_option maxHeartbeats 3200000
set_option maxRecDepth 20000
theorem l5Order_any (w : World) (lo hi : Nat) (m : M.Mz) (a b : Option Addr) (c d : Nat) (h : MzIn lo hi w m a c b d) (hz : hi ≤ w.heap.size) (V : M.Valid m) (lo' hi' : Nat) (wa : Option Addr) (wc : Nat) (l : List Int) (hw : RowIn lo' hi' w wa (M.encIs l)) (hz' : hi' ≤ w.heap.size) (hl : l.length ≤ 1048576) :
    Calls Try.prog 56 #[.agg #[.int .i64 m.size, .slice a m.doors.length c, .slice b m.keys.length d], .slice wa l.length wc] w fun e w' => e = .returned (.tuple #[.int .i64 (M.orderN m l : Nat), .bool (decide (M.orderN m l ≠ 0))]) ∧ Below w.heap.size w w' := by
  have H := Lib.hid h
  have HW := Lib.hid hw
  have HV := Lib.hid V
  have v12 := V.size12
  have v1 := V.size1
  clear h hw V
  rcases Nat.eq_zero_or_pos l.length with hl0 | hl0
  · obtain rfl : l = [] := List.eq_nil_of_length_eq_zero hl0
    have HF : Hid (M.orderN m [] = 0) := Lib.hid rfl
    go_enter Try.func56, Try.ntmps56
    go_wp2_with fail
    refine bodyPost_ret (results_tmp2 rfl _ _ _) rfl ?_
    rw [HF.out]
    exact ⟨rfl, below_alloc _ _⟩
  · obtain ⟨lb, off, rfl, _, hdb, hcc⟩ := HW.out.at_ (k := 0) (by rw [M.encIs_len]; exact hl0)
    have HC := Lib.hid (show ∀ k (hk : k < l.length), w.cell? ⟨lb, off + k, none⟩ = some (.int .i64 l[k]) from fun k hk => hcc _ _ (M.encIs_at hk))
    have a00 : w.cell? ⟨lb, off, none⟩ = some (.int .i64 l[0]) := by simpa using HC.out 0 hl0
    have hli : ¬ (l.length : Int) = 0 := by omega
    have hlt : 0 < l.length := hl0
    have hln : ¬ l = [] := by rintro rfl; simp at hl0
    have hlb0 : ((l.length : Int) == 0) = false := by simpa using hln
    have hlb : lb < w.heap.size := by omega
    have HFB := Lib.hid (M.first_both HV.out l[0])
    have HT1 := Lib.hid (M.ordF_take (m := m) (k := 0) (n := 0) hl0 rfl)
    clear hcc
    rcases Decidable.em (l[0] = 0) with hx0 | hx0
    · have HR1 : Hid (M.ordF m 0 (l.take 1) = some 1) := Lib.hid (by rw [HT1.out, if_pos (HFB.out.2 hx0), hx0]; rfl)
      rw [hx0] at a00
      clear hx0
      go_enter Try.func56, Try.ntmps56
      go_wp2_with fail
      refine wp_named ?_
      intro W1 hW1
      have HB1 := Lib.hid (show Below w.heap.size w W1 by rw [hW1]; exact below_alloc _ _)
      have X1 := Lib.hid (show Box3 W1 w.heap.size 29 (.int .i64 m.size) (.slice a m.doors.length c) (.slice b m.keys.length d) by rw [hW1]; exact Box3.new _ _ _ _ rfl)
      clear hW1 a00
      have hz1 := HB1.out.size
      go_loopw [6, 7] (fun v i wr => ∃ (k n : Nat), 1 ≤ k ∧ k ≤ l.length ∧ i = .int .i64 k ∧ v = .int .i64 (n : Int) ∧ M.ordF m 0 (l.take k) = some n ∧ Below W1.heap.size W1 wr) (fun _ i _ => l.length - (intOf i).toNat)
      case atStart => exact ⟨1, 1, Nat.le_refl _, by omega, rfl, rfl, HR1.out, Below.refl _ _⟩
      case round =>
        obtain ⟨k, n, hk1, hk, rfl, rfl, hord, hni⟩ := hrel
        have HI := Lib.hid hni
        have HR := Lib.hid hord
        have hzi := hni.size
        have hn4 := M.ordF_lt HV.out hord (by decide)
        have hn0 : n ≠ 0 := M.ordF_pos hord (.inr (by intro he; have h2 : (l.take k).length = k := by { rw [List.length_take]; omega }; rw [he] at h2; have h3 : 0 = k := h2; omega))
        have HNK := Lib.hid (M.ordF_in hord M.zero_in)
        have HBI := Lib.hid (HB1.out.trans (hni.mono hz1))
        have XI := Lib.hid (X1.out.below hni)
        have hbl := XI.out.lt
        obtain ⟨c0, c1, c2⟩ := XI.out.cells
        clear hni hord
        by_cases hkl : k < l.length
        · have P0 := Lib.hid ((HBI.out.cell (p := ⟨lb, off + k, none⟩) hlb).trans (HC.out k hkl))
          have p0 := P0.out
          have hlw : lb < wr.heap.size := by omega
          have HTK := Lib.hid (M.ordF_take hkl HR.out)
          have HNB := Lib.hid (M.next_both HV.out hn0 l[k])
          have hll := M.nextL_len m n
          have HL5 := Lib.hid (fun W' (hq : Below wr.heap.size wr W') => l5Next_any W' lo hi m _ b c d (H.out.below (HBI.out.trans (hq.mono (by omega))) hz) (by have := hq.size; omega) HV.out n hn4 HNK.out)
          clear hn0
          generalize hxx : l[k] = x at *
          clear hxx
          cases hno : M.memB (M.nextL m n) x with
          | false =>
            have HF : Hid (M.orderN m l = 0) := Lib.hid (M.order_none (M.ordF_bad (k := k + 1) (by rw [HTK.out]; exact if_neg (by have h1 := HNB.out; rw [hno] at h1; exact of_decide_eq_false h1.symm))))
            have HNO := Lib.hid hno
            clear hno
            go_wp2_with fail
            go_region_with (first
              | (go_at_call 87; refine (HL5.out wr.drew (Below.refl wr.heap.size wr).drew).mono ?_; rintro e w5 ⟨ra, rc, rfl, ho, hq1, hq2, hb5⟩; have hb5' : Below wr.heap.size wr w5 := (Below.refl wr.heap.size wr).drew.trans hb5; have p0 := (hb5'.cell (p := ⟨lb, off + k, none⟩) hlw).trans P0.out)
              | (go_at_call 72; refine (l1Has_any w5 _ _ ra rc _ x ho.row (by omega)).mono ?_; rintro e w7 ⟨rfl, rfl⟩; rw [HNO.out]))
            all_goals
              go_wp2_with fail
              refine bodyPost_ret (results_tmp2 rfl _ _ _) rfl ?_
              rw [HF.out]
              exact ⟨rfl, HBI.out.trans (hb5'.mono (by omega))⟩
          | true =>
            obtain ⟨hnb, hdx⟩ : M.nodeB m.size x = true ∧ M.digB (M.nextN m n) x.toNat = true := by have h1 := HNB.out; rw [hno] at h1; exact of_decide_eq_true h1.symm
            have HT : Hid (M.ordF m 0 (l.take (k + 1)) = some (n ||| 2 ^ x.toNat)) := Lib.hid (by rw [HTK.out]; exact if_pos ⟨hnb, hdx⟩)
            obtain ⟨x0, x1⟩ : 0 ≤ x ∧ x < m.size := by unfold M.nodeB at hnb; rwa [decide_eq_true_iff] at hnb
            have HNO := Lib.hid hno
            have hwp := M.wrap_pow (k := x.toNat) (by omega)
            have hor : bits .or .i64 (n : Int) (2 ^ x.toNat) = ((n ||| 2 ^ x.toNat : Nat) : Int) := M.orP hn4 (by omega)
            have hx0 : ¬ x < 0 := by omega
            clear hno hnb hdx
            go_wp2_with fail
            go_region_with (first
              | (go_at_call 87; refine (HL5.out wr.drew (Below.refl wr.heap.size wr).drew).mono ?_; rintro e w5 ⟨ra, rc, rfl, ho, hq1, hq2, hb5⟩; have hb5' : Below wr.heap.size wr w5 := (Below.refl wr.heap.size wr).drew.trans hb5; have p0 := (hb5'.cell (p := ⟨lb, off + k, none⟩) hlw).trans P0.out)
              | (go_at_call 72; refine (l1Has_any w5 _ _ ra rc _ x ho.row (by omega)).mono ?_; rintro e w7 ⟨rfl, rfl⟩; rw [HNO.out]))
            all_goals
              have hlw5 : lb < w5.heap.size := by have := hb5'.size; omega
              go_wp2_with fail
              go_roundw
              case rel => exact ⟨k + 1, n ||| 2 ^ x.toNat, by omega, by omega, by go_num, by first | rfl | rw [hor], HT.out, HI.out.trans (hb5'.mono (by omega))⟩
              case measure => simp [intOf]; omega
        · obtain rfl : k = l.length := by omega
          have hor := HR.out
          rw [List.take_of_length_le (Nat.le_refl _)] at hor
          have HF := Lib.hid (M.order_some hor)
          have hdn : decide (n ≠ 0) = true := by simpa using hn0
          have HDN := Lib.hid hdn
          clear hor hdn hn0
          go_wp2_with fail
          refine bodyPost_ret (results_tmp2 rfl _ _ _) rfl ?_
          rw [HF.out, HDN.out]
          exact ⟨rfl, HBI.out⟩
    · have HF : Hid (M.orderN m l = 0) := Lib.hid (M.order_none (M.ordF_bad (k := 1) (by rw [HT1.out]; exact if_neg (fun h => hx0 (HFB.out.1 h)))))
      generalize hyy : l[0] = y at *
      have hyb : (y == 0) = false := by simpa using hx0
      clear hyy
      go_enter Try.func56, Try.ntmps56
      go_wp2_with fail
      refine bodyPost_ret (results_tmp2 rfl _ _ _) rfl ?_
      rw [HF.out]
      exact ⟨rfl, below_alloc _ _⟩
theorem specIsOrder_lw (w : World) (lo hi : Nat) (m : M.Mz) (a b : Option Addr) (c d : Nat) (h : MzIn lo hi w m a c b d) (hz : hi ≤ w.heap.size) (_h1 : m.doors.length ≤ 1048576) (_h2 : m.keys.length ≤ 1048576) (lo' hi' : Nat) (wa : Option Addr) (wc : Nat) (walk : List Int) (hw : RowIn lo' hi' w wa (M.encIs walk)) (hz' : hi' ≤ w.heap.size) (hl : walk.length ≤ 1048576) (_u1 : walk.length ≤ wc) (_u2 : wc ≤ 9223372036854775807) (_u3 : ∀ z ∈ walk, -9223372036854775808 ≤ z ∧ z ≤ 9223372036854775807) :
    Calls Try.prog 17 #[.agg #[.int .i64 m.size, .slice a m.doors.length c, .slice b m.keys.length d], .slice wa walk.length wc] w (BoolOkPost w (M.ordB m walk) (M.mazeB m)) := by
  have H := Lib.hid h
  have HW := Lib.hid hw
  clear h hw
  go_enter Try.func17, Try.ntmps17
  go_wp2_with fail
  refine named ?_
  intro W hW
  have hb : Below w.heap.size w W := by rw [hW]; exact below_alloc _ _
  have x1 : Box3 W w.heap.size 29 (.int .i64 m.size) (.slice a m.doors.length c) (.slice b m.keys.length d) := by rw [hW]; exact Box3.new _ _ _ _ rfl
  clear hW
  have hzw := hb.size
  refine (specMaze_any W lo hi m a b c d (H.out.below hb hz) (by omega)).mono ?_
  rintro e w1 ⟨rfl, hb1⟩
  have X1 := Lib.hid (x1.below hb1)
  have HB1 := Lib.hid (hb.trans (hb1.mono hzw))
  have hz1 := hb1.size
  clear hb hb1 x1
  obtain ⟨c0, c1, c2⟩ := X1.out.cells
  cases q0 : M.mazeB m with
  | false =>
    have HF := Lib.hid (M.ordB_no q0 walk)
    have HM := Lib.hid q0
    clear q0
    go_wp2_with fail
    go_ret2
    rw [HF.out, HM.out]
    exact ⟨rfl, HB1.out⟩
  | true =>
    have HF := Lib.hid (M.ordB_yes q0 walk)
    have HV := Lib.hid (M.valid_of q0)
    have HM := Lib.hid q0
    clear q0
    go_wp2_with fail
    refine (l5Order_any w1 lo hi m a b c d (H.out.below HB1.out hz) (by omega) HV.out lo' hi' wa wc walk (HW.out.below HB1.out hz') (by omega) hl).mono ?_
    rintro e w2 ⟨rfl, hb2⟩
    have HB2 := Lib.hid (HB1.out.trans (hb2.mono (by omega)))
    rw [← HF.out]
    clear hb2
    go_wp2_with fail
    go_ret2
    rw [HM.out]
    exact ⟨rfl, HB2.out⟩
theorem specNext_lw (w : World) (lo hi : Nat) (m : M.Mz) (a b : Option Addr) (c d : Nat) (h : MzIn lo hi w m a c b d) (hz : hi ≤ w.heap.size) (_h1 : m.doors.length ≤ 1048576) (_h2 : m.keys.length ≤ 1048576) (lo' hi' : Nat) (wa : Option Addr) (wc : Nat) (walk : List Int) (hw : RowIn lo' hi' w wa (M.encIs walk)) (hz' : hi' ≤ w.heap.size) (hl : walk.length ≤ 1048576) (_u1 : walk.length ≤ wc) (_u2 : wc ≤ 9223372036854775807) (_u3 : ∀ z ∈ walk, -9223372036854775808 ≤ z ∧ z ≤ 9223372036854775807) :
    Calls Try.prog 51 #[.agg #[.int .i64 m.size, .slice a m.doors.length c, .slice b m.keys.length d], .slice wa walk.length wc] w (IntsOkPost w (M.nextV m walk) (M.ordB m walk)) := by
  have H := Lib.hid h
  have HW := Lib.hid hw
  clear h hw
  go_enter Try.func51, Try.ntmps51
  go_wp2_with fail
  refine named ?_
  intro W hW
  have hb : Below w.heap.size w W := by rw [hW]; exact below_alloc _ _
  have x1 : Box3 W w.heap.size 29 (.int .i64 m.size) (.slice a m.doors.length c) (.slice b m.keys.length d) := by rw [hW]; exact Box3.new _ _ _ _ rfl
  clear hW
  have hzw := hb.size
  refine (specMaze_any W lo hi m a b c d (H.out.below hb hz) (by omega)).mono ?_
  rintro e w1 ⟨rfl, hb1⟩
  have X1 := Lib.hid (x1.below hb1)
  have HB1 := Lib.hid (hb.trans (hb1.mono hzw))
  have hz1 := hb1.size
  clear hb hb1 x1
  obtain ⟨c0, c1, c2⟩ := X1.out.cells
  cases q0 : M.mazeB m with
  | false =>
    have HF := Lib.hid (M.ordB_no q0 walk)
    clear q0
    go_wp2_with fail
    go_ret2
    rw [HF.out, M.nextV_no HF.out]
    exact intsOk_end (l := []) (ownsRow_empty _ _ _ _ (by omega)) (HB1.out.alloc (by omega) _)
  | true =>
    have HF := Lib.hid (M.ordB_yes q0 walk)
    have HV := Lib.hid (M.valid_of q0)
    obtain ⟨ho4, hok⟩ := M.orderN_ok HV.out walk
    have HOK := Lib.hid hok
    clear q0 hok
    go_wp2_with fail
    refine (l5Order_any w1 lo hi m a b c d (H.out.below HB1.out hz) (by omega) HV.out lo' hi' wa wc walk (HW.out.below HB1.out hz') (by omega) hl).mono ?_
    rintro e w2 ⟨rfl, hb2⟩
    have HB2 := Lib.hid (HB1.out.trans (hb2.mono (by omega)))
    have X2 := Lib.hid (X1.out.below hb2)
    have hz2 := hb2.size
    rw [← HF.out]
    clear hb2 c0 c1 c2
    obtain ⟨c0, c1, c2⟩ := X2.out.cells
    cases hob : M.ordB m walk with
    | false =>
      have HO := Lib.hid hob
      clear hob
      go_wp2_with fail
      go_ret2
      rw [M.nextV_no HO.out, HO.out]
      exact intsOk_end (l := []) (ownsRow_empty _ _ _ _ (by omega)) (HB2.out.alloc (by omega) _)
    | true =>
      have HNV := Lib.hid (M.nextV_yes hob)
      have HOB := Lib.hid hob
      have hne : M.orderN m walk ≠ 0 := by rw [HF.out] at hob; simpa using hob
      clear hob hne
      generalize M.orderN m walk = n at *
      go_wp2_with fail
      refine (l5Next_any w2 lo hi m a b c d (H.out.below HB2.out hz) (by omega) HV.out n ho4 HOK.out).mono ?_
      rintro e w4 ⟨ra, rc, rfl, ho, hq1, hq2, hb4⟩
      have HO := Lib.hid ho
      have HB4 := Lib.hid (HB2.out.trans (hb4.mono (by omega)))
      clear ho hb4
      go_wp2_with fail
      go_ret2
      rw [HNV.out, HOB.out]
      exact ⟨ra, rc, rfl, HO.out.mono (by omega) (Nat.le_refl _), hq1, hq2, HB4.out⟩
end C
end Go.Proofs.Ytdjmmgfjcchloaa
