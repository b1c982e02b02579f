/-
  CONTRACT of impl.Maze.nodesOfList: the number of a strictly ascending list of nodes; what lay in memory stays. Condition: a valid maze, a list of at most 1048576 numbers that reads so.
-/
import Derived.Test.YtdjmmgfjcchloaaNextI
import Derived.Test.YtdjmmgfjcchloaaBigM
import Derived.Test.YtdjmmgfjcchloaaDoorsAt
namespace Go.Proofs.Ytdjmmgfjcchloaa
open Go.RowKit
namespace M
noncomputable def listN (m : Mz) (l : List Int) : Nat := if riseB m.size l then mk l else 0
theorem listN_yes {m : Mz} {l : List Int} (h : riseB m.size l = true) : listN m l = mk l := by unfold listN; rw [if_pos h]
theorem listN_no {m : Mz} {l : List Int} (h : riseB m.size l = false) : listN m l = 0 := by unfold listN; rw [h]; rfl
theorem shift_int (n q : Nat) : (((n : Int) / 2 ^ q) != 0) = decide (n / 2 ^ q ≠ 0) := by
  rw [shr_nat]
  rw [Bool.eq_iff_iff, bne_iff_ne, decide_eq_true_iff]
  constructor
  · intro h h0; exact h (by rw [h0]; rfl)
  · intro h h0; exact h (by exact_mod_cast h0)
end M
namespace C
set_option maxHeartbeats 3200000
set_option maxRecDepth 20000
theorem nodesOfList_any (w : World) (lo hi : Nat) (m : M.Mz) (a b : Option Addr) (c d : Nat) (_h : MzIn lo hi w m a c b d) (_hz : hi ≤ w.heap.size) (V : M.Valid m) (lo' hi' : Nat) (wa : Option Addr) (wc : Nat) (l : List Int) (hw : RowIn lo' hi' w wa (M.encIs l)) (hz' : hi' ≤ w.heap.size) (hl : l.length ≤ 1048576) :
    Calls Try.prog 74 #[.agg #[.int .i64 m.size, .slice a m.doors.length c, .slice b m.keys.length d], .slice wa l.length wc] w fun e w' => e = .returned (.tuple #[.int .i64 (M.listN m l : Nat), .bool (M.riseB m.size l)]) ∧ Below w.heap.size w w' := by
  have HW := Lib.hid hw
  have v12 := V.size12
  clear hw V
  go_enter Try.func74, Try.ntmps74
  go_wp2_with fail
  refine wp_named ?_
  intro W1 hW1
  have HB1 := Lib.hid (show Below w.heap.size w W1 by rw [hW1]; exact below_alloc _ _)
  have X1 := Lib.hid (show Box3 W1 w.heap.size 29 (.int .i64 m.size) (.slice a m.doors.length c) (.slice b m.keys.length d) by rw [hW1]; exact Box3.new _ _ _ _ rfl)
  clear hW1
  have hz1 := HB1.out.size
  go_loopw [6, 8, 11] (fun v _ i wr => ∃ (k : Nat), k ≤ l.length ∧ i = .int .i64 k ∧ v = .int .i64 ((M.mk (l.take k) : Nat) : Int) ∧ M.RiseTo m.size (l.take k) ∧ Below W1.heap.size W1 wr) (fun _ _ i _ => l.length - (intOf i).toNat)
  case atStart => exact ⟨0, Nat.zero_le _, rfl, rfl, M.rise_nil _, Below.refl _ _⟩
  case round =>
    obtain ⟨k, hk, rfl, rfl, hrise, hni⟩ := hrel
    have HI := Lib.hid hni
    have HR := Lib.hid hrise
    have hzi := hni.size
    obtain ⟨hn4, _⟩ := M.rise_mk v12 hrise
    have HBI := Lib.hid (HB1.out.trans (hni.mono hz1))
    have XI := Lib.hid (X1.out.below hni)
    have hbl := XI.out.lt
    obtain ⟨c0, c1, c2⟩ := XI.out.cells
    clear hni hrise
    by_cases hkl : k < l.length
    · have hrow := HW.out.below HBI.out hz'
      obtain ⟨lb, off, rfl, _, hdb, hc0⟩ := hrow.at_ (k := k) (by rw [M.encIs_len]; exact hkl)
      have a0 := hc0 _ _ (M.encIs_at hkl)
      have hdl : lb < wr.heap.size := by omega
      have HAT := Lib.hid (M.rise_at (n := m.size) hkl)
      have HMT := Lib.hid (M.mk_take hkl)
      clear hc0 hrow
      generalize l[k] = x at *
      cases hno : M.nodeB m.size x with
      | false =>
        have HF : Hid (M.riseB m.size l = false) := Lib.hid (M.rise_bad (k := k + 1) fun h => by
          have := (HAT.out.1 h).2.1
          unfold M.nodeB at hno
          rw [decide_eq_false_iff_not] at hno
          exact hno this)
        have HNO := Lib.hid hno
        clear hno
        go_wp2_with fail
        refine (hasNode_any m _ _ _ _ _ _).mono ?_
        rintro e w5 ⟨rfl, rfl⟩
        rw [HNO.out]
        go_wp2_with fail
        refine bodyPost_ret (results_tmp2 rfl _ _ _) rfl ?_
        rw [HF.out, M.listN_no HF.out]
        exact ⟨rfl, HBI.out.alloc (by omega) _⟩
      | true =>
        obtain ⟨x0, x1⟩ : 0 ≤ x ∧ x < m.size := by unfold M.nodeB at hno; rwa [decide_eq_true_iff] at hno
        obtain ⟨q, rfl⟩ : ∃ q : Nat, x = (q : Int) := ⟨x.toNat, by omega⟩
        have HNO := Lib.hid hno
        have hq0 : ¬ (q : Int) < 0 := by omega
        have hsi := M.shift_int (M.mk (l.take k)) q
        have HSH := Lib.hid (M.rise_shift HR.out q)
        clear hno
        rcases Decidable.em (M.mk (l.take k) / 2 ^ q = 0) with hs | hs
        · have HT : Hid (M.RiseTo m.size (l.take (k + 1))) := Lib.hid (HAT.out.2 ⟨HR.out, ⟨x0, x1⟩, HSH.out.1 hs⟩)
          have hsi2 : (((M.mk (l.take k) : Nat) : Int) / 2 ^ q != 0) = false := by rw [hsi]; simpa using hs
          obtain ⟨hpw, hpw2⟩ := M.wrapsP (p := q) (by omega)
          have hor := M.orP (n := M.mk (l.take k)) (q := q) hn4 (by omega)
          have HMK : Hid (M.mk (l.take (k + 1)) = M.mk (l.take k) ||| 2 ^ q) := Lib.hid (by rw [HMT.out, Int.toNat_natCast])
          clear hsi hs
          generalize M.mk (l.take k) = n at *
          go_wp2_with fail
          refine (hasNode_any m _ _ _ _ _ _).mono ?_
          rintro e w5 ⟨rfl, rfl⟩
          rw [HNO.out]
          go_wp2_with fail
          go_roundw
          case rel => exact ⟨k + 1, by omega, by go_num, by rw [HMK.out], HT.out, HI.out.alloc hzi _⟩
          case measure => simp [intOf]; omega
        · have HF : Hid (M.riseB m.size l = false) := Lib.hid (M.rise_bad (k := k + 1) fun h => hs (HSH.out.2 (HAT.out.1 h).2.2))
          have hsi2 : (((M.mk (l.take k) : Nat) : Int) / 2 ^ q != 0) = true := by rw [hsi]; simpa using hs
          clear hsi hs
          generalize M.mk (l.take k) = n at *
          go_wp2_with fail
          refine (hasNode_any m _ _ _ _ _ _).mono ?_
          rintro e w5 ⟨rfl, rfl⟩
          rw [HNO.out]
          go_wp2_with fail
          refine bodyPost_ret (results_tmp2 rfl _ _ _) rfl ?_
          rw [HF.out, M.listN_no HF.out]
          exact ⟨rfl, HBI.out.alloc (by omega) _⟩
    · obtain rfl : k = l.length := by omega
      have hr := HR.out
      rw [List.take_of_length_le (Nat.le_refl _)] at hr ⊢
      have HF := Lib.hid (M.riseB_yes hr)
      clear hr
      go_wp2_with fail
      refine bodyPost_ret (results_tmp2 rfl _ _ _) rfl ?_
      rw [HF.out, M.listN_yes HF.out]
      exact ⟨rfl, HBI.out⟩
end C
end Go.Proofs.Ytdjmmgfjcchloaa
