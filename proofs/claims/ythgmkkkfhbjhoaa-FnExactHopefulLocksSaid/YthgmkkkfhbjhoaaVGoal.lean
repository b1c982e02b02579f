/-
  CONTRACTS of impl.LocksOf and isLockMaze: the numbers of all locks, in a new list, or false; what lay in memory stays. No condition but that the maze reads so.
  CONTRACT of slices.Contains at ints; memory stays. Condition: the list reads so.
  CONTRACTS of impl.Maze.isGoalNear, isStuck, openAtFirst and of openedBehind; what lay in memory stays. Condition: a valid maze (the last one: none but that the arguments read so).
  CONTRACTS of the program's IsOpening, NearNodes, KeysLeft, NextLocks and WinsBy; what lay in memory stays. No condition but that the arguments read so.
-/
import Derived.Test.YthgmkkkfhbjhoaaLkM
import Derived.Test.YthgmkkkfhbjhoaaHas
import Derived.Test.YthgmkkkfhbjhoaaVNear
import Derived.Test.YthgmkkkfhbjhoaaLate
import Derived.Test.YthgmkkkfhbjhoaaStep
import Derived.Deep.RegionHeld3
namespace Go.Proofs.Ythgmkkkfhbjhoaa
open Go.RowKit
namespace C
set_option maxHeartbeats 1600000
set_option maxRecDepth 20000
theorem implLocks_lw (w : World) (lo hi : Nat) (m : M.Mz) (a b : Option Addr) (c d : Nat) (h : MzIn lo hi w m a c b d) (hz : hi ≤ w.heap.size) (_h1 : m.doors.length ≤ 1048576) (_h2 : m.keys.length ≤ 1048576) :
    Calls Try.prog 19 #[.agg #[.int .i64 m.size, .slice a m.doors.length c, .slice b m.keys.length d]] w (IntsOkPost w (M.locksV m) (M.goodB m)) := by
  obtain ⟨i0, hi0, hz0, hz1, hz2⟩ := info_parts infoI
  have H := Lib.hid h
  have hc1 := h.c1
  have hc2 := h.c2
  clear h
  go_enter Try.func19, Try.ntmps19
  go_wp2_with fail
  refine named ?_
  intro W hW
  have hb : Below w.heap.size w W := by rw [hW]; exact below_alloc _ _
  have x1 : Box3 W w.heap.size 29 (.int .i64 m.size) (.slice a m.doors.length c) (.slice b m.keys.length d) := by rw [hW]; exact Box3.new _ _ _ _ rfl
  clear hW
  have hzw := hb.size
  refine (isMaze_any W lo hi m a b c d (H.out.below hb hz) (by omega)).mono ?_
  rintro e w1 ⟨rfl, hb1⟩
  have x2 := x1.below hb1
  have hbx := x2.lt
  have HB := Lib.hid (hb.trans (hb1.mono hzw))
  have hz1w := hb1.size
  clear hb hb1 x1
  obtain ⟨y0, y1, y2⟩ := x2.cells
  cases hm : M.mazeB m with
  | false =>
    have HNN := Lib.hid (M.good_no hm)
    have HF := Lib.hid (M.locksV_no HNN.out)
    clear hm x2
    go_wp2_with fail
    go_ret2
    rw [HF.out, HNN.out]
    exact intsOk_end (l := []) (ownsRow_empty _ _ _ _ (by omega)) (HB.out.alloc (by omega) _)
  | true =>
    have V := M.valid_of hm
    have v30 := V.few
    have HM := Lib.hid hm
    clear V hm x2
    go_wp2_with fail
    go_loopw [4, 5, 6, 15] (fun v _ _ i wr => ∃ (k : Nat), k ≤ m.doors.length ∧ i = .int .i64 k ∧ wr.ownsRow w.heap.size 3 1 v (M.lockTo m k).length (M.encIs (M.lockTo m k)) ∧ Below w.heap.size w wr) (fun _ _ _ i _ => m.doors.length - (intOf i).toNat)
    case atStart => exact ⟨0, Nat.zero_le _, rfl, ownsRow_empty _ _ _ _ (by omega), HB.out.alloc (by omega) _⟩
    case round =>
      obtain ⟨k, hk, rfl, hown, hnx⟩ := hrel
      have HN := Lib.hid hnx
      have HO := Lib.hid hown
      have hzr := hnx.size
      have hlen := M.lockTo_len m k
      clear hnx
      by_cases hlt : k < m.doors.length
      · obtain ⟨db, off, rfl, _, hdb, hc0⟩ := (H.out.doors.below HN.out hz).at_ (k := k * 3) (by rw [M.encDs_len]; omega)
        have a0 := hc0 _ _ (M.encDs_at0 hlt)
        have a1 : wr.cell? ⟨db, off + k * 3 + 1, none⟩ = some (.int .i64 m.doors[k].2.1) := hc0 _ _ (M.encDs_at1 hlt)
        have a2 : wr.cell? ⟨db, off + k * 3 + 2, none⟩ = some (.int .i64 m.doors[k].2.2) := hc0 _ _ (M.encDs_at2 hlt)
        clear hc0
        have hcn := cell_one_new (wr.alloc (.cells #[.int .i64 m.doors[k].1, .int .i64 m.doors[k].2.1, .int .i64 m.doors[k].2.2] 48)) (.int .i64 (k : Int)) 3
        rw [World.size_alloc] at hcn
        have HCN := Lib.hid hcn
        clear hcn
        by_cases t1 : m.doors[k].2.2 = 0
        · have HD := Lib.hid (M.lockTo_no hlt t1)
          have e1 : (m.doors[k].2.2 != 0) = false := by simpa using t1
          clear t1 hown
          go_wp2_with fail
          go_roundw
          case rel => exact ⟨k + 1, by omega, by go_num, by rw [HD.out]; exact HO.out.alloc _, HN.out.alloc hzr _⟩
          case measure => simp [intOf]; omega
        · have HD := Lib.hid (M.lockTo_yes hlt t1)
          have e1 : (m.doors[k].2.2 != 0) = true := by simpa using t1
          clear t1
          go_wp2_with (at_builtin; refine wpList_append_own _ rfl _ _ 23 rfl w.heap.size 3 i0 (.int .i64 0) 1 8 Try.underlying23 hi0 hz0 hz1 hz2 rfl (by decide) _ _ _ rfl ((hown.alloc _).alloc _) ⟨wr.heap.size + 1, 0, none⟩ 1 1 [.int .i64 (k : Int)] rfl rfl HCN.out (fun x hx => by simp at hx; subst hx; rfl) (by unfold maxLen; omega) (by omega) (by simp; omega) ?_; intro v' w3 hown' hgrow3 hnil3)
          go_roundw
          case rel =>
            refine ⟨k + 1, by omega, by go_num, ?_, ((HN.out.alloc hzr _).alloc (by simp; omega) _).grown hgrow3 (by simp; omega) (own_base hown)⟩
            rw [HD.out]
            simpa [M.encIs] using hown'
          case measure => simp [intOf]; omega
      · obtain rfl : k = m.doors.length := by omega
        obtain ⟨ra, rc, rfl, hr1, hr2, _⟩ := own_slice hown
        clear hown
        rcases Nat.lt_or_ge 10 (M.lockTo m m.doors.length).length with hl | hl
        · have HNN := Lib.hid (M.good_no2 hl)
          have HF := Lib.hid (M.locksV_no HNN.out)
          go_wp2_with fail
          go_ret2
          rw [HF.out, HNN.out]
          exact intsOk_end (l := []) (ownsRow_empty _ _ _ _ (by omega)) (HN.out.alloc (by omega) _)
        · have HNN := Lib.hid (M.good_yes HM.out hl)
          have HF := Lib.hid (M.locksV_yes HNN.out)
          go_wp2_with fail
          go_ret2
          rw [HF.out, HNN.out]
          exact intsOk_end HO.out HN.out
theorem isLock_any (w : World) (lo hi : Nat) (m : M.Mz) (a b : Option Addr) (c d : Nat) (h : MzIn lo hi w m a c b d) (hz : hi ≤ w.heap.size) (_h1 : m.doors.length ≤ 1048576) (_h2 : m.keys.length ≤ 1048576) :
    Calls Try.prog 60 #[.agg #[.int .i64 m.size, .slice a m.doors.length c, .slice b m.keys.length d]] w (BoolPost w (M.goodB m)) := by
  have H := Lib.hid h
  clear h
  go_enter Try.func60, Try.ntmps60
  go_wp2_with fail
  refine named ?_
  intro W hW
  have hb : Below w.heap.size w W := by rw [hW]; exact below_alloc _ _
  clear hW
  refine (implLocks_lw W lo hi m a b c d (H.out.below hb hz) (by have := hb.size; omega) _h1 _h2).mono ?_
  rintro e w1 ⟨ra, rc, rfl, hr, hr1, hr2, hb1⟩
  have HB := Lib.hid (hb.trans (hb1.mono hb.size))
  clear hb hb1 hr
  go_wp2_with fail
  go_ret
  exact ⟨rfl, HB.out⟩
end C
end Go.Proofs.Ythgmkkkfhbjhoaa
namespace Go.Proofs.Ythgmkkkfhbjhoaa
open Go.RowKit
namespace C
set_option maxHeartbeats 3200000
set_option maxRecDepth 20000
theorem containsI_any (w : World) (lo hi : Nat) (a : Option Addr) (c : Nat) (l : List Int) (x : Int) (h : RowIn lo hi w a (M.encIs l)) (hl : l.length ≤ 1048576) :
    Calls Try.prog 91 #[.slice a l.length c, .int .i64 x] w fun e w' => e = .returned (.bool (M.memB l x)) ∧ w = w' := by
  have H := Lib.hid h
  clear h
  have HI := Lib.hid (show Calls Try.prog 106 #[.slice a l.length c, .int .i64 x] w fun e w' => (∃ i : Int, e = .returned (.int .i64 i) ∧ decide (0 ≤ i) = M.memB l x) ∧ w = w' from by
    go_enter Try.func106, Try.ntmps106
    go_wp2_with fail
    go_loop [5, 8] (fun _ v8 => ∃ (k : Nat), k ≤ l.length ∧ v8 = .int .i64 k ∧ (∀ j (hj : j < l.length), j < k → l[j] ≠ x)) (fun _ v8 => l.length - (intOf v8).toNat)
    case atStart => exact ⟨0, Nat.zero_le _, rfl, fun j _ h => by omega⟩
    case round =>
      obtain ⟨k, hk, rfl, hall⟩ := hrel
      have HA := Lib.hid hall
      clear hall
      by_cases hkl : k < l.length
      · obtain ⟨b, off, rfl, _, _, hc0⟩ := H.out.at_ (k := k) (by rw [M.encIs_len]; exact hkl)
        have c0 := hc0 _ _ (M.encIs_at hkl)
        have HNX := Lib.hid (fun (hq : l[k] ≠ x) => show ∀ j (hj : j < l.length), j < k + 1 → l[j] ≠ x from fun j hj hjk => by
          rcases Nat.lt_or_ge j k with h1 | h1
          · exact HA.out j hj h1
          · obtain rfl : j = k := by omega
            exact hq)
        have HY : Hid (l[k] = x → M.memB l x = true) := Lib.hid (fun h => by unfold M.memB; rw [List.contains_iff_mem, ← h]; exact List.getElem_mem hkl)
        clear hc0 HA
        generalize l[k] = y at *
        by_cases hq : y = x
        · have HT := Lib.hid (HY.out hq)
          have hxb : (x == y) = true := by rw [beq_iff_eq]; exact hq.symm
          clear hq
          go_wp2_with fail
          go_ret
          exact ⟨⟨k, rfl, by rw [HT.out]; exact decide_eq_true (by omega)⟩, rfl⟩
        · have HN := Lib.hid (HNX.out hq)
          have hxb : (x == y) = false := by rw [beq_eq_false_iff_ne]; exact fun e => hq e.symm
          have hxn : ¬ x = y := fun e => hq e.symm
          go_wp2_with fail
          go_round
          case rel => exact ⟨k + 1, by omega, by go_num, HN.out⟩
          case measure => simp [intOf]; omega
      · obtain rfl : k = l.length := by omega
        have HF : Hid (M.memB l x = false) := Lib.hid (by
          unfold M.memB
          rw [Bool.eq_false_iff]
          intro h
          rw [List.contains_iff_mem] at h
          obtain ⟨j, hj, he⟩ := List.mem_iff_getElem.1 h
          exact HA.out j hj hj he)
        clear HA
        go_wp2_with fail
        go_ret
        exact ⟨⟨-1, rfl, by rw [HF.out]; rfl⟩, rfl⟩)
  go_enter Try.func91, Try.ntmps91
  go_wp2_with fail
  refine HI.out.mono ?_
  rintro e w1 ⟨⟨i, rfl, hi0⟩, rfl⟩
  have HQ := Lib.hid hi0
  clear hi0
  go_wp2_with fail
  go_ret
  exact ⟨by rw [← HQ.out]; rfl, rfl⟩
end C
end Go.Proofs.Ythgmkkkfhbjhoaa
namespace Go.Proofs.Ythgmkkkfhbjhoaa
open Go.RowKit
namespace M
theorem goal_bit {m : Mz} (V : Valid m) (o : Op) : (bits .and .i64 ((nearN m o : Int) / 2 ^ (m.size.toNat - 1)) 1 == 1) = winO m o := by
  rw [bit_test (nearN_lt V o), Bool.eq_iff_iff, digB_near V]
  unfold winO
  have := V.size1
  rw [List.contains_iff_mem, show ((m.size.toNat - 1 : Nat) : Int) = m.size - 1 by omega]
def o0To (m : Mz) (k : Nat) : Op := fun j => decide (j < k) && (need m j == 0)
theorem o0To_end (m : Mz) : o0To m m.doors.length = o0 m := rfl
noncomputable def behV (m : Mz) (l : List Int) : Op := if askB m l then behO m l else fun _ => false
theorem behV_no {m : Mz} {l : List Int} (h : askB m l = false) : behV m l = fun _ => false := by unfold behV; rw [h]; rfl
theorem behV_yes {m : Mz} {l : List Int} (h : askB m l = true) : behV m l = behO m l := by unfold behV; rw [if_pos h]
theorem ask_no {m : Mz} {l : List Int} (h : goodB m = false) : askB m l = false := by unfold askB; rw [h]; rfl
theorem isO_no {m : Mz} {l : List Int} {k : Nat} (hk : k < l.length) (h : isO m (l.take k) = true) (hn : memB (nextO m (behO m (l.take k))) l[k] = false) : isO m l = false := by
  rw [Bool.eq_false_iff]
  intro ht
  have h2 := isO_pre (m := m) (l := l.take (k + 1)) (l.drop (k + 1)) (by rw [List.take_append_drop]; exact ht)
  rw [isO_take hk, h, Bool.true_and] at h2
  unfold memB at hn
  rw [hn] at h2
  cases h2
theorem ask_of {m : Mz} {l : List Int} (hg : goodB m = true) : askB m l = isO m l := by unfold askB; rw [hg]; rfl
theorem isO_step {m : Mz} {l : List Int} {k : Nat} (hk : k < l.length) (h : isO m (l.take k) = true) (hn : memB (nextO m (behO m (l.take k))) l[k] = true) : isO m (l.take (k + 1)) = true := by
  rw [isO_take hk, h, Bool.true_and]; exact hn
theorem next_rng {m : Mz} (V : Valid m) {o : Op} {x : Int} (h : memB (nextO m o) x = true) : ∃ j : Nat, x = j ∧ j < 30 := by
  obtain ⟨j, hj, hl, _⟩ := mem_fl.1 (memB_true h)
  have := V.few
  exact ⟨j, hj, by omega⟩
theorem beh_take {m : Mz} {l : List Int} {k : Nat} (hk : k < l.length) : behO m (l.take (k + 1)) = andO (behO m (l.take k)) l[k] := by rw [List.take_succ_eq_append_getElem hk, behO_snoc]
end M
namespace C
set_option maxHeartbeats 3200000
set_option maxRecDepth 20000
theorem goal7_any (w : World) (m : M.Mz) (a b : Option Addr) (c d : Nat) (h1 : 1 ≤ m.size) (h2 : m.size ≤ 12) :
    Calls Try.prog 94 #[.agg #[.int .i64 m.size, .slice a m.doors.length c, .slice b m.keys.length d]] w fun e w' => e = .returned (.int .i64 (m.size - 1)) ∧ Below w.heap.size w w' := by
  go_enter Try.func94, Try.ntmps94
  go_wp2_with fail
  go_ret
  exact ⟨by first | rfl | (simp; omega), below_alloc _ _⟩
theorem isGoal_any (w : World) (lo hi : Nat) (m : M.Mz) (a b : Option Addr) (c d : Nat) (h : MzIn lo hi w m a c b d) (hz : hi ≤ w.heap.size) (V : M.Valid m) (o : M.Op) :
    Calls Try.prog 70 #[.agg #[.int .i64 m.size, .slice a m.doors.length c, .slice b m.keys.length d], .agg (encO o).toArray] w (BoolPost w (M.winO m o)) := by
  have H := Lib.hid h
  have v12 := V.size12
  have v1 := V.size1
  have HV := Lib.hid V
  have HG := Lib.hid (M.goal_bit V o)
  clear h V
  go_enter Try.func70, Try.ntmps70
  go_upto_region 1 with fail
  refine wp_named ?_
  intro W hW
  have X1 := Lib.hid (show Box3 W w.heap.size 29 (.int .i64 m.size) (.slice a m.doors.length c) (.slice b m.keys.length d) by rw [hW]; exact (Box3.new _ _ _ _ rfl).alloc _)
  have O1 := Lib.hid (show BoxO W (w.heap.size + 1) o by rw [hW]; simpa using BoxO.new (w.alloc (.cells #[.int .i64 m.size, .slice a m.doors.length c, .slice b m.keys.length d] 29)) o)
  have HB := Lib.hid (show Below w.heap.size w W by rw [hW]; exact (below_alloc _ _).alloc (by simp) _)
  clear hW
  have hzw := HB.out.size
  refine wp_region_late2 (fun (wq : World) => wq.cell? ⟨w.heap.size, 0, none⟩ = some (.int .i64 m.size) ∧ wq.cell? ⟨w.heap.size, 1, none⟩ = some (.slice a m.doors.length c) ∧ wq.cell? ⟨w.heap.size, 2, none⟩ = some (.slice b m.keys.length d) ∧ BoxO wq (w.heap.size + 1) o) [] 9 #[false, false, false, false, false, false, false, false, false] rfl rfl (by kernel_rfl) ?_
  have hS : (fun (wq : World) => wq.cell? ⟨w.heap.size, 0, none⟩ = some (.int .i64 m.size) ∧ wq.cell? ⟨w.heap.size, 1, none⟩ = some (.slice a m.doors.length c) ∧ wq.cell? ⟨w.heap.size, 2, none⟩ = some (.slice b m.keys.length d) ∧ BoxO wq (w.heap.size + 1) o) W.drew := ⟨X1.out.cells.1, X1.out.cells.2.1, X1.out.cells.2.2, O1.out⟩
  refine wpAnyL_take (i := 0) (oi := { dst := some 5, op := Go.Op.load 29 (Go.Operand.tmp 2), type := 29, pos := "l7_spent.go:53", after := #[], guard := none }) (v := ?gv0) rfl (by kernel_rfl) (by kernel_rfl) (by kernel_rfl) (by kernel_rfl) (fun _ _ _ h => h) (Or.inl ⟨by rfl, ?gh0⟩) hS ?gr0
  case gh0 => (intro wS hSw; (try dsimp only at hSw); go_split_ands; go_simp; try with_reducible rfl)
  try simp only [Act.put, List.setIfInBounds_toArray, List.set_cons_zero, List.set_cons_succ]
  refine wpAnyL_take (i := 1) (oi := { dst := some 6, op := Go.Op.load 52 (Go.Operand.tmp 3), type := 52, pos := "l7_spent.go:53", after := #[], guard := none }) (v := .agg (encO (o)).toArray) rfl (by kernel_rfl) (by kernel_rfl) (by kernel_rfl) (by kernel_rfl) (fun _ _ _ h => h) (yieldsO (by rfl) _ rfl (w.heap.size + 1) rfl (o) (fun wS hSw => hSw.2.2.2)) hS ?gr1
  try simp only [Act.put, List.setIfInBounds_toArray, List.set_cons_zero, List.set_cons_succ]
  refine wpAnyL_take (i := 3) (oi := { dst := some 8, op := Go.Op.load 29 (Go.Operand.tmp 2), type := 29, pos := "l7_spent.go:53", after := #[], guard := none }) (v := ?gv3) rfl (by kernel_rfl) (by kernel_rfl) (by kernel_rfl) (by kernel_rfl) (fun _ _ _ h => h) (Or.inl ⟨by rfl, ?gh3⟩) hS ?gr3
  case gh3 => (intro wS hSw; (try dsimp only at hSw); go_split_ands; go_simp; try with_reducible rfl)
  try simp only [Act.put, List.setIfInBounds_toArray, List.set_cons_zero, List.set_cons_succ]
  refine wpAnyL_one (i := 2) (oi := { dst := some 7, op := Go.Op.call { callee := Go.Callee.value (Go.Operand.func 64), args := #[Go.Operand.tmp 5, Go.Operand.tmp 6], argTypes := #[29, 52] }, type := 3, pos := "l7_spent.go:53", after := #[{ on := 0, ground := Go.Ground.data }, { on := 1, ground := Go.Ground.data }], guard := none }) (by kernel_rfl) rfl (fun Kg2 hKg2 => ?_)
  refine step_call (by rfl) 64 #[.agg #[.int .i64 m.size, .slice a m.doors.length c, .slice b m.keys.length d], .agg (encO o).toArray] (by go_simp; try rfl) (nearI_any W.drew lo hi m a b c d (H.out.below (Below.drawnN HB.out 1) hz) (by show hi ≤ W.heap.size; omega) HV.out o) ?_
  rintro e w5 ⟨rfl, hb5⟩
  refine ⟨_, rfl, ?_⟩
  have hb5x : Below W.heap.size W w5 := (Below.refl W.heap.size W).drew.trans hb5
  have X5 := Lib.hid (X1.out.below hb5x)
  have O5 := Lib.hid (O1.out.below hb5x)
  have B5 := Lib.hid (HB.out.trans (hb5x.mono hzw))
  have hz5 := hb5x.size
  have hs5 : (fun (wq : World) => wq.cell? ⟨w.heap.size, 0, none⟩ = some (.int .i64 m.size) ∧ wq.cell? ⟨w.heap.size, 1, none⟩ = some (.slice a m.doors.length c) ∧ wq.cell? ⟨w.heap.size, 2, none⟩ = some (.slice b m.keys.length d) ∧ BoxO wq (w.heap.size + 1) o) w5 := ⟨X5.out.cells.1, X5.out.cells.2.1, X5.out.cells.2.2, O5.out⟩
  refine hKg2 _ _ (fun _ => hs5) ?_
  clear hS
  have hS := hs5
  try simp only [Act.put, List.setIfInBounds_toArray, List.set_cons_zero, List.set_cons_succ]
  refine wpAnyL_one (i := 4) (oi := { dst := some 9, op := Go.Op.call { callee := Go.Callee.value (Go.Operand.func 94), args := #[Go.Operand.tmp 8], argTypes := #[29] }, type := 3, pos := "l7_spent.go:53", after := #[{ on := 3, ground := Go.Ground.data }, { on := 2, ground := Go.Ground.chain }], guard := none }) (by kernel_rfl) rfl (fun Kg4 hKg4 => ?_)
  refine step_call (by rfl) 94 #[.agg #[.int .i64 m.size, .slice a m.doors.length c, .slice b m.keys.length d]] (by go_simp; try rfl) (goal7_any w5 m a b c d v1 v12) ?_
  rintro e w6 ⟨rfl, hb6⟩
  refine ⟨_, rfl, ?_⟩
  have hb6x : Below w5.heap.size w5 w6 := hb6
  have X6 := Lib.hid (X5.out.below hb6x)
  have O6 := Lib.hid (O5.out.below hb6x)
  have B6 := Lib.hid (B5.out.trans (hb6x.mono (by omega)))
  have hs6 : (fun (wq : World) => wq.cell? ⟨w.heap.size, 0, none⟩ = some (.int .i64 m.size) ∧ wq.cell? ⟨w.heap.size, 1, none⟩ = some (.slice a m.doors.length c) ∧ wq.cell? ⟨w.heap.size, 2, none⟩ = some (.slice b m.keys.length d) ∧ BoxO wq (w.heap.size + 1) o) w6 := ⟨X6.out.cells.1, X6.out.cells.2.1, X6.out.cells.2.2, O6.out⟩
  refine hKg4 _ _ (fun _ => hs6) ?_
  clear hS
  have hS := hs6
  try simp only [Act.put, List.setIfInBounds_toArray, List.set_cons_zero, List.set_cons_succ]
  refine wpAnyL_take (i := 5) (oi := { dst := some 10, op := Go.Op.binOp Go.BinOp.shr 3 (Go.Operand.tmp 7) (Go.Operand.tmp 9) 3, type := 3, pos := "l7_spent.go:53", after := #[{ on := 2, ground := Go.Ground.data }, { on := 4, ground := Go.Ground.data }], guard := none }) (v := ?gv5) rfl (by kernel_rfl) (by kernel_rfl) (by kernel_rfl) (by kernel_rfl) (fun _ _ _ h => h) (Or.inl ⟨by rfl, ?gh5⟩) hS ?gr5
  case gh5 => (intro wS hSw; (try dsimp only at hSw); go_split_ands; go_simp; try with_reducible rfl)
  try simp only [Act.put, List.setIfInBounds_toArray, List.set_cons_zero, List.set_cons_succ]
  refine wpAnyL_take (i := 6) (oi := { dst := some 11, op := Go.Op.binOp Go.BinOp.and 3 (Go.Operand.tmp 10) (Go.Operand.const (Go.Value.int Go.IntKind.i64 1)) 3, type := 3, pos := "l7_spent.go:53", after := #[{ on := 5, ground := Go.Ground.data }], guard := none }) (v := ?gv6) rfl (by kernel_rfl) (by kernel_rfl) (by kernel_rfl) (by kernel_rfl) (fun _ _ _ h => h) (Or.inl ⟨by rfl, ?gh6⟩) hS ?gr6
  case gh6 => (intro wS hSw; (try dsimp only at hSw); go_split_ands; go_simp; try with_reducible rfl)
  try simp only [Act.put, List.setIfInBounds_toArray, List.set_cons_zero, List.set_cons_succ]
  refine wpAnyL_take (i := 7) (oi := { dst := some 12, op := Go.Op.binOp Go.BinOp.eql 3 (Go.Operand.tmp 11) (Go.Operand.const (Go.Value.int Go.IntKind.i64 1)) 3, type := 4, pos := "l7_spent.go:53", after := #[{ on := 6, ground := Go.Ground.data }], guard := none }) (v := ?gv7) rfl (by kernel_rfl) (by kernel_rfl) (by kernel_rfl) (by kernel_rfl) (fun _ _ _ h => h) (Or.inl ⟨by rfl, ?gh7⟩) hS ?gr7
  case gh7 => (intro wS hSw; (try dsimp only at hSw); go_split_ands; go_simp; try with_reducible rfl)
  try simp only [Act.put, List.setIfInBounds_toArray, List.set_cons_zero, List.set_cons_succ]
  refine wpAnyL_take (i := 8) (oi := { dst := some 4, op := Go.Op.assign (Go.Operand.tmp 12), type := 4, pos := "l7_spent.go:53", after := #[{ on := 7, ground := Go.Ground.data }, { on := 4, ground := Go.Ground.chain }, { on := 0, ground := Go.Ground.phase }, { on := 1, ground := Go.Ground.phase }, { on := 2, ground := Go.Ground.phase }, { on := 3, ground := Go.Ground.phase }, { on := 4, ground := Go.Ground.phase }, { on := 5, ground := Go.Ground.phase }, { on := 6, ground := Go.Ground.phase }, { on := 7, ground := Go.Ground.phase }], guard := none }) (v := ?gv8) rfl (by kernel_rfl) (by kernel_rfl) (by kernel_rfl) (by kernel_rfl) (fun _ _ _ h => h) (Or.inl ⟨by rfl, ?gh8⟩) hS ?gr8
  case gh8 => (intro wS hSw; (try dsimp only at hSw); go_split_ands; go_simp; try with_reducible rfl)
  try simp only [Act.put, List.setIfInBounds_toArray, List.set_cons_zero, List.set_cons_succ]
  refine wpAnyL_done (by kernel_rfl) ?_ _
  go_wp2_with fail
  go_ret
  exact ⟨by rw [← HG.out]; rfl, B6.out⟩
theorem isStuck_any (w : World) (lo hi : Nat) (m : M.Mz) (a b : Option Addr) (c d : Nat) (h : MzIn lo hi w m a c b d) (hz : hi ≤ w.heap.size) (V : M.Valid m) (o : M.Op) :
    Calls Try.prog 74 #[.agg #[.int .i64 m.size, .slice a m.doors.length c, .slice b m.keys.length d], .agg (encO o).toArray] w (BoolPost w (M.stuckO m o)) := by
  have H := Lib.hid h
  have HV := Lib.hid V
  clear h V
  go_enter Try.func74, Try.ntmps74
  go_upto_region 1 with fail
  refine wp_named ?_
  intro W hW
  have X1 := Lib.hid (show Box3 W w.heap.size 29 (.int .i64 m.size) (.slice a m.doors.length c) (.slice b m.keys.length d) by rw [hW]; exact (Box3.new _ _ _ _ rfl).alloc _)
  have O1 := Lib.hid (show BoxO W (w.heap.size + 1) o by rw [hW]; simpa using BoxO.new (w.alloc (.cells #[.int .i64 m.size, .slice a m.doors.length c, .slice b m.keys.length d] 29)) o)
  have HB := Lib.hid (show Below w.heap.size w W by rw [hW]; exact (below_alloc _ _).alloc (by simp) _)
  clear hW
  have hzw := HB.out.size
  obtain ⟨c0, c1, c2⟩ := X1.out.cells
  have hbo := O1.out
  have hSK : M.stuckO m o = (!M.winO m o && (M.nextO m o).isEmpty) := rfl
  go_wp2_with (first | (refine wpList_loadO rfl _ rfl _ rfl _ hbo ?_))
  refine (isGoal_any W lo hi m a b c d (H.out.below HB.out hz) (by omega) HV.out o).mono ?_
  rintro e w2 ⟨rfl, hb2⟩
  have HB2 := Lib.hid (HB.out.trans (hb2.mono (by omega)))
  have X2 := Lib.hid (X1.out.below hb2)
  have O2 := Lib.hid (O1.out.below hb2)
  have hzw2 := hb2.size
  clear hb2 hbo c0 c1 c2
  cases q1 : M.winO m o with
  | true =>
    rw [q1] at hSK
    have HS := Lib.hid hSK
    clear hSK q1
    go_wp2_with fail
    go_ret
    exact ⟨by rw [HS.out]; rfl, HB2.out⟩
  | false =>
    rw [q1] at hSK
    have HS := Lib.hid hSK
    clear hSK q1
    obtain ⟨c0, c1, c2⟩ := X2.out.cells
    have hbo := O2.out
    go_wp2_with (first | (refine wpList_loadOW rfl _ rfl _ rfl _ hbo ?_))
    refine (nextLocks_any w2 lo hi m a b c d (H.out.below HB2.out hz) (by omega) HV.out o).mono ?_
    rintro e w3 ⟨la, lc, rfl, hl, hl1, hl2, hb3⟩
    have HB3 := Lib.hid (HB2.out.trans (hb3.mono (by omega)))
    have he : (((M.nextO m o).length : Int) == 0) = (M.nextO m o).isEmpty := by cases M.nextO m o <;> simp; omega
    have HE := Lib.hid he
    clear hl he hbo c0 c1 c2 hb3
    go_wp2_with fail
    go_ret
    exact ⟨by rw [HS.out, ← HE.out]; simp, HB3.out⟩
theorem openFirst_any (w : World) (lo hi : Nat) (m : M.Mz) (a b : Option Addr) (c d : Nat) (h : MzIn lo hi w m a c b d) (hz : hi ≤ w.heap.size) (V : M.Valid m) :
    Calls Try.prog 76 #[.agg #[.int .i64 m.size, .slice a m.doors.length c, .slice b m.keys.length d]] w fun e w' => e = .returned (.agg (encO (M.o0 m)).toArray) ∧ Below w.heap.size w w' := by
  have H := Lib.hid h
  have v30 := V.few
  clear h V
  go_enter Try.func76, Try.ntmps76
  go_upto_region 1 with fail
  refine wp_named ?_
  intro W hW
  have X1 := Lib.hid (show Box3 W w.heap.size 29 (.int .i64 m.size) (.slice a m.doors.length c) (.slice b m.keys.length d) by rw [hW]; exact (Box3.new _ _ _ _ rfl).alloc _)
  have O1 := Lib.hid (show BoxO W (w.heap.size + 1) noO by rw [hW]; simpa using BoxO.zero (w.alloc (.cells #[.int .i64 m.size, .slice a m.doors.length c, .slice b m.keys.length d] 29)))
  have HB := Lib.hid (show Below w.heap.size w W by rw [hW]; exact (below_alloc _ _).alloc (by simp) _)
  have HWS := Lib.hid (show W.heap.size = w.heap.size + 2 by rw [hW]; simp)
  clear hW
  go_upto_region 2 with (first | (refine wpList_storeO rfl _ _ rfl _ rfl noO (by rw [encO_no]; rfl) noO (BoxO.zero W) ?_; intro W2 hB2 hT2))
  have hws := HWS.out
  have O2 := Lib.hid ((O1.out.alloc _).turned hT2 (.inl (by omega)))
  have X2 := Lib.hid ((X1.out.alloc _).turned hT2 (.inl (by omega)))
  have HB2 := Lib.hid (Below.thenTurned (HB.out.alloc (by omega) _) hT2 (by omega) (by simp; omega))
  have P2 := Lib.hid hB2
  have hz2 := hT2.size
  rw [World.size_alloc] at hz2
  rw [hws] at P2
  have hz2' : w.heap.size + 2 < W2.heap.size := by omega
  clear hB2 hT2 O1 X1 HB
  obtain ⟨c0, c1, c2⟩ := X2.out.cells
  rw [hws]
  clear hws
  go_wp2_with fail
  go_loopw [4, 5, 10] (fun _ _ i wr => ∃ (k : Nat), k ≤ m.doors.length ∧ i = .int .i64 (k : Int) ∧ BoxO wr (w.heap.size + 2) (M.o0To m k) ∧ Turned (w.heap.size + 2) (w.heap.size + 2 + 1) W2 wr) (fun _ _ i _ => m.doors.length - (intOf i).toNat)
  case atStart => exact ⟨0, Nat.zero_le _, rfl, by
    have e : encO (M.o0To m 0) = encO noO := encO_ext fun k _ => by unfold M.o0To noO; rfl
    have := P2.out
    unfold BoxO at this ⊢
    rw [e]; exact this, Turned.refl _ _ _⟩
  case round =>
    obtain ⟨k, hk, rfl, hbx, ht⟩ := hrel
    have HT := Lib.hid ht
    have BX := Lib.hid hbx
    have hzr := ht.size
    clear hbx ht c0 c1 c2
    by_cases hkl : k < m.doors.length
    · have hrow := (H.out.doors.below HB2.out hz).turned HT.out (by omega) (.inl (by omega))
      obtain ⟨db, off, rfl, _, hdb, hc0⟩ := hrow.at_ (k := k * 3) (by rw [M.encDs_len]; omega)
      have a0 := hc0 _ _ (M.encDs_at0 hkl)
      have a1 : wr.cell? ⟨db, off + k * 3 + 1, none⟩ = some (.int .i64 m.doors[k].2.1) := hc0 _ _ (M.encDs_at1 hkl)
      have a2 : wr.cell? ⟨db, off + k * 3 + 2, none⟩ = some (.int .i64 m.doors[k].2.2) := hc0 _ _ (M.encDs_at2 hkl)
      clear hc0 hrow
      go_upto_region 5 with fail
      refine wp_named ?_
      intro W3 hW3
      have hb3 : Below wr.heap.size wr W3 := by rw [hW3]; exact below_alloc _ _
      have hd3 : Box3 W3 wr.heap.size 48 (.int .i64 m.doors[k].1) (.int .i64 m.doors[k].2.1) (.int .i64 m.doors[k].2.2) := by rw [hW3]; exact Box3.new _ _ _ _ rfl
      clear hW3 a0 a1 a2
      have HT3 := Lib.hid (HT.out.trans (Turned.of_below hb3 (w.heap.size + 2) (w.heap.size + 2 + 1)))
      have BX3 := Lib.hid (BX.out.below hb3)
      have hz3 := hb3.size
      have hdl := hd3.lt
      obtain ⟨e0, e1, e2⟩ := hd3.cells
      have k1 := BX3.out.cell (k := k) (by omega)
      have k2 := BX3.out.free k
      have he : encO (updO (M.o0To m k) k (m.doors[k].2.2 == 0)) = encO (M.o0To m (k + 1)) := encO_ext fun j _ => by
        unfold updO M.o0To
        by_cases e : j = k
        · subst e; rw [if_pos rfl, decide_eq_true (by omega), Bool.true_and, M.need_at hkl]
        · rw [if_neg e]; congr 1; rw [decide_eq_decide]; omega
      have hBN := BX3.out.set_ (k := k) (by omega) (m.doors[k].2.2 == 0)
      have HBN := Lib.hid (show BoxO (W3.setCell ⟨w.heap.size + 2, k, none⟩ (.bool (m.doors[k].2.2 == 0))) (w.heap.size + 2) (M.o0To m (k + 1)) by unfold BoxO at hBN ⊢; rw [← he]; exact hBN)
      clear hb3 hd3 he hBN
      generalize m.doors[k].2.2 = nd at *
      go_wp2_with fail
      go_roundw
      case rel => exact ⟨k + 1, by omega, by go_num, HBN.out, HT3.out.trans (Turned.setCell _ _ _ _ (Nat.le_refl _) (Nat.lt_succ_self _))⟩
      case measure => simp [intOf]; omega
    · obtain rfl : k = m.doors.length := by omega
      have O3 := Lib.hid (O2.out.turned HT.out (.inl (by omega)))
      have hbx := BX.out
      have hbo := O3.out
      have HB3 := Lib.hid (Below.thenTurned HB2.out HT.out (by omega) (by omega))
      rw [M.o0To_end] at hbx
      go_wp2_with (first | (refine wpList_loadO rfl _ rfl _ rfl _ hbx ?_) | (refine wpList_storeO rfl _ _ rfl _ rfl _ rfl _ hbo ?_; intro W5 hB5 hT5))
      refine bodyPost_ret (results_O Try.results76 _ rfl hB5) rfl ?_
      exact ⟨rfl, Below.thenTurned HB3.out hT5 (by omega) (by have := HB3.out.size; omega)⟩
theorem results_O2 {fn : Func} {p u : Tmp} (h : fn.results = #[.cell p 52, .tmp u]) (tmps : Array Value) {w : World} {b : Nat} {o : M.Op} {v : Value} (hb : tmps.getD p undef = .pointer (some ⟨b, 0, none⟩)) (hv : tmps.getD u undef = v) (hB : BoxO w b o) :
    (results fn tmps).run Try.prog w = .ok (.tuple #[.agg (encO o).toArray, v]) w := by
  have hb' : tmps[p]?.getD undef = .pointer (some ⟨b, 0, none⟩) := by simpa using hb
  have hv' : tmps[u]?.getD undef = v := by simpa using hv
  simp only [results, h]
  simp [asAddr, hb', hv', run_loadO hB]
theorem behind_any (w : World) (lo hi : Nat) (m : M.Mz) (a b : Option Addr) (c d : Nat) (h : MzIn lo hi w m a c b d) (hz : hi ≤ w.heap.size) (_h1 : m.doors.length ≤ 1048576) (_h2 : m.keys.length ≤ 1048576) (lo' hi' : Nat) (wa : Option Addr) (wc : Nat) (walk : List Int) (hw : RowIn lo' hi' w wa (M.encIs walk)) (hz' : hi' ≤ w.heap.size) (hl : walk.length ≤ 1048576) (_u3 : ∀ z ∈ walk, -9223372036854775808 ≤ z ∧ z ≤ 9223372036854775807) :
    Calls Try.prog 59 #[.agg #[.int .i64 m.size, .slice a m.doors.length c, .slice b m.keys.length d], .slice wa walk.length wc] w fun e w' => e = .returned (.tuple #[.agg (encO (M.behV m walk)).toArray, .bool (M.askB m walk)]) ∧ Below w.heap.size w w' := by
  have H := Lib.hid h
  have HW := Lib.hid hw
  clear h hw
  go_enter Try.func59, Try.ntmps59
  go_upto_region 1 with fail
  refine wp_named ?_
  intro W hW
  have X1 := Lib.hid (show Box3 W w.heap.size 29 (.int .i64 m.size) (.slice a m.doors.length c) (.slice b m.keys.length d) by rw [hW]; exact (Box3.new _ _ _ _ rfl).alloc _)
  have O1 := Lib.hid (show BoxO W (w.heap.size + 1) noO by rw [hW]; simpa using BoxO.zero (w.alloc (.cells #[.int .i64 m.size, .slice a m.doors.length c, .slice b m.keys.length d] 29)))
  have HB := Lib.hid (show Below w.heap.size w W by rw [hW]; exact (below_alloc _ _).alloc (by simp) _)
  have hzw : w.heap.size + 2 ≤ W.heap.size := by rw [hW]; simp
  clear hW
  obtain ⟨c0, c1, c2⟩ := X1.out.cells
  go_wp2_with fail
  refine (isLock_any W lo hi m a b c d (H.out.below HB.out hz) (by omega) _h1 _h2).mono ?_
  rintro e w1 ⟨rfl, hb1⟩
  have X2 := Lib.hid (X1.out.below hb1)
  have O2 := Lib.hid (O1.out.below hb1)
  have HB2 := Lib.hid (HB.out.trans (hb1.mono (by omega)))
  have hzw1 := hb1.size
  clear hb1 X1 O1 HB c0 c1 c2
  cases q0 : M.goodB m with
  | false =>
    have HA := Lib.hid (M.ask_no (l := walk) q0)
    have HBV := Lib.hid (M.behV_no HA.out)
    have hbo := O2.out
    clear q0
    go_wp2_with (first | (refine wpList_storeO rfl _ _ rfl _ rfl noO (by rw [encO_no]; rfl) _ hbo ?_; intro W5 hB5 hT5))
    refine bodyPost_ret (results_O2 Try.results59 _ rfl rfl hB5) rfl ?_
    rw [HA.out, HBV.out]
    exact ⟨rfl, Below.thenTurned HB2.out hT5 (by omega) (by omega)⟩
  | true =>
    have HGD := Lib.hid q0
    have HV := Lib.hid (M.valid_of (M.good_maze q0))
    clear q0
    obtain ⟨c0, c1, c2⟩ := X2.out.cells
    go_wp2_with fail
    refine (openFirst_any w1 lo hi m a b c d (H.out.below HB2.out hz) (by omega) HV.out).mono ?_
    rintro e w2 ⟨rfl, hb2⟩
    have X3 := Lib.hid (X2.out.below hb2)
    have O3 := Lib.hid (O2.out.below hb2)
    have HB3 := Lib.hid (HB2.out.trans (hb2.mono (by omega)))
    have hzw2 := hb2.size
    clear hb2 X2 O2 HB2 c0 c1 c2
    go_upto_region 4 with (first | (refine wpList_storeO rfl _ _ rfl _ rfl (M.o0 m) rfl noO (BoxO.zero w2) ?_; intro W3 hB3 hT3))
    have P3 := Lib.hid hB3
    have X4 := Lib.hid ((X3.out.alloc _).turned hT3 (.inl X3.out.lt))
    have O4 := Lib.hid ((O3.out.alloc _).turned hT3 (.inl O3.out.lt))
    have HB4 := Lib.hid (Below.thenTurned (HB3.out.alloc (by omega) _) hT3 (by omega) (by simp; omega))
    have hz4 := hT3.size
    rw [World.size_alloc] at hz4
    clear hB3 hT3 X3 O3 HB3
    go_wp2_with fail
    go_loopw [8, 17] (fun _ i wr => ∃ (k : Nat), k ≤ walk.length ∧ i = .int .i64 (k : Int) ∧ M.isO m (walk.take k) = true ∧ BoxO wr w2.heap.size (M.behO m (walk.take k)) ∧ Turned w2.heap.size (w2.heap.size + 1) W3 wr) (fun _ i _ => walk.length - (intOf i).toNat)
    case atStart => exact ⟨0, Nat.zero_le _, rfl, rfl, P3.out, Turned.refl _ _ _⟩
    case round =>
      obtain ⟨k, hk, rfl, hio, hbx, ht⟩ := hrel
      have HIO := Lib.hid hio
      have HT := Lib.hid ht
      have BX := Lib.hid hbx
      have hzr := ht.size
      have HB5 := Lib.hid (Below.thenTurned HB4.out ht (by omega) (by omega))
      have X5 := Lib.hid (X4.out.turned ht (.inl (by omega)))
      have O5 := Lib.hid (O4.out.turned ht (.inl (by omega)))
      clear hbx ht hio
      by_cases hkl : k < walk.length
      · obtain ⟨wb, woff, rfl, _, hwb, hwc⟩ := (HW.out.below HB5.out hz').at_ (k := k) (by rw [M.encIs_len]; exact hkl)
        have p0 := hwc _ _ (M.encIs_at hkl)
        obtain ⟨c0, c1, c2⟩ := X5.out.cells
        have hbx := BX.out
        have HNO := Lib.hid (M.isO_no (m := m) hkl HIO.out)
        have HYES := Lib.hid (M.isO_step (m := m) hkl HIO.out)
        have HBT := Lib.hid (M.beh_take (m := m) hkl)
        generalize walk[k] = x at *
        clear hwc
        go_wp2_with (first | (refine wpList_loadO rfl _ rfl _ rfl _ hbx ?_))
        refine (nextLocks_any wr lo hi m a b c d (H.out.below HB5.out hz) (by omega) HV.out (M.behO m (walk.take k))).mono ?_
        rintro e w5 ⟨la, lc, rfl, hl', hl1, hl2, hb5⟩
        have HLR := Lib.hid hl'.row
        have hnl := M.nextO_len m (M.behO m (walk.take k))
        have hv30 := HV.out.few
        have X6 := Lib.hid (X5.out.below hb5)
        have O6 := Lib.hid (O5.out.below hb5)
        have BX6 := Lib.hid (BX.out.below hb5)
        have HT6 := Lib.hid (HT.out.trans (Turned.of_below hb5 w2.heap.size (w2.heap.size + 1)))
        have HB6 := Lib.hid (HB5.out.trans (hb5.mono (by omega)))
        have hz5 := hb5.size
        clear hl' hbx c0 c1 c2 p0 hb5
        go_wp2_with fail
        refine (containsI_any w5 _ _ _ _ (M.nextO m (M.behO m (walk.take k))) x HLR.out (by omega)).mono ?_
        rintro e w6 ⟨rfl, rfl⟩
        cases q1 : M.memB (M.nextO m (M.behO m (walk.take k))) x with
        | false =>
          have HA := Lib.hid ((M.ask_of (l := walk) HGD.out).trans (HNO.out q1))
          have HBV := Lib.hid (M.behV_no HA.out)
          have hbo := O6.out
          clear q1
          go_wp2_with (first | (refine wpList_storeO rfl _ _ rfl _ rfl noO (by rw [encO_no]; rfl) _ hbo ?_; intro W5 hB5 hT5))
          refine bodyPost_ret (results_O2 Try.results59 _ rfl rfl hB5) rfl ?_
          rw [HA.out, HBV.out]
          exact ⟨rfl, Below.thenTurned HB6.out hT5 (by omega) (by omega)⟩
        | true =>
          obtain ⟨j, hj, hj30⟩ := M.next_rng HV.out q1
          have HI2 := Lib.hid (HYES.out q1)
          rw [hj] at HBT
          rw [hj]
          have hbx := BX6.out
          clear q1 HNO HYES hj
          go_wp2_with (first | (refine wpList_loadO rfl _ rfl _ rfl _ hbx ?_))
          refine (and_any w5 _ j hj30).mono ?_
          rintro e w7 ⟨rfl, hb7⟩
          have BX7 := BX6.out.below hb7
          have HT7 := Lib.hid (HT6.out.trans (Turned.of_below hb7 w2.heap.size (w2.heap.size + 1)))
          rw [← HBT.out]
          clear hb7 hbx
          go_upto_region 10 with (first | (refine wpList_storeO rfl _ _ rfl _ rfl (M.behO m (walk.take (k + 1))) rfl _ BX7 ?_; intro W8 hB8 hT8))
          have HT8 := Lib.hid (HT7.out.trans hT8)
          have BX8 := Lib.hid hB8
          clear hT8 hB8 BX7
          go_wp2_with fail
          go_roundw
          case rel => exact ⟨k + 1, by omega, by go_num, HI2.out, BX8.out, HT8.out⟩
          case measure => simp [intOf]; omega
      · obtain rfl : k = walk.length := by omega
        have hio := HIO.out
        have hbx := BX.out
        rw [List.take_of_length_le (Nat.le_refl _)] at hio hbx
        have HA := Lib.hid ((M.ask_of (l := walk) HGD.out).trans hio)
        have HBV := Lib.hid (M.behV_yes HA.out)
        have hbo := O5.out
        clear hio
        go_wp2_with (first | (refine wpList_loadO rfl _ rfl _ rfl _ hbx ?_) | (refine wpList_storeO rfl _ _ rfl _ rfl (M.behO m walk) rfl _ hbo ?_; intro W5 hB5 hT5))
        refine bodyPost_ret (results_O2 Try.results59 _ rfl rfl hB5) rfl ?_
        rw [HA.out, HBV.out]
        exact ⟨rfl, Below.thenTurned HB5.out hT5 (by omega) (by omega)⟩
end C
end Go.Proofs.Ythgmkkkfhbjhoaa
namespace Go.Proofs.Ythgmkkkfhbjhoaa
open Go.RowKit
namespace M
theorem ask_good {m : Mz} {l : List Int} (h : askB m l = true) : goodB m = true := by unfold askB at h; rw [Bool.and_eq_true] at h; exact h.1
theorem ask_isO {m : Mz} {l : List Int} (h : askB m l = true) : isO m l = true := by unfold askB at h; rw [Bool.and_eq_true] at h; exact h.2
theorem nearV_no {m : Mz} {l : List Int} (h : askB m l = false) : nearV m l = [] := by unfold nearV; rw [h]; rfl
theorem nearV_yes {m : Mz} {l : List Int} (h : askB m l = true) : nearV m l = nearL m (behO m l) := by unfold nearV; rw [if_pos h]
theorem leftV_no {m : Mz} {l : List Int} (h : askB m l = false) : leftV m l = [] := by unfold leftV; rw [h]; rfl
theorem leftV_yes {m : Mz} {l : List Int} (h : askB m l = true) : leftV m l = leftL m (behO m l) := by unfold leftV; rw [if_pos h]
theorem nextV7_no {m : Mz} {l : List Int} (h : askB m l = false) : nextV m l = [] := by unfold nextV; rw [h]; rfl
theorem nextV7_yes {m : Mz} {l : List Int} (h : askB m l = true) : nextV m l = nextO m (behO m l) := by unfold nextV; rw [if_pos h]
theorem nearV_len (m : Mz) (l : List Int) : (nearV m l).length ≤ 1048576 := by
  unfold nearV
  split
  · have := nearL_len m (behO m l); omega
  · simp
theorem leftV_len (m : Mz) (l : List Int) : (leftV m l).length ≤ 1048576 := by
  unfold leftV
  split
  · have : (leftL m (behO m l)).length = 6 := vecL_len _
    omega
  · simp
theorem nextV7_len (m : Mz) (l : List Int) : (nextV m l).length ≤ 1048576 := by
  unfold nextV
  split
  · rename_i h
    have := nextO_len m (behO m l)
    have := (valid_of (good_maze (ask_good h))).few
    omega
  · simp
end M
namespace C
set_option maxHeartbeats 3200000
set_option maxRecDepth 20000
theorem implIsOpn_lw (w : World) (lo hi : Nat) (m : M.Mz) (a b : Option Addr) (c d : Nat) (h : MzIn lo hi w m a c b d) (hz : hi ≤ w.heap.size) (_h1 : m.doors.length ≤ 1048576) (_h2 : m.keys.length ≤ 1048576) (lo' hi' : Nat) (wa : Option Addr) (wc : Nat) (walk : List Int) (hw : RowIn lo' hi' w wa (M.encIs walk)) (hz' : hi' ≤ w.heap.size) (hl : walk.length ≤ 1048576) (_u1 : walk.length ≤ wc) (_u2 : wc ≤ 9223372036854775807) (_u3 : ∀ z ∈ walk, -9223372036854775808 ≤ z ∧ z ≤ 9223372036854775807) :
    Calls Try.prog 27 #[.agg #[.int .i64 m.size, .slice a m.doors.length c, .slice b m.keys.length d], .slice wa walk.length wc] w (BoolOkPost w (M.askB m walk) (M.goodB m)) := by
  have H := Lib.hid h
  have HW := Lib.hid hw
  have HU := Lib.hid _u3
  clear h hw _u3
  go_enter Try.func27, Try.ntmps27
  go_upto_region 1 with fail
  refine wp_named ?_
  intro W hW
  have X1 := Lib.hid (show Box3 W w.heap.size 29 (.int .i64 m.size) (.slice a m.doors.length c) (.slice b m.keys.length d) by rw [hW]; exact Box3.new _ _ _ _ rfl)
  have HB := Lib.hid (show Below w.heap.size w W by rw [hW]; exact below_alloc _ _)
  clear hW
  have hzw := HB.out.size
  obtain ⟨c0, c1, c2⟩ := X1.out.cells
  go_wp2_with fail
  refine (behind_any W lo hi m a b c d (H.out.below HB.out hz) (by omega) _h1 _h2 lo' hi' wa wc walk (HW.out.below HB.out hz') (by omega) hl HU.out).mono ?_
  rintro e w1 ⟨rfl, hb1⟩
  have X2 := Lib.hid (X1.out.below hb1)
  have HB2 := Lib.hid (HB.out.trans (hb1.mono (by omega)))
  have hz1 := hb1.size
  have HVV := Lib.hid (fun hq => M.behV_yes (m := m) (l := walk) hq)
  clear hb1 X1 HB c0 c1 c2
  go_upto_region 2 with (first | (refine wpList_storeO rfl _ _ rfl _ rfl (M.behV m walk) rfl noO (BoxO.zero w1) ?_; intro W3 hB3 hT3))
  have P3 := Lib.hid hB3
  have X4 := Lib.hid ((X2.out.alloc _).turned hT3 (.inl X2.out.lt))
  have HB4 := Lib.hid (Below.thenTurned (HB2.out.alloc (by omega) _) hT3 (by omega) (by simp; omega))
  have hz4 := hT3.size
  rw [World.size_alloc] at hz4
  have hxl := X4.out.lt
  clear hB3 hT3 X2 HB2
  obtain ⟨c0, c1, c2⟩ := X4.out.cells
  go_wp2_with fail
  refine (isLock_any W3 lo hi m a b c d (H.out.below HB4.out hz) (by have := HB4.out.size; omega) _h1 _h2).mono ?_
  rintro e w3 ⟨rfl, hb3⟩
  have HB5 := Lib.hid (HB4.out.trans (hb3.mono HB4.out.size))
  clear hb3 c0 c1 c2
  go_wp2_with fail
  go_ret2
  exact ⟨rfl, HB5.out⟩
theorem implNear_lw (w : World) (lo hi : Nat) (m : M.Mz) (a b : Option Addr) (c d : Nat) (h : MzIn lo hi w m a c b d) (hz : hi ≤ w.heap.size) (_h1 : m.doors.length ≤ 1048576) (_h2 : m.keys.length ≤ 1048576) (lo' hi' : Nat) (wa : Option Addr) (wc : Nat) (walk : List Int) (hw : RowIn lo' hi' w wa (M.encIs walk)) (hz' : hi' ≤ w.heap.size) (hl : walk.length ≤ 1048576) (_u1 : walk.length ≤ wc) (_u2 : wc ≤ 9223372036854775807) (_u3 : ∀ z ∈ walk, -9223372036854775808 ≤ z ∧ z ≤ 9223372036854775807) :
    Calls Try.prog 29 #[.agg #[.int .i64 m.size, .slice a m.doors.length c, .slice b m.keys.length d], .slice wa walk.length wc] w (IntsOkPost w (M.nearV m walk) (M.askB m walk)) := by
  have H := Lib.hid h
  have HW := Lib.hid hw
  have HU := Lib.hid _u3
  clear h hw _u3
  go_enter Try.func29, Try.ntmps29
  go_upto_region 1 with fail
  refine wp_named ?_
  intro W hW
  have X1 := Lib.hid (show Box3 W w.heap.size 29 (.int .i64 m.size) (.slice a m.doors.length c) (.slice b m.keys.length d) by rw [hW]; exact Box3.new _ _ _ _ rfl)
  have HB := Lib.hid (show Below w.heap.size w W by rw [hW]; exact below_alloc _ _)
  clear hW
  have hzw := HB.out.size
  obtain ⟨c0, c1, c2⟩ := X1.out.cells
  go_wp2_with fail
  refine (behind_any W lo hi m a b c d (H.out.below HB.out hz) (by omega) _h1 _h2 lo' hi' wa wc walk (HW.out.below HB.out hz') (by omega) hl HU.out).mono ?_
  rintro e w1 ⟨rfl, hb1⟩
  have X2 := Lib.hid (X1.out.below hb1)
  have HB2 := Lib.hid (HB.out.trans (hb1.mono (by omega)))
  have hz1 := hb1.size
  have HVV := Lib.hid (fun hq => M.behV_yes (m := m) (l := walk) hq)
  clear hb1 X1 HB c0 c1 c2
  go_upto_region 2 with (first | (refine wpList_storeO rfl _ _ rfl _ rfl (M.behV m walk) rfl noO (BoxO.zero w1) ?_; intro W3 hB3 hT3))
  have P3 := Lib.hid hB3
  have X4 := Lib.hid ((X2.out.alloc _).turned hT3 (.inl X2.out.lt))
  have HB4 := Lib.hid (Below.thenTurned (HB2.out.alloc (by omega) _) hT3 (by omega) (by simp; omega))
  have hz4 := hT3.size
  rw [World.size_alloc] at hz4
  have hxl := X4.out.lt
  clear hB3 hT3 X2 HB2
  cases q0 : M.askB m walk with
  | false =>
    have HA := Lib.hid q0
    clear q0
    go_wp2_with fail
    go_ret2
    rw [HA.out, M.nearV_no HA.out]
    exact intsOk_end (l := []) (ownsRow_empty _ _ _ _ (by have := HB4.out.size; omega)) (HB4.out.alloc (by have := HB4.out.size; omega) _)
  | true =>
    have HA := Lib.hid q0
    have HV := Lib.hid (M.valid_of (M.good_maze (M.ask_good q0)))
    have hbo := P3.out
    rw [HVV.out q0] at hbo
    have P5 := Lib.hid hbo
    have HOP := Lib.hid (M.ask_isO q0)
    obtain ⟨c0, c1, c2⟩ := X4.out.cells
    clear q0 P3
    go_wp2_with (first | (refine wpList_loadO rfl _ rfl _ rfl _ hbo ?_))
    refine (nearI_any W3 lo hi m a b c d (H.out.below HB4.out hz) (by have := HB4.out.size; omega) HV.out (M.behO m walk)).mono ?_
    rintro e w2 ⟨rfl, hb2⟩
    have HD := Lib.hid (M.near_digs HV.out (M.behO m walk))
    have hnn := M.nearN_lt HV.out (M.behO m walk)
    have HB6 := Lib.hid (HB4.out.trans (hb2.mono HB4.out.size))
    clear hb2 hbo c0 c1 c2
    go_wp2_with fail
    refine (digits_any (M.nearN m (M.behO m walk)) hnn w2).mono ?_
    rw [HD.out]
    rintro e w3 ⟨ra, rc, rfl, hr, hr1, hr2, hb3⟩
    have HR := Lib.hid hr
    have hz5 := HB6.out.size
    have HB5 := Lib.hid (HB6.out.trans (hb3.mono HB6.out.size))
    clear hr hb3
    go_wp2_with fail
    go_ret2
    rw [HA.out, M.nearV_yes HA.out]
    exact ⟨ra, rc, rfl, HR.out.mono (by omega) (Nat.le_refl _), hr1, hr2, HB5.out⟩
theorem implLeft_lw (w : World) (lo hi : Nat) (m : M.Mz) (a b : Option Addr) (c d : Nat) (h : MzIn lo hi w m a c b d) (hz : hi ≤ w.heap.size) (_h1 : m.doors.length ≤ 1048576) (_h2 : m.keys.length ≤ 1048576) (lo' hi' : Nat) (wa : Option Addr) (wc : Nat) (walk : List Int) (hw : RowIn lo' hi' w wa (M.encIs walk)) (hz' : hi' ≤ w.heap.size) (hl : walk.length ≤ 1048576) (_u1 : walk.length ≤ wc) (_u2 : wc ≤ 9223372036854775807) (_u3 : ∀ z ∈ walk, -9223372036854775808 ≤ z ∧ z ≤ 9223372036854775807) :
    Calls Try.prog 31 #[.agg #[.int .i64 m.size, .slice a m.doors.length c, .slice b m.keys.length d], .slice wa walk.length wc] w (IntsOkPost w (M.leftV m walk) (M.askB m walk)) := by
  have H := Lib.hid h
  have HW := Lib.hid hw
  have HU := Lib.hid _u3
  clear h hw _u3
  go_enter Try.func31, Try.ntmps31
  go_upto_region 1 with fail
  refine wp_named ?_
  intro W hW
  have X1 := Lib.hid (show Box3 W w.heap.size 29 (.int .i64 m.size) (.slice a m.doors.length c) (.slice b m.keys.length d) by rw [hW]; exact Box3.new _ _ _ _ rfl)
  have HB := Lib.hid (show Below w.heap.size w W by rw [hW]; exact below_alloc _ _)
  clear hW
  have hzw := HB.out.size
  obtain ⟨c0, c1, c2⟩ := X1.out.cells
  go_wp2_with fail
  refine (behind_any W lo hi m a b c d (H.out.below HB.out hz) (by omega) _h1 _h2 lo' hi' wa wc walk (HW.out.below HB.out hz') (by omega) hl HU.out).mono ?_
  rintro e w1 ⟨rfl, hb1⟩
  have X2 := Lib.hid (X1.out.below hb1)
  have HB2 := Lib.hid (HB.out.trans (hb1.mono (by omega)))
  have hz1 := hb1.size
  have HVV := Lib.hid (fun hq => M.behV_yes (m := m) (l := walk) hq)
  clear hb1 X1 HB c0 c1 c2
  go_upto_region 2 with (first | (refine wpList_storeO rfl _ _ rfl _ rfl (M.behV m walk) rfl noO (BoxO.zero w1) ?_; intro W3 hB3 hT3))
  have P3 := Lib.hid hB3
  have X4 := Lib.hid ((X2.out.alloc _).turned hT3 (.inl X2.out.lt))
  have HB4 := Lib.hid (Below.thenTurned (HB2.out.alloc (by omega) _) hT3 (by omega) (by simp; omega))
  have hz4 := hT3.size
  rw [World.size_alloc] at hz4
  have hxl := X4.out.lt
  clear hB3 hT3 X2 HB2
  cases q0 : M.askB m walk with
  | false =>
    have HA := Lib.hid q0
    clear q0
    go_wp2_with fail
    go_ret2
    rw [HA.out, M.leftV_no HA.out]
    exact intsOk_end (l := []) (ownsRow_empty _ _ _ _ (by have := HB4.out.size; omega)) (HB4.out.alloc (by have := HB4.out.size; omega) _)
  | true =>
    have HA := Lib.hid q0
    have HV := Lib.hid (M.valid_of (M.good_maze (M.ask_good q0)))
    have hbo := P3.out
    rw [HVV.out q0] at hbo
    have P5 := Lib.hid hbo
    have HOP := Lib.hid (M.ask_isO q0)
    obtain ⟨c0, c1, c2⟩ := X4.out.cells
    clear q0 P3
    go_wp2_with (first | (refine wpList_loadO rfl _ rfl _ rfl _ hbo ?_))
    refine (keysLeft_any W3 lo hi m a b c d (H.out.below HB4.out hz) (by have := HB4.out.size; omega) HV.out (M.behO m walk)).mono ?_
    rintro e w3 ⟨ra, rc, rfl, hr, hr1, hr2, hb3⟩
    have HR := Lib.hid hr
    have HB5 := Lib.hid (HB4.out.trans (hb3.mono HB4.out.size))
    have hz5 := HB4.out.size
    clear hr hb3 hbo c0 c1 c2
    go_wp2_with fail
    go_ret2
    rw [HA.out, M.leftV_yes HA.out]
    exact ⟨ra, rc, rfl, HR.out.mono (by omega) (Nat.le_refl _), hr1, hr2, HB5.out⟩
theorem implNext7_lw (w : World) (lo hi : Nat) (m : M.Mz) (a b : Option Addr) (c d : Nat) (h : MzIn lo hi w m a c b d) (hz : hi ≤ w.heap.size) (_h1 : m.doors.length ≤ 1048576) (_h2 : m.keys.length ≤ 1048576) (lo' hi' : Nat) (wa : Option Addr) (wc : Nat) (walk : List Int) (hw : RowIn lo' hi' w wa (M.encIs walk)) (hz' : hi' ≤ w.heap.size) (hl : walk.length ≤ 1048576) (_u1 : walk.length ≤ wc) (_u2 : wc ≤ 9223372036854775807) (_u3 : ∀ z ∈ walk, -9223372036854775808 ≤ z ∧ z ≤ 9223372036854775807) :
    Calls Try.prog 33 #[.agg #[.int .i64 m.size, .slice a m.doors.length c, .slice b m.keys.length d], .slice wa walk.length wc] w (IntsOkPost w (M.nextV m walk) (M.askB m walk)) := by
  have H := Lib.hid h
  have HW := Lib.hid hw
  have HU := Lib.hid _u3
  clear h hw _u3
  go_enter Try.func33, Try.ntmps33
  go_upto_region 1 with fail
  refine wp_named ?_
  intro W hW
  have X1 := Lib.hid (show Box3 W w.heap.size 29 (.int .i64 m.size) (.slice a m.doors.length c) (.slice b m.keys.length d) by rw [hW]; exact Box3.new _ _ _ _ rfl)
  have HB := Lib.hid (show Below w.heap.size w W by rw [hW]; exact below_alloc _ _)
  clear hW
  have hzw := HB.out.size
  obtain ⟨c0, c1, c2⟩ := X1.out.cells
  go_wp2_with fail
  refine (behind_any W lo hi m a b c d (H.out.below HB.out hz) (by omega) _h1 _h2 lo' hi' wa wc walk (HW.out.below HB.out hz') (by omega) hl HU.out).mono ?_
  rintro e w1 ⟨rfl, hb1⟩
  have X2 := Lib.hid (X1.out.below hb1)
  have HB2 := Lib.hid (HB.out.trans (hb1.mono (by omega)))
  have hz1 := hb1.size
  have HVV := Lib.hid (fun hq => M.behV_yes (m := m) (l := walk) hq)
  clear hb1 X1 HB c0 c1 c2
  go_upto_region 2 with (first | (refine wpList_storeO rfl _ _ rfl _ rfl (M.behV m walk) rfl noO (BoxO.zero w1) ?_; intro W3 hB3 hT3))
  have P3 := Lib.hid hB3
  have X4 := Lib.hid ((X2.out.alloc _).turned hT3 (.inl X2.out.lt))
  have HB4 := Lib.hid (Below.thenTurned (HB2.out.alloc (by omega) _) hT3 (by omega) (by simp; omega))
  have hz4 := hT3.size
  rw [World.size_alloc] at hz4
  have hxl := X4.out.lt
  clear hB3 hT3 X2 HB2
  cases q0 : M.askB m walk with
  | false =>
    have HA := Lib.hid q0
    clear q0
    go_wp2_with fail
    go_ret2
    rw [HA.out, M.nextV7_no HA.out]
    exact intsOk_end (l := []) (ownsRow_empty _ _ _ _ (by have := HB4.out.size; omega)) (HB4.out.alloc (by have := HB4.out.size; omega) _)
  | true =>
    have HA := Lib.hid q0
    have HV := Lib.hid (M.valid_of (M.good_maze (M.ask_good q0)))
    have hbo := P3.out
    rw [HVV.out q0] at hbo
    have P5 := Lib.hid hbo
    have HOP := Lib.hid (M.ask_isO q0)
    obtain ⟨c0, c1, c2⟩ := X4.out.cells
    clear q0 P3
    go_wp2_with (first | (refine wpList_loadO rfl _ rfl _ rfl _ hbo ?_))
    refine (nextLocks_any W3 lo hi m a b c d (H.out.below HB4.out hz) (by have := HB4.out.size; omega) HV.out (M.behO m walk)).mono ?_
    rintro e w3 ⟨ra, rc, rfl, hr, hr1, hr2, hb3⟩
    have HR := Lib.hid hr
    have HB5 := Lib.hid (HB4.out.trans (hb3.mono HB4.out.size))
    have hz5 := HB4.out.size
    clear hr hb3 hbo c0 c1 c2
    go_wp2_with fail
    go_ret2
    rw [HA.out, M.nextV7_yes HA.out]
    exact ⟨ra, rc, rfl, HR.out.mono (by omega) (Nat.le_refl _), hr1, hr2, HB5.out⟩
theorem implWins_lw (w : World) (lo hi : Nat) (m : M.Mz) (a b : Option Addr) (c d : Nat) (h : MzIn lo hi w m a c b d) (hz : hi ≤ w.heap.size) (_h1 : m.doors.length ≤ 1048576) (_h2 : m.keys.length ≤ 1048576) (lo' hi' : Nat) (wa : Option Addr) (wc : Nat) (walk : List Int) (hw : RowIn lo' hi' w wa (M.encIs walk)) (hz' : hi' ≤ w.heap.size) (hl : walk.length ≤ 1048576) (_u1 : walk.length ≤ wc) (_u2 : wc ≤ 9223372036854775807) (_u3 : ∀ z ∈ walk, -9223372036854775808 ≤ z ∧ z ≤ 9223372036854775807) :
    Calls Try.prog 35 #[.agg #[.int .i64 m.size, .slice a m.doors.length c, .slice b m.keys.length d], .slice wa walk.length wc] w (BoolOkPost w (M.winV m walk) (M.askB m walk)) := by
  have H := Lib.hid h
  have HW := Lib.hid hw
  have HU := Lib.hid _u3
  clear h hw _u3
  go_enter Try.func35, Try.ntmps35
  go_upto_region 1 with fail
  refine wp_named ?_
  intro W hW
  have X1 := Lib.hid (show Box3 W w.heap.size 29 (.int .i64 m.size) (.slice a m.doors.length c) (.slice b m.keys.length d) by rw [hW]; exact Box3.new _ _ _ _ rfl)
  have HB := Lib.hid (show Below w.heap.size w W by rw [hW]; exact below_alloc _ _)
  clear hW
  have hzw := HB.out.size
  obtain ⟨c0, c1, c2⟩ := X1.out.cells
  go_wp2_with fail
  refine (behind_any W lo hi m a b c d (H.out.below HB.out hz) (by omega) _h1 _h2 lo' hi' wa wc walk (HW.out.below HB.out hz') (by omega) hl HU.out).mono ?_
  rintro e w1 ⟨rfl, hb1⟩
  have X2 := Lib.hid (X1.out.below hb1)
  have HB2 := Lib.hid (HB.out.trans (hb1.mono (by omega)))
  have hz1 := hb1.size
  have HVV := Lib.hid (fun hq => M.behV_yes (m := m) (l := walk) hq)
  clear hb1 X1 HB c0 c1 c2
  go_upto_region 2 with (first | (refine wpList_storeO rfl _ _ rfl _ rfl (M.behV m walk) rfl noO (BoxO.zero w1) ?_; intro W3 hB3 hT3))
  have P3 := Lib.hid hB3
  have X4 := Lib.hid ((X2.out.alloc _).turned hT3 (.inl X2.out.lt))
  have HB4 := Lib.hid (Below.thenTurned (HB2.out.alloc (by omega) _) hT3 (by omega) (by simp; omega))
  have hz4 := hT3.size
  rw [World.size_alloc] at hz4
  have hxl := X4.out.lt
  clear hB3 hT3 X2 HB2
  cases q0 : M.askB m walk with
  | false =>
    have HA := Lib.hid q0
    clear q0
    go_wp2_with fail
    go_ret2
    exact ⟨by rw [HA.out, show M.winV m walk = false by unfold M.winV; rw [HA.out]; rfl]; rfl, HB4.out⟩
  | true =>
    have HA := Lib.hid q0
    have HV := Lib.hid (M.valid_of (M.good_maze (M.ask_good q0)))
    have hbo := P3.out
    rw [HVV.out q0] at hbo
    have P5 := Lib.hid hbo
    have HOP := Lib.hid (M.ask_isO q0)
    obtain ⟨c0, c1, c2⟩ := X4.out.cells
    clear q0 P3
    go_wp2_with (first | (refine wpList_loadO rfl _ rfl _ rfl _ hbo ?_))
    refine (isGoal_any W3 lo hi m a b c d (H.out.below HB4.out hz) (by have := HB4.out.size; omega) HV.out (M.behO m walk)).mono ?_
    rintro e w3 ⟨rfl, hb3⟩
    have HB5 := Lib.hid (HB4.out.trans (hb3.mono HB4.out.size))
    clear hb3 hbo c0 c1 c2
    go_wp2_with fail
    go_ret2
    exact ⟨by rw [HA.out, show M.winV m walk = M.winO m (M.behO m walk) by unfold M.winV; rw [HA.out]; rfl]; rfl, HB5.out⟩
end C
end Go.Proofs.Ythgmkkkfhbjhoaa
