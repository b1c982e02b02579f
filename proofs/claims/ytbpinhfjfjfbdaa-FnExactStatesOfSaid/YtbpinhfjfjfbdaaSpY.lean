/-
  CONTRACTS of the model's FewestKeys, StatesOf; what lay in memory stays. No condition but that the maze reads so.
-/
import Derived.Test.YtbpinhfjfjfbdaaSpX
namespace Go.Proofs.Ytbpinhfjfjfbdaa
open Go.RowKit
namespace M
/-- how many of the first k states have a number -/
def cntTo (f : St → Option Nat) (k : Nat) : Nat := ((List.range k).filter fun i => (f (unid i)).isSome).length
theorem cntTo_yes {f : St → Option Nat} {k : Nat} (h : (f (unid k)).isSome = true) : cntTo f (k + 1) = cntTo f k + 1 := by
  unfold cntTo; rw [List.range_succ, List.filter_append, List.filter_cons_of_pos (p := fun i => (f (unid i)).isSome) h, List.length_append]; rfl
theorem cntTo_no {f : St → Option Nat} {k : Nat} (h : (f (unid k)).isSome = false) : cntTo f (k + 1) = cntTo f k := by
  unfold cntTo; rw [List.range_succ, List.filter_append, List.filter_cons_of_neg (p := fun i => (f (unid i)).isSome) (by rw [h]; decide), List.length_append]; rfl
theorem cntTo_le (f : St → Option Nat) (k : Nat) : cntTo f k ≤ k := by
  unfold cntTo
  have := List.length_filter_le (fun i => (f (unid i)).isSome) (List.range k)
  simpa using this
theorem cntTo_end {m : Mz} {f : St → Option Nat} (hf : ∀ t n, f t = some n → StOk m t) : cntO f = cntTo f (size64 m) := by
  refine cntO_eq ⟨((List.range (size64 m)).filter fun i => (f (unid i)).isSome).map unid, ?_, fun s => ?_, by unfold cntTo; rw [List.length_map]⟩
  · refine List.pairwise_map.2 (List.Pairwise.imp (fun {a b} hab e => hab ?_) (List.Pairwise.filter _ List.nodup_range))
    have := congrArg idN e
    rwa [idN_unid, idN_unid] at this
  · rw [List.mem_map]
    constructor
    · rintro ⟨i, hi, rfl⟩
      rw [List.mem_filter] at hi
      exact Option.isSome_iff_exists.1 hi.2
    · rintro ⟨k, hk⟩
      have hs := hf s k hk
      refine ⟨idN s, ?_, unid_idN hs⟩
      rw [List.mem_filter, List.mem_range, unid_idN hs]
      exact ⟨idN_lt hs, Option.isSome_iff_exists.2 ⟨k, hk⟩⟩
end M
namespace C
set_option maxHeartbeats 3200000
set_option maxRecDepth 20000
theorem specFewK_lw (w : World) (lo hi : Nat) (m : M.Mz) (a b : Option Addr) (c d : Nat) (h : MzIn lo hi w m a c b d) (hz : hi ≤ w.heap.size) (_h1 : m.doors.length ≤ 1048576) (_h2 : m.keys.length ≤ 1048576) :
    Calls Try.prog 41 #[.agg #[.int .i64 m.size, .slice a m.doors.length c, .slice b m.keys.length d]] w (OptPost w (M.fkO m)) := by
  have H := Lib.hid h
  clear h
  go_enter Try.func41, Try.ntmps41
  go_upto_region 1 with fail
  refine wp_named ?_
  intro W hW
  have hb : Below w.heap.size w W := by rw [hW]; exact below_alloc _ _
  have x1 : Box3 W w.heap.size 29 (.int .i64 m.size) (.slice a m.doors.length c) (.slice b m.keys.length d) := by rw [hW]; exact Box3.new _ _ _ _ rfl
  clear hW
  have hzw := hb.size
  obtain ⟨c0, c1, c2⟩ := x1.cells
  have HIM := Lib.hid (specMaze_any W lo hi m a b c d (H.out.below hb hz) (by omega))
  go_wp2_with fail
  refine (HIM.out).mono ?_
  rintro e w1 ⟨rfl, hb1⟩
  have X1 := Lib.hid (x1.below hb1)
  have HB1 := Lib.hid (hb.trans (hb1.mono hzw))
  have hz1 := hb1.size
  clear hb hb1 x1 c0 c1 c2
  cases q0 : M.mazeB m with
  | false =>
    have HF : Hid (M.fkO m = none) := Lib.hid (by unfold M.fkO; rw [q0]; rfl)
    clear q0
    go_wp2_with fail
    go_ret2
    rw [HF.out]
    exact ⟨rfl, HB1.out⟩
  | true =>
    have HVA := Lib.hid (M.valid_of q0)
    have v1 := HVA.out.size1
    have v12 := HVA.out.size12
    have HF : Hid (M.fkO m = M.lst fun n => n < 7 ∧ ∃ v, M.wayO m (M.st0 m) (M.keysP m n) = some v) := Lib.hid (by unfold M.fkO; rw [if_pos q0])
    clear q0
    have HWY := Lib.hid (fun k : Nat => M.way_same HVA.out (M.st0_ok HVA.out) (p := M.leastB (m.size - 1) 0 (k : Int)) (q := M.keysP m (k : Int)) fun t ht => M.leastB_keys ht (k : Int))
    have CF := Lib.hid (l4First_any w1 lo hi m a b c d (H.out.below HB1.out hz) (by have := HB1.out.size; omega) HVA.out)
    obtain ⟨c0, c1, c2⟩ := X1.out.cells
    go_wp2_with fail
    refine (CF.out).mono ?_
    rintro e w2 ⟨ra, rc, rfl, ho2, hb2⟩
    have X2 := Lib.hid (X1.out.below hb2)
    have HB2 := Lib.hid (HB1.out.trans (hb2.mono HB1.out.size))
    have HR := Lib.hid ho2.row
    clear hb2 ho2 c0 c1 c2
    obtain ⟨c0, c1, c2⟩ := X2.out.cells
    go_wp2_with fail
    go_loop [5] (fun v5 => ∃ k : Nat, k ≤ 7 ∧ v5 = .int .i64 (k : Int) ∧ ∀ j : Nat, j < k → M.wayO m (M.st0 m) (M.keysP m (j : Int)) = none) (fun v5 => 7 - (intOf v5).toNat)
    case atStart => exact ⟨0, Nat.zero_le _, rfl, fun j hj => by omega⟩
    case round =>
      obtain ⟨k, hk, rfl, hno⟩ := hrel
      have HNO := Lib.hid hno
      clear hno
      by_cases hkl : k < 7
      · have CL := l4Least_any w2 _ _ m HVA.out ra rc _ HR.out (Nat.le_refl _) (m.size - 1) 0 (k : Int) (by omega) (by omega) (fun t n => M.dst_ok HVA.out (M.st0_ok HVA.out))
        rw [HWY.out k] at CL
        have CL1 := Lib.hid CL
        clear CL
        cases hr : M.wayO m (M.st0 m) (M.keysP m (k : Int)) with
        | none =>
          rw [hr] at CL1
          have HNX := Lib.hid (fun j : Nat => fun hj : j < k + 1 => (show M.wayO m (M.st0 m) (M.keysP m (j : Int)) = none by
            rcases Nat.lt_or_ge j k with h' | h'
            · exact HNO.out j h'
            · obtain rfl : j = k := by omega
              exact hr))
          have HN1 : Hid (M.optI none = -1) := Lib.hid rfl
          rw [HN1.out] at CL1
          clear hr
          go_wp2_with fail
          refine (CL1.out).mono ?_
          rintro e w4 ⟨rfl, rfl⟩
          go_wp2_with fail
          go_round
          case rel => exact ⟨k + 1, by omega, by go_num, HNX.out⟩
          case measure => simp [intOf]; omega
        | some v =>
          rw [hr] at CL1
          have HRES : Hid (M.fkO m = some k) := Lib.hid (by
            rw [HF.out]
            refine M.lst_eq ⟨⟨hkl, v, hr⟩, fun n hn => ?_⟩
            rcases Nat.lt_or_ge n k with h' | h'
            · obtain ⟨u, hu⟩ := hn.2
              rw [HNO.out n h'] at hu
              cases hu
            · exact h')
          have HN1 : Hid (M.optI (some v) = (v : Int)) := Lib.hid rfl
          rw [HN1.out] at CL1
          clear hr
          go_wp2_with fail
          refine (CL1.out).mono ?_
          rintro e w4 ⟨rfl, rfl⟩
          go_wp2_with fail
          go_ret2
          rw [HRES.out]
          exact ⟨rfl, HB2.out⟩
      · obtain rfl : k = 7 := by omega
        have HRES : Hid (M.fkO m = none) := Lib.hid (by
          rw [HF.out]
          refine M.lst_eq fun n hn => ?_
          obtain ⟨u, hu⟩ := hn.2
          rw [HNO.out n hn.1] at hu
          cases hu)
        go_wp2_with fail
        go_ret2
        rw [HRES.out]
        exact ⟨rfl, HB2.out⟩
theorem specStates_lw (w : World) (lo hi : Nat) (m : M.Mz) (a b : Option Addr) (c d : Nat) (h : MzIn lo hi w m a c b d) (hz : hi ≤ w.heap.size) (_h1 : m.doors.length ≤ 1048576) (_h2 : m.keys.length ≤ 1048576) :
    Calls Try.prog 30 #[.agg #[.int .i64 m.size, .slice a m.doors.length c, .slice b m.keys.length d]] w (fun e w' => e = .returned (.tuple #[.int .i64 (M.statesV m), .bool (M.mazeB m)]) ∧ Below w.heap.size w w') := by
  have H := Lib.hid h
  clear h
  go_enter Try.func30, Try.ntmps30
  go_upto_region 1 with fail
  refine wp_named ?_
  intro W hW
  have hb : Below w.heap.size w W := by rw [hW]; exact below_alloc _ _
  have x1 : Box3 W w.heap.size 29 (.int .i64 m.size) (.slice a m.doors.length c) (.slice b m.keys.length d) := by rw [hW]; exact Box3.new _ _ _ _ rfl
  clear hW
  have hzw := hb.size
  obtain ⟨c0, c1, c2⟩ := x1.cells
  have HIM := Lib.hid (specMaze_any W lo hi m a b c d (H.out.below hb hz) (by omega))
  go_wp2_with fail
  refine (HIM.out).mono ?_
  rintro e w1 ⟨rfl, hb1⟩
  have X1 := Lib.hid (x1.below hb1)
  have HB1 := Lib.hid (hb.trans (hb1.mono hzw))
  have hz1 := hb1.size
  clear hb hb1 x1 c0 c1 c2
  cases q0 : M.mazeB m with
  | false =>
    have HF : Hid (M.statesV m = 0) := Lib.hid (by unfold M.statesV; rw [q0]; rfl)
    have HM := Lib.hid q0
    clear q0
    go_wp2_with fail
    go_ret2
    rw [HF.out, HM.out]
    exact ⟨rfl, HB1.out⟩
  | true =>
    have HVA := Lib.hid (M.valid_of q0)
    have HM := Lib.hid q0
    have v12 := HVA.out.size12
    have HF : Hid (M.statesV m = (M.cntTo (M.dst (M.nexts m) [M.st0 m]) (M.size64 m) : Nat)) := Lib.hid (by
      unfold M.statesV
      rw [q0, M.cntTo_end fun t n => M.dst_ok HVA.out (M.st0_ok HVA.out)]
      rfl)
    have hsz : M.size64 m ≤ 768 := by unfold M.size64; omega
    clear q0
    have CF := Lib.hid (l4First_any w1 lo hi m a b c d (H.out.below HB1.out hz) (by have := HB1.out.size; omega) HVA.out)
    obtain ⟨c0, c1, c2⟩ := X1.out.cells
    generalize M.dst (M.nexts m) [M.st0 m] = f at *
    go_wp2_with fail
    refine (CF.out).mono ?_
    rintro e w2 ⟨ra, rc, rfl, ho2, hb2⟩
    have HB2 := Lib.hid (HB1.out.trans (hb2.mono HB1.out.size))
    have HR := Lib.hid ho2.row
    clear hb2 ho2 c0 c1 c2
    generalize M.size64 m = sz at *
    go_wp2_with fail
    go_loop [4, 6] (fun v4 v6 => ∃ k : Nat, k ≤ sz ∧ v6 = .int .i64 (k : Int) ∧ v4 = .int .i64 ((M.cntTo f k : Nat) : Int)) (fun _ v6 => sz - (intOf v6).toNat)
    case atStart => exact ⟨0, Nat.zero_le _, rfl, rfl⟩
    case round =>
      obtain ⟨k, hk, rfl, rfl⟩ := hrel
      have hcl := M.cntTo_le f k
      by_cases hkl : k < sz
      · obtain ⟨sb, off, hsa, _, hsb, hcell⟩ := HR.out.at_ (k := k) (by rw [M.encIs_len, M.tblL_len]; exact hkl)
        subst hsa
        have y0 := hcell _ _ (M.tblL_at hkl)
        clear hcell
        cases hr : f (M.unid k) with
        | none =>
          have HC := Lib.hid (M.cntTo_no (f := f) (k := k) (by rw [hr]; rfl))
          rw [hr, M.optI_none] at y0
          clear hr
          generalize M.cntTo f k = cn at *
          go_wp2_with fail
          go_round
          case rel => exact ⟨k + 1, by omega, by go_num, by rw [HC.out]⟩
          case measure => simp [intOf]; omega
        | some v =>
          have HC := Lib.hid (M.cntTo_yes (f := f) (k := k) (by rw [hr]; rfl))
          rw [hr, M.optI_some] at y0
          clear hr
          generalize M.cntTo f k = cn at *
          go_wp2_with fail
          go_round
          case rel => exact ⟨k + 1, by omega, by go_num, by rw [HC.out]; go_num⟩
          case measure => simp [intOf]; omega
      · obtain rfl : k = sz := by omega
        go_wp2_with fail
        go_ret2
        rw [HF.out, HM.out]
        exact ⟨rfl, HB2.out⟩
end C
end Go.Proofs.Ytbpinhfjfjfbdaa
