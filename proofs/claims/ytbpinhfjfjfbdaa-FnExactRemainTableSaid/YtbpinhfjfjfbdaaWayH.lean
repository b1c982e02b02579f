/-
  CONTRACTS of impl's FewestKeys, DetourOf; what lay in memory stays. No condition but that the maze reads so.
-/
import Derived.Test.YtbpinhfjfjfbdaaWayG
namespace Go.Proofs.Ytbpinhfjfjfbdaa
open Go.RowKit
namespace M
theorem stepsTo_at (m : Mz) (p : Int → St → Bool) {k j : Nat} (h : j < (stepsTo m p k).length) : (stepsTo m p k)[j] = optI (wayO m (st0 m) (p j)) := by
  have h' := h
  rw [stepsTo_len] at h'
  have : (stepsTo m p k)[j]? = some (optI (wayO m (st0 m) (p j))) := by unfold stepsTo; rw [List.getElem?_map, List.getElem?_range h']; rfl
  rw [List.getElem?_eq_getElem h] at this
  exact Option.some.inj this
theorem optI_has (r : Option Nat) : decide (0 ≤ optI r) = true ↔ ∃ v, r = some v := by
  rw [decide_eq_true_iff]
  cases r with
  | none => simp [optI]
  | some n => simp [optI]
theorem fk_idx {m : Mz} {i : Int} (h : IsIdx (fun z => decide (0 ≤ z)) (sakV m) i) : (i = -1 ∧ fkO m = none) ∨ ∃ k : Nat, i = k ∧ fkO m = some k := by
  unfold fkO
  unfold sakV at h
  cases q : mazeB m with
  | false =>
    rw [q] at h
    rcases h with ⟨k, hk, _⟩ | ⟨h, _⟩
    · simp at hk
    · exact .inl ⟨h, rfl⟩
  | true =>
    rw [q] at h
    simp only [if_true] at h ⊢
    rcases h with ⟨k, hk, e, h1, h2⟩ | ⟨e, h2⟩
    · refine .inr ⟨k, e, lst_eq ⟨⟨by rw [stepsTo_len] at hk; exact hk, ?_⟩, fun n hn => ?_⟩⟩
      · rw [stepsTo_at] at h1
        exact (optI_has _).1 h1
      · rcases Nat.lt_or_ge n k with hlt | hge
        · have hn' : n < (stepsTo m (keysP m) 7).length := by rw [stepsTo_len]; exact hn.1
          have := h2 n hn' hlt
          rw [stepsTo_at] at this
          dsimp only at this
          rw [(optI_has _).2 hn.2] at this
          cases this
        · exact hge
    · refine .inl ⟨e, lst_eq fun n hn => ?_⟩
      have hn' : n < (stepsTo m (keysP m) 7).length := by rw [stepsTo_len]; exact hn.1
      have := h2 n hn'
      rw [stepsTo_at] at this
      dsimp only at this
      rw [(optI_has _).2 hn.2] at this
      cases this
theorem sakV_len (m : Mz) : (sakV m).length ≤ 7 := by
  unfold sakV
  split
  · rw [stepsTo_len]; exact Nat.le_refl _
  · simp
end M
namespace C
set_option maxHeartbeats 3200000
set_option maxRecDepth 20000
theorem isSteps_any (x : Int) (w : World) : Calls Try.prog 81 (#[.int .i64 x] ++ #[]) w fun e w' => e = .returned (.bool (decide (0 ≤ x))) ∧ Below w.heap.size w w' := by
  show Calls Try.prog 81 #[.int .i64 x] w _
  go_enter Try.func81, Try.ntmps81
  go_wp2_with fail
  go_ret
  exact ⟨rfl, Below.refl _ _⟩
theorem implFewK_lw (w : World) (lo hi : Nat) (m : M.Mz) (a b : Option Addr) (c d : Nat) (h : MzIn lo hi w m a c b d) (hz : hi ≤ w.heap.size) (h1 : m.doors.length ≤ 1048576) (h2 : m.keys.length ≤ 1048576) :
    Calls Try.prog 42 #[.agg #[.int .i64 m.size, .slice a m.doors.length c, .slice b m.keys.length d]] w (OptPost w (M.fkO m)) := by
  have H := Lib.hid h
  clear h
  go_enter Try.func42, Try.ntmps42
  go_wp2_with fail
  have hb := below_alloc w (.cells #[.int .i64 m.size, .slice a m.doors.length c, .slice b m.keys.length d] 29)
  refine (implSak_lw _ lo hi m a b c d (H.out.below hb hz) (Nat.le_trans hz hb.size) h1 h2).mono ?_
  rintro e w1 ⟨ra, rc, rfl, ho, hq1, hq2, hb1⟩
  have HB := Lib.hid (hb.trans (hb1.mono hb.size))
  have hl := M.sakV_len m
  have CI := Lib.hid (indexI_any 81 #[] (fun z => decide (0 ≤ z)) (enters_of Try.func81 (by kernel_rfl) rfl) w1 _ _ ra rc (M.sakV m) (fun W' x _ => isSteps_any x W') ho.row (Nat.le_refl _) (by omega))
  have HFK := Lib.hid (fun i (hi : M.IsIdx (fun z => decide (0 ≤ z)) (M.sakV m) i) => M.fk_idx hi)
  clear hb hb1 ho
  generalize M.sakV m = l at *
  generalize M.mazeB m = ok at *
  go_wp2_with fail
  refine (CI.out).mono ?_
  rintro e w2 ⟨⟨i, rfl, hi⟩, hb2⟩
  have HB2 := Lib.hid (HB.out.trans (hb2.mono HB.out.size))
  clear hb2
  rcases HFK.out i hi with ⟨rfl, e2⟩ | ⟨k, rfl, e2⟩
  · have HE := Lib.hid e2
    clear e2 hi
    go_wp2_with fail
    go_ret2
    rw [HE.out]
    exact ⟨rfl, HB2.out⟩
  · have HE := Lib.hid e2
    clear e2 hi
    rcases Nat.eq_zero_or_pos k with h0 | h0
    · subst h0
      go_wp2_with fail
      go_ret2
      rw [HE.out]
      exact ⟨rfl, HB2.out⟩
    · go_wp2_with fail
      go_ret2
      rw [HE.out]
      exact ⟨rfl, HB2.out⟩
theorem implDet_lw (w : World) (lo hi : Nat) (m : M.Mz) (a b : Option Addr) (c d : Nat) (h : MzIn lo hi w m a c b d) (hz : hi ≤ w.heap.size) (h1 : m.doors.length ≤ 1048576) (h2 : m.keys.length ≤ 1048576) :
    Calls Try.prog 46 #[.agg #[.int .i64 m.size, .slice a m.doors.length c, .slice b m.keys.length d]] w (fun e w' => e = .returned (.tuple #[.int .i64 (M.detV m), .bool (M.fwO m 0).isSome]) ∧ Below w.heap.size w w') := by
  have H := Lib.hid h
  have HD : Hid (M.detV m = match M.fwO m 0 with | some n => wrap64 ((n : Int) - M.optV (M.ffO m 0 63)) | none => 0) := Lib.hid rfl
  clear h
  go_enter Try.func46, Try.ntmps46
  go_wp2_with fail
  refine named ?_
  intro W hW
  have hb : Below w.heap.size w W := by rw [hW]; exact below_alloc _ _
  have x1 : Box3 W w.heap.size 29 (.int .i64 m.size) (.slice a m.doors.length c) (.slice b m.keys.length d) := by rw [hW]; exact Box3.new _ _ _ _ rfl
  clear hW
  refine (implFewS_lw W lo hi m a b c d (H.out.below hb hz) (Nat.le_trans hz hb.size) h1 h2).mono ?_
  rintro e w1 ⟨rfl, hb1⟩
  have X1 := Lib.hid (x1.below hb1)
  have HB := Lib.hid (hb.trans (hb1.mono hb.size))
  clear hb hb1 x1
  cases q : M.fwO m 0 with
  | none =>
    have HV : Hid (M.detV m = 0) := Lib.hid (by rw [HD.out, q])
    have HQ := Lib.hid q
    clear q
    go_wp2_with fail
    go_ret2
    rw [HV.out, HQ.out]
    exact ⟨rfl, HB.out⟩
  | some n =>
    have HV : Hid (M.detV m = wrap64 ((n : Int) - M.optV (M.ffO m 0 63))) := Lib.hid (by rw [HD.out, q])
    obtain ⟨c0, c1, c2⟩ := X1.out.cells
    have HQ := Lib.hid q
    clear q
    have CF := Lib.hid (implFewF_lw w1 lo hi m a b c d (H.out.below HB.out hz) (Nat.le_trans hz HB.out.size) h1 h2 0 (by omega) (by omega) 63 (by omega) (by omega))
    generalize M.ffO m 0 63 = r at *
    go_wp2_with fail
    refine (CF.out).mono ?_
    rintro e w2 ⟨rfl, hb2⟩
    have HB2 := Lib.hid (HB.out.trans (hb2.mono HB.out.size))
    clear hb2
    go_wp2_with fail
    go_ret2
    rw [HV.out, HQ.out]
    exact ⟨rfl, HB2.out⟩
end C
end Go.Proofs.Ytbpinhfjfjfbdaa
