/-
  CONTRACTS of CountFillings and FirstFilling on both sides. No condition but that the maze reads so.
-/
import Derived.Test.YtddpjjdncmokmaaWngS
import Derived.Test.YtddpjjdncmokmaaOverI
import Derived.Test.YtddpjjdncmokmaaFilQ
import Derived.Test.YtddpjjdncmokmaaWCBefore
namespace Go.Proofs.Ytddpjjdncmokmaa
open Go.RowKit
namespace M
theorem cnt_yes {m : Mz} {s : Int} (h : fewB m s = true) : cntV m s = ((winL m s).length : Int) := by unfold cntV; rw [if_pos h]
theorem cnt_no {m : Mz} {s : Int} (h : fewB m s = false) : cntV m s = 0 := by unfold cntV; rw [h]; rfl
noncomputable def firstW (m : Mz) (s : Int) : List Int := if fewB m s then firstL m s else []
noncomputable def firstB (m : Mz) (s : Int) : Bool := fewB m s && !(winL m s).isEmpty
theorem first_no {m : Mz} {s : Int} (h : fewB m s = false ∨ winL m s = []) : firstW m s = [] ∧ firstB m s = false := by
  unfold firstW firstB firstL
  rcases h with h | h
  · rw [h]; exact ⟨rfl, rfl⟩
  · rw [h]; cases fewB m s <;> exact ⟨rfl, rfl⟩
theorem first_yes {m : Mz} {s : Int} (h : fewB m s = true) (hw : winL m s ≠ []) : firstW m s = firstL m s ∧ firstB m s = true := by
  unfold firstW firstB
  rw [h]
  refine ⟨rfl, ?_⟩
  cases hq : winL m s with
  | nil => exact absurd hq hw
  | cons x l => rfl
theorem winL_len {m : Mz} {s : Int} (h : fewB m s = true) : (winL m s).length ≤ 4096 := Nat.le_trans (winTo_len m s _) (manyF_le h)
theorem winL_mem {m : Mz} {s : Int} {fs : List Int} (h : fs ∈ winL m s) : fs.length = manyC s ∧ winF m s fs = true ∧ ∃ i, fs = digL m.size.toNat (manyC s) i := by
  unfold winL winTo at h
  obtain ⟨h1, h2⟩ := List.mem_filter.1 h
  unfold allTo at h1
  obtain ⟨i, _, rfl⟩ := List.mem_map.1 h1
  exact ⟨digL_len _ _ _, h2, i, rfl⟩
theorem firstW_len (m : Mz) (s : Int) : (firstW m s).length ≤ 1048576 := by
  unfold firstW firstL
  split
  · cases hq : winL m s with
    | nil => simp
    | cons x l =>
      have := (winL_mem (m := m) (s := s) (fs := x) (by rw [hq]; exact List.mem_cons_self ..)).1
      have := many_le s
      show x.length ≤ _
      omega
  · simp
end M
namespace C
set_option linter.unusedVariables false
set_option maxHeartbeats 3200000
set_option maxRecDepth 20000
theorem specCount_lw (w : World) (lo hi : Nat) (m : M.Mz) (a b : Option Addr) (c d : Nat) (h : MzIn lo hi w m a c b d) (hz : hi ≤ w.heap.size) (_h1 : m.doors.length ≤ 1048576) (_h2 : m.keys.length ≤ 1048576) (s : Int) (_s1 : -9223372036854775808 ≤ s) (_s2 : s ≤ 9223372036854775807) :
    Calls Try.prog 31 #[.agg #[.int .i64 m.size, .slice a m.doors.length c, .slice b m.keys.length d], .int .i64 s] w (fun e w' => e = .returned (.tuple #[.int .i64 (M.cntV m s), .bool (M.fewB m s)]) ∧ Below w.heap.size w w') := by
  have H := Lib.hid h
  clear h
  go_enter Try.func31, Try.ntmps31
  go_wp2_with fail
  refine named ?_
  intro W hW
  have hb : Below w.heap.size w W := by rw [hW]; exact below_alloc _ _
  have x1 : Box3 W w.heap.size 27 (.int .i64 m.size) (.slice a m.doors.length c) (.slice b m.keys.length d) := by rw [hW]; exact Box3.new _ _ _ _ rfl
  clear hW
  have hzw := hb.size
  refine (few9_any W lo hi m a b c d (H.out.below hb hz) (by omega) s).mono ?_
  rintro e w1 ⟨rfl, hb1⟩
  have HB1 := Lib.hid (hb.trans (hb1.mono hzw))
  have X1 := Lib.hid (x1.below hb1)
  have hz1 := hb1.size
  clear hb hb1 x1
  obtain ⟨c0, c1, c2⟩ := X1.out.cells
  have hxl := X1.out.lt
  cases qf : M.fewB m s with
  | false =>
    have HV := Lib.hid (M.cnt_no qf)
    have HQ := Lib.hid qf
    clear qf
    go_wp2_with fail
    go_ret2
    exact ⟨by rw [HV.out, HQ.out]; rfl, HB1.out⟩
  | true =>
    have HV := Lib.hid (M.cnt_yes qf)
    have HQ := Lib.hid qf
    have hwl := M.winL_len qf
    have HWN := Lib.hid (winning9_any w1 lo hi m a b c d (H.out.below HB1.out hz) (by omega) _h1 _h2 s qf)
    clear qf
    go_wp2_with fail
    refine HWN.out.mono ?_
    rintro e w2 ⟨qa, qc, U, rfl, hqr, hql, hq1, hq2, hb2⟩
    have HB2 := Lib.hid (HB1.out.trans (hb2.mono (by omega)))
    clear hqr hql hb2 HWN
    generalize (M.winL m s).length = cnt at *
    go_wp2_with fail
    go_ret2
    exact ⟨by rw [HV.out, HQ.out]; rfl, HB2.out⟩
theorem specFirst_lw (w : World) (lo hi : Nat) (m : M.Mz) (a b : Option Addr) (c d : Nat) (h : MzIn lo hi w m a c b d) (hz : hi ≤ w.heap.size) (_h1 : m.doors.length ≤ 1048576) (_h2 : m.keys.length ≤ 1048576) (s : Int) (_s1 : -9223372036854775808 ≤ s) (_s2 : s ≤ 9223372036854775807) :
    Calls Try.prog 33 #[.agg #[.int .i64 m.size, .slice a m.doors.length c, .slice b m.keys.length d], .int .i64 s] w (IntsOkPost w (M.firstW m s) (M.firstB m s)) := by
  have H := Lib.hid h
  clear h
  go_enter Try.func33, Try.ntmps33
  go_wp2_with fail
  refine named ?_
  intro W hW
  have hb : Below w.heap.size w W := by rw [hW]; exact below_alloc _ _
  have x1 : Box3 W w.heap.size 27 (.int .i64 m.size) (.slice a m.doors.length c) (.slice b m.keys.length d) := by rw [hW]; exact Box3.new _ _ _ _ rfl
  clear hW
  have hzw := hb.size
  refine (few9_any W lo hi m a b c d (H.out.below hb hz) (by omega) s).mono ?_
  rintro e w1 ⟨rfl, hb1⟩
  have HB1 := Lib.hid (hb.trans (hb1.mono hzw))
  have X1 := Lib.hid (x1.below hb1)
  have hz1 := hb1.size
  clear hb hb1 x1
  obtain ⟨c0, c1, c2⟩ := X1.out.cells
  have hxl := X1.out.lt
  cases qf : M.fewB m s with
  | false =>
    have HV := Lib.hid (M.first_no (.inl qf))
    clear qf
    go_wp2_with fail
    go_ret2
    rw [HV.out.1, HV.out.2]
    exact intsOk_end (l := []) (ownsRow_empty _ _ _ _ (by omega)) (HB1.out.alloc (by omega) _)
  | true =>
    have HQ := Lib.hid qf
    have hwl := M.winL_len qf
    have HWN := Lib.hid (winning9_any w1 lo hi m a b c d (H.out.below HB1.out hz) (by omega) _h1 _h2 s qf)
    clear qf
    go_wp2_with fail
    refine HWN.out.mono ?_
    rintro e w2 ⟨qa, qc, U, rfl, hqr, hql, hq1, hq2, hb2⟩
    have HB2 := Lib.hid (HB1.out.trans (hb2.mono (by omega)))
    have QR := Lib.hid hqr
    have QL := Lib.hid hql
    have hz2 := hb2.size
    clear hqr hql hb2 HWN
    by_cases hn : (M.winL m s).length = 0
    · have HV := Lib.hid (M.first_no (m := m) (s := s) (.inr (List.eq_nil_of_length_eq_zero hn)))
      have hb0 : (((M.winL m s).length : Int) == 0) = true := by rw [hn]; rfl
      generalize (M.winL m s).length = cnt at *
      subst hn
      go_wp2_with fail
      go_ret2
      rw [HV.out.1, HV.out.2]
      exact intsOk_end (l := []) (ownsRow_empty _ _ _ _ (by omega)) (HB2.out.alloc (by omega) _)
    · have hne : M.winL m s ≠ [] := fun e => hn (by rw [e]; rfl)
      have HV := Lib.hid (M.first_yes HQ.out hne)
      have hpos : 0 < (M.winL m s).length := by omega
      have hu : 0 < U.length := by rw [QL.out.len]; exact hpos
      obtain ⟨hel, hu1, hu2, hu3⟩ := QL.out.el 0 hpos hu
      have hfl : (M.winL m s)[0] = M.firstL m s := by unfold M.firstL; rw [List.headD_eq_head?_getD, List.head?_eq_getElem?, List.getElem?_eq_getElem hpos]; rfl
      rw [hfl] at hel hu1 hu2
      have EL := Lib.hid hel
      obtain ⟨qg, qo, rfl, hqg1, hqg2, hc0⟩ := QR.out.at_ (k := 0) (by rw [List.length_map]; exact hu)
      have hcj := hc0 0 _ (hdr_at hu)
      rw [hu1, Nat.add_zero] at hcj
      have hpi : (0 : Int) < ((M.winL m s).length : Int) := by omega
      have hb0 : (((M.winL m s).length : Int) == 0) = false := by rw [beq_eq_false_iff_ne]; omega
      clear hel hc0 hn hne hfl hu1
      generalize U[0] = u at *
      generalize (M.winL m s).length = cnt at *
      go_wp2_with fail
      go_ret2
      rw [HV.out.1, HV.out.2]
      exact ⟨u.1, u.2.2, rfl, EL.out.mono (by omega) (Nat.le_refl _), hu2, hu3, HB2.out⟩
theorem implCount_lw (w : World) (lo hi : Nat) (m : M.Mz) (a b : Option Addr) (c d : Nat) (h : MzIn lo hi w m a c b d) (hz : hi ≤ w.heap.size) (_h1 : m.doors.length ≤ 1048576) (_h2 : m.keys.length ≤ 1048576) (s : Int) (_s1 : -9223372036854775808 ≤ s) (_s2 : s ≤ 9223372036854775807) :
    Calls Try.prog 32 #[.agg #[.int .i64 m.size, .slice a m.doors.length c, .slice b m.keys.length d], .int .i64 s] w (fun e w' => e = .returned (.tuple #[.int .i64 (M.cntV m s), .bool (M.fewB m s)]) ∧ Below w.heap.size w w') := by
  have H := Lib.hid h
  clear h
  go_enter Try.func32, Try.ntmps32
  go_wp2_with fail
  refine named ?_
  intro W hW
  have hb : Below w.heap.size w W := by rw [hW]; exact below_alloc _ _
  have x1 : Box3 W w.heap.size 27 (.int .i64 m.size) (.slice a m.doors.length c) (.slice b m.keys.length d) := by rw [hW]; exact Box3.new _ _ _ _ rfl
  clear hW
  have hzw := hb.size
  refine (overI_any W lo hi m a b c d (H.out.below hb hz) (by omega) _h1 _h2 s _s1 _s2).mono ?_
  rintro e w1 ⟨rfl, hb1⟩
  have HB1 := Lib.hid (hb.trans (hb1.mono hzw))
  clear hb hb1 x1
  go_wp2_with fail
  go_ret2
  exact ⟨rfl, HB1.out⟩
theorem implFirst_lw (w : World) (lo hi : Nat) (m : M.Mz) (a b : Option Addr) (c d : Nat) (h : MzIn lo hi w m a c b d) (hz : hi ≤ w.heap.size) (_h1 : m.doors.length ≤ 1048576) (_h2 : m.keys.length ≤ 1048576) (s : Int) (_s1 : -9223372036854775808 ≤ s) (_s2 : s ≤ 9223372036854775807) :
    Calls Try.prog 34 #[.agg #[.int .i64 m.size, .slice a m.doors.length c, .slice b m.keys.length d], .int .i64 s] w (IntsOkPost w (M.firstW m s) (M.firstB m s)) := by
  have H := Lib.hid h
  clear h
  obtain ⟨i0, hi0, hz0, hzz1, hz2⟩ := info_parts infoI
  go_enter Try.func34, Try.ntmps34
  go_wp2_with fail
  refine named ?_
  intro W hW
  have hb : Below w.heap.size w W := by rw [hW]; exact below_alloc _ _
  have x1 : Box3 W w.heap.size 27 (.int .i64 m.size) (.slice a m.doors.length c) (.slice b m.keys.length d) := by rw [hW]; exact Box3.new _ _ _ _ rfl
  clear hW
  have hzw := hb.size
  refine (implCount_lw W lo hi m a b c d (H.out.below hb hz) (by omega) _h1 _h2 s _s1 _s2).mono ?_
  rintro e w1 ⟨rfl, hb1⟩
  have HB1 := Lib.hid (hb.trans (hb1.mono hzw))
  have hzq1 := hb1.size
  clear hb hb1 x1
  have hno : M.cntV m s = 0 → M.firstW m s = [] ∧ M.firstB m s = false := fun h => by
    cases qf : M.fewB m s with
    | false => exact M.first_no (.inl qf)
    | true => rw [M.cnt_yes qf] at h; exact M.first_no (.inr (List.eq_nil_of_length_eq_zero (by omega)))
  have hyes : M.cntV m s ≠ 0 → M.fewB m s = true ∧ M.firstW m s = List.replicate (M.manyC s) 0 ∧ M.firstB m s = true := fun h => by
    cases qf : M.fewB m s with
    | false => exact absurd (M.cnt_no qf) h
    | true =>
      have hne : M.winL m s ≠ [] := fun e => h (by rw [M.cnt_yes qf, e]; rfl)
      have ha := (M.few_yes qf).1
      have hy := M.first_yes qf hne
      rw [M.first_zero ha (M.setI_colours (M.setB_iff.2 (M.ask_yes ha).2)) hne] at hy
      exact ⟨rfl, hy⟩
  by_cases hc : M.cntV m s = 0
  · have HV := Lib.hid (hno hc)
    have hb0 : (M.cntV m s == 0) = true := by rw [beq_iff_eq]; exact hc
    rw [hc]
    clear hno hyes hb0 hc
    go_wp2_with fail
    go_ret2
    rw [HV.out.1, HV.out.2]
    exact intsOk_end (l := []) (ownsRow_empty _ _ _ _ (by omega)) (HB1.out.alloc (by omega) _)
  · have HV := Lib.hid (hyes hc)
    have hb0 : (M.cntV m s == 0) = false := by rw [beq_eq_false_iff_ne]; exact hc
    have hset := M.setB_iff.2 (M.ask_yes (M.few_yes HV.out.1).1).2
    have HSZ := Lib.hid (fun W => sizeOf_any s hset W)
    have hm6 := M.many_le s
    clear hno hyes
    generalize M.cntV m s = cv at *
    have HC := Lib.hid hc
    clear hc
    generalize M.manyC s = k at *
    go_wp2_with (first
      | (go_at_call 68; refine (HSZ.out _).mono ?_; rintro e w2 ⟨rfl, rfl⟩)
      | (at_make; refine wpList_make_full _ rfl _ _ 23 rfl w.heap.size 3 i0 (.int .i64 0) 1 Try.underlying23 hi0 hz0 hzz1 .i64 .i64 _ _ k rfl rfl rfl rfl (by rw [hz2]; omega) (by unfold maxLen; omega) (by omega) ?_; intro w7 hown7 hgrow7))
    rw [made_zero] at hown7
    have hb7 : Below w.heap.size w w7 := HB1.out.grown hgrow7 (by omega) (fun k e => by cases e)
    go_ret2
    rw [HV.out.2.1, HV.out.2.2]
    exact intsOk_end (l := List.replicate k 0) (by rw [List.length_replicate]; exact hown7) hb7
end C
end Go.Proofs.Ytddpjjdncmokmaa
