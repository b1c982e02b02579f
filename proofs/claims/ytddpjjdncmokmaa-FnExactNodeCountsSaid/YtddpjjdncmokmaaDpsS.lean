/-
  CONTRACTS of DeepestFilling on both sides. No condition but that the maze reads so.
-/
import Derived.Test.YtddpjjdncmokmaaCntS
import Derived.Test.YtddpjjdncmokmaaDepS
import Derived.Test.YtddpjjdncmokmaaOverD
import Derived.BigQuiet
namespace Go.Proofs.Ytddpjjdncmokmaa
open Go.RowKit
namespace M
theorem take_snoc9 {α : Type} {l : List α} {j : Nat} (h : j < l.length) : l.take (j + 1) = l.take j ++ [l[j]] := (List.take_append_getElem h).symm
theorem winL_fil {m : Mz} {s : Int} (hf : fewB m s = true) {fs : List Int} (h : fs ∈ winL m s) : filB m s fs = true ∧ fs.length ≤ 1048576 := by
  obtain ⟨hl, _, i, rfl⟩ := winL_mem h
  have ha := (few_yes hf).1
  have v1 := (ask_yes ha).1.size1
  have hk := many_le s
  exact ⟨dig_fil ha (n := m.size.toNat) (by omega) i, by omega⟩
theorem deepL_lenF {m : Mz} {s : Int} {l : List (List Int)} (h : ∀ x ∈ l, x ∈ winL m s) : (deepL m s l).1.length ≤ 1048576 := deepL_len (k := 1048576) (fun x hx => by have := (winL_mem (h x hx)).1; have := many_le s; omega)
theorem deepW_len (m : Mz) (s : Int) : (deepW m s).1.length ≤ 1048576 := by
  unfold deepW
  split
  · exact deepL_lenF (fun x hx => hx)
  · simp
end M
namespace C
set_option linter.unusedVariables false
set_option maxHeartbeats 3200000
set_option maxRecDepth 20000
/-- a list, a number and ok in memory -/
def DeepPost (w : World) (l : List Int) (q : Int) (ok : Bool) (e : Ending) (w' : World) : Prop :=
  ∃ a c, e = .returned (.tuple #[.slice a l.length c, .int .i64 q, .bool ok]) ∧ OwnAt w.heap.size w'.heap.size w' 3 a (M.encIs l) ∧ l.length ≤ c ∧ c ≤ 9223372036854775807 ∧ Below w.heap.size w w'
theorem specDeep_lw (w : World) (lo hi : Nat) (m : M.Mz) (a b : Option Addr) (c d : Nat) (h : MzIn lo hi w m a c b d) (hz : hi ≤ w.heap.size) (_h1 : m.doors.length ≤ 1048576) (_h2 : m.keys.length ≤ 1048576) (s : Int) (_s1 : -9223372036854775808 ≤ s) (_s2 : s ≤ 9223372036854775807) :
    Calls Try.prog 36 #[.agg #[.int .i64 m.size, .slice a m.doors.length c, .slice b m.keys.length d], .int .i64 s] w (DeepPost w (M.deepW m s).1 (M.deepW m s).2 (decide (0 < (M.deepW m s).2))) := by
  have H := Lib.hid h
  clear h
  go_enter Try.func36, Try.ntmps36
  go_wp2_with fail
  refine named ?_
  intro W hW
  have hb : Below w.heap.size w W := by rw [hW]; exact below_alloc _ _
  have x1 : Box3 W w.heap.size 27 (.int .i64 m.size) (.slice a m.doors.length c) (.slice b m.keys.length d) := by rw [hW]; exact Box3.new _ _ _ _ rfl
  clear hW
  have hzw := hb.size
  refine (few9_any W lo hi m a b c d (H.out.below hb hz) (by omega) s).mono ?_
  rintro e w1 ⟨rfl, hb1⟩
  have HB1 := Lib.hid (hb.trans (hb1.mono hzw))
  have X1 := Lib.hid (x1.below hb1)
  have hz1 := hb1.size
  clear hb hb1 x1
  obtain ⟨c0, c1, c2⟩ := X1.out.cells
  have hxl := X1.out.lt
  cases qf : M.fewB m s with
  | false =>
    have HV := Lib.hid (M.deepW_no qf)
    clear qf
    go_wp2_with fail
    go_ret3
    rw [HV.out]
    exact ⟨some ⟨w1.heap.size, 0, none⟩, 0, rfl, OwnAt.nil _ _ _ _ _, Nat.le_refl _, by omega, HB1.out.alloc (by omega) _⟩
  | true =>
    have HV := Lib.hid (M.deepW_yes qf)
    have HQ := Lib.hid qf
    have hwl := M.winL_len qf
    clear qf
    go_wp2_with fail
    refine named ?_
    intro W3 hW3
    have hb3 : Below w.heap.size w W3 := by rw [hW3]; exact HB1.out.alloc (by omega) _
    have x3 : Box3 W3 w.heap.size 27 (.int .i64 m.size) (.slice a m.doors.length c) (.slice b m.keys.length d) := by rw [hW3]; exact X1.out.alloc _
    have hz13 : W3.heap.size = w1.heap.size + 1 := by rw [hW3]; simp
    clear hW3
    refine (winning9_any W3 lo hi m a b c d (H.out.below hb3 hz) (by omega) _h1 _h2 s HQ.out).mono ?_
    rintro e w2 ⟨qa, qc, U, rfl, hqr, hql, hq1, hq2, hb2⟩
    have HB2 := Lib.hid (hb3.trans (hb2.mono (by omega)))
    have QR := Lib.hid hqr
    have QL := Lib.hid (hql.mono (show w.heap.size ≤ W3.heap.size by omega))
    have X2 := Lib.hid (x3.below hb2)
    have hz2 := hb2.size
    have HUL := Lib.hid hql.len
    have hle : (M.winL m s).length = U.length := hql.len.symm
    rw [hle]
    rw [hle] at hwl hq1
    clear hqr hql hb2 hb3 x3 hle c0 c1 c2 X1 HB1
    go_wp2_with fail
    go_loopw [7, 8, 10] (fun v7 v8 v10 wr => ∃ (j l0 h0 k0 : Nat) (a0 : Option Addr), j ≤ U.length ∧ v10 = .int .i64 (j : Int) ∧ v7 = .slice a0 (M.deepL m s ((M.winL m s).take j)).1.length k0 ∧ v8 = .int .i64 (M.deepL m s ((M.winL m s).take j)).2 ∧ OwnAt w.heap.size wr.heap.size wr 3 a0 (M.encIs (M.deepL m s ((M.winL m s).take j)).1) ∧ (M.deepL m s ((M.winL m s).take j)).1.length ≤ k0 ∧ k0 ≤ 9223372036854775807 ∧ RowIn l0 h0 wr qa (U.map hdrV) ∧ h0 ≤ wr.heap.size ∧ LL w.heap.size wr U (M.winL m s) ∧ Box3 wr w.heap.size 27 (.int .i64 m.size) (.slice a m.doors.length c) (.slice b m.keys.length d) ∧ Below w.heap.size w wr) (fun _ _ v10 _ => U.length - (intOf v10).toNat)
    case atStart => exact ⟨0, W3.heap.size, w2.heap.size, 0, some ⟨w1.heap.size, 0, none⟩, Nat.zero_le _, rfl, rfl, rfl, OwnAt.nil _ _ _ _ _, Nat.le_refl _, by omega, QR.out, Nat.le_refl _, QL.out, X2.out, HB2.out⟩
    case round =>
      clear QR QL X2 HB2
      obtain ⟨j, l0, h0, k0, a0, hj, rfl, rfl, rfl, ho, hk1, hk2, hqr, hh0, hll, hx, hlow⟩ := hrel
      have HO := Lib.hid ho
      have QR := Lib.hid hqr
      have LU := Lib.hid hll
      have XR := Lib.hid hx
      have LO := Lib.hid hlow
      have hzr := hlow.size
      have hxl := hx.lt
      clear ho hqr hll hx hlow
      by_cases hjl : j < U.length
      · have hall : j < (M.winL m s).length := by rw [← HUL.out]; exact hjl
        obtain ⟨hel, hu1, hu2, hu3⟩ := LU.out.el j hall hjl
        have hfl := M.winL_fil HQ.out (List.getElem_mem hall)
        obtain ⟨qg, qo, rfl, hqg1, hqg2, hc0⟩ := QR.out.at_ (k := j) (by rw [List.length_map]; exact hjl)
        have hcj := hc0 j _ (hdr_at hjl)
        rw [hu1] at hcj
        have HTK := Lib.hid (show M.deepL m s ((M.winL m s).take (j + 1)) = M.deepStep m s (M.deepL m s ((M.winL m s).take j)) (M.winL m s)[j] by rw [M.take_snoc9 hall, M.deepL_snoc])
        obtain ⟨c0, c1, c2⟩ := XR.out.cells
        generalize (M.winL m s)[j] = x at *
        generalize U[j] = u at *
        have HEL := Lib.hid hel
        have HCJ := Lib.hid hcj
        have HDP := Lib.hid (depth9_any wr.drew lo hi m a b c d (H.out.below LO.out.drew hz) (by simp; omega) _h1 _h2 s w.heap.size wr.heap.size u.1 u.2.2 x (hel.below (Below.refl wr.heap.size wr).drew (Nat.le_refl _)).row (by simp) hfl.2 hfl.1)
        clear hel hc0 hfl
        go_wp2_with fail
        refine wp_region_late2 (fun (wq : World) => (wq.cell? ⟨w.heap.size, 0, none⟩ = some (.int .i64 m.size) ∧ wq.cell? ⟨w.heap.size, 1, none⟩ = some (.slice a m.doors.length c) ∧ wq.cell? ⟨w.heap.size, 2, none⟩ = some (.slice b m.keys.length d)) ∧ wq.cell? ⟨qg, qo + j, none⟩ = some (.slice u.1 x.length u.2.2)) [] 8 #[false, false, false, false, false, false, false, false] rfl rfl (by kernel_rfl) ?_
        have hS : (fun (wq : World) => (wq.cell? ⟨w.heap.size, 0, none⟩ = some (.int .i64 m.size) ∧ wq.cell? ⟨w.heap.size, 1, none⟩ = some (.slice a m.doors.length c) ∧ wq.cell? ⟨w.heap.size, 2, none⟩ = some (.slice b m.keys.length d)) ∧ wq.cell? ⟨qg, qo + j, none⟩ = some (.slice u.1 x.length u.2.2)) wr.drew := ⟨⟨c0, c1, c2⟩, hcj⟩
        refine wpAnyL_take (i := 0) (oi := { dst := some 27, op := Go.Op.load 27 (Go.Operand.tmp 2), type := 27, pos := "l9_filling.go:124", after := #[], guard := none }) (v := ?pv0) rfl (by kernel_rfl) (by kernel_rfl) (by kernel_rfl) (by kernel_rfl) (fun _ _ _ h => h) (Or.inl ⟨by rfl, ?ph0⟩) hS ?pr0
        case ph0 => (intro wS hSw; (try dsimp only at hSw); go_split_ands; go_simp; try with_reducible rfl)
        try simp only [Act.put, List.setIfInBounds_toArray, List.set_cons_zero, List.set_cons_succ]
        refine wpAnyL_take (i := 1) (oi := { dst := some 28, op := Go.Op.move (Go.Operand.tmp 1), type := 3, pos := "l9_filling.go:124", after := #[], guard := none }) (v := ?pv1) rfl (by kernel_rfl) (by kernel_rfl) (by kernel_rfl) (by kernel_rfl) (fun _ _ _ h => h) (Or.inl ⟨by rfl, ?ph1⟩) hS ?pr1
        case ph1 => (intro wS hSw; (try dsimp only at hSw); go_split_ands; go_simp; try with_reducible rfl)
        try simp only [Act.put, List.setIfInBounds_toArray, List.set_cons_zero, List.set_cons_succ]
        refine wpAnyL_take (i := 2) (oi := { dst := some 29, op := Go.Op.move (Go.Operand.tmp 9), type := 72, pos := "l9_filling.go:124", after := #[], guard := none }) (v := ?pv2) rfl (by kernel_rfl) (by kernel_rfl) (by kernel_rfl) (by kernel_rfl) (fun _ _ _ h => h) (Or.inl ⟨by rfl, ?ph2⟩) hS ?pr2
        case ph2 => (intro wS hSw; (try dsimp only at hSw); go_split_ands; go_simp; try with_reducible rfl)
        try simp only [Act.put, List.setIfInBounds_toArray, List.set_cons_zero, List.set_cons_succ]
        refine wpAnyL_take (i := 3) (oi := { dst := some 30, op := Go.Op.move (Go.Operand.tmp 10), type := 3, pos := "l9_filling.go:124", after := #[], guard := none }) (v := ?pv3) rfl (by kernel_rfl) (by kernel_rfl) (by kernel_rfl) (by kernel_rfl) (fun _ _ _ h => h) (Or.inl ⟨by rfl, ?ph3⟩) hS ?pr3
        case ph3 => (intro wS hSw; (try dsimp only at hSw); go_split_ands; go_simp; try with_reducible rfl)
        try simp only [Act.put, List.setIfInBounds_toArray, List.set_cons_zero, List.set_cons_succ]
        refine wpAnyL_take (i := 4) (oi := { dst := some 31, op := Go.Op.indexAddr 72 (Go.Operand.tmp 29) (Go.Operand.tmp 30), type := 0, pos := "l9_filling.go:124", after := #[{ on := 2, ground := Go.Ground.data }, { on := 3, ground := Go.Ground.data }], guard := none }) (v := ?pv4) rfl (by kernel_rfl) (by kernel_rfl) (by kernel_rfl) (by kernel_rfl) (fun _ _ _ h => h) (Or.inl ⟨by rfl, ?ph4⟩) hS ?pr4
        case ph4 => (intro wS hSw; (try dsimp only at hSw); go_split_ands; go_simp; try with_reducible rfl)
        try simp only [Act.put, List.setIfInBounds_toArray, List.set_cons_zero, List.set_cons_succ]
        refine wpAnyL_take (i := 5) (oi := { dst := some 32, op := Go.Op.load 23 (Go.Operand.tmp 31), type := 23, pos := "l9_filling.go:124", after := #[{ on := 4, ground := Go.Ground.data }], guard := none }) (v := ?pv5) rfl (by kernel_rfl) (by kernel_rfl) (by kernel_rfl) (by kernel_rfl) (fun _ _ _ h => h) (Or.inl ⟨by rfl, ?ph5⟩) hS ?pr5
        case ph5 => (intro wS hSw; (try dsimp only at hSw); go_split_ands; go_simp; try with_reducible rfl)
        try simp only [Act.put, List.setIfInBounds_toArray, List.set_cons_zero, List.set_cons_succ]
        refine wpAnyL_one (i := 6) (oi := { dst := some 33, op := Go.Op.call { callee := Go.Callee.value (Go.Operand.func 70), args := #[Go.Operand.tmp 27, Go.Operand.tmp 28, Go.Operand.tmp 32], argTypes := #[27, 3, 23] }, type := 3, pos := "l9_filling.go:124", after := #[{ on := 0, ground := Go.Ground.data }, { on := 1, ground := Go.Ground.data }, { on := 5, ground := Go.Ground.data }], guard := none }) (by kernel_rfl) rfl (fun Kp6 hKp6 => ?_)
        refine step_call (by rfl) 70 #[.agg #[.int .i64 m.size, .slice a m.doors.length c, .slice b m.keys.length d], .int .i64 s, .slice u.1 x.length u.2.2] (by go_simp; try rfl) (HDP.out) ?_
        rintro e w4 ⟨rfl, hb4⟩
        refine ⟨_, rfl, ?_⟩
        have hb4x : Below wr.heap.size wr w4 := (Below.refl wr.heap.size wr).drew.trans hb4
        have X4 := Lib.hid (XR.out.below hb4x)
        have Q4 := Lib.hid ((hb4x.cell (p := ⟨qg, qo + j, none⟩) (show qg < wr.heap.size by omega)).trans hcj)
        have hz4 := hb4x.size
        have hx4 : (fun (wq : World) => (wq.cell? ⟨w.heap.size, 0, none⟩ = some (.int .i64 m.size) ∧ wq.cell? ⟨w.heap.size, 1, none⟩ = some (.slice a m.doors.length c) ∧ wq.cell? ⟨w.heap.size, 2, none⟩ = some (.slice b m.keys.length d)) ∧ wq.cell? ⟨qg, qo + j, none⟩ = some (.slice u.1 x.length u.2.2)) w4 := ⟨X4.out.cells, Q4.out⟩
        refine hKp6 _ _ (fun _ => hx4) ?_
        clear hS
        have hS := hx4
        try simp only [Act.put, List.setIfInBounds_toArray, List.set_cons_zero, List.set_cons_succ]
        refine wpAnyL_take (i := 7) (oi := { dst := some 11, op := Go.Op.assign (Go.Operand.tmp 33), type := 3, pos := "l9_filling.go:124", after := #[{ on := 6, ground := Go.Ground.data }, { on := 6, ground := Go.Ground.chain }, { on := 0, ground := Go.Ground.phase }, { on := 1, ground := Go.Ground.phase }, { on := 2, ground := Go.Ground.phase }, { on := 3, ground := Go.Ground.phase }, { on := 4, ground := Go.Ground.phase }, { on := 5, ground := Go.Ground.phase }, { on := 6, ground := Go.Ground.phase }], guard := none }) (v := ?pv7) rfl (by kernel_rfl) (by kernel_rfl) (by kernel_rfl) (by kernel_rfl) (fun _ _ _ h => h) (Or.inl ⟨by rfl, ?ph7⟩) hS ?pr7
        case ph7 => (intro wS hSw; (try dsimp only at hSw); go_split_ands; go_simp; try with_reducible rfl)
        try simp only [Act.put, List.setIfInBounds_toArray, List.set_cons_zero, List.set_cons_succ]
        refine wpAnyL_done (by kernel_rfl) ?_ _
        have HB4 := Lib.hid (LO.out.trans (hb4x.mono hzr))
        have HO4 := Lib.hid (HO.out.below hb4x (Nat.le_refl _))
        have HE4 := Lib.hid (HEL.out.below hb4x (Nat.le_refl _))
        have q4 := Q4.out
        by_cases hd : (M.deepL m s ((M.winL m s).take j)).2 < M.depR m s x
        · have HST : Hid (M.deepL m s ((M.winL m s).take (j + 1)) = (x, M.depR m s x)) := Lib.hid (by rw [HTK.out]; unfold M.deepStep; rw [if_pos hd])
          go_wp2_with fail
          go_roundw
          case rel => exact ⟨j + 1, l0, h0, u.2.2, u.1, by omega, by go_num, by rw [HST.out], by rw [HST.out], by rw [HST.out]; exact HE4.out.mono (Nat.le_refl _) hz4, by rw [HST.out]; exact hu2, hu3, QR.out.below hb4x hh0, by omega, LU.out.below hb4x, X4.out, HB4.out⟩
          case measure => simp [intOf]; omega
        · have HST : Hid (M.deepL m s ((M.winL m s).take (j + 1)) = (M.deepL m s ((M.winL m s).take j))) := Lib.hid (by rw [HTK.out]; unfold M.deepStep; rw [if_neg hd])
          go_wp2_with fail
          go_roundw
          case rel => exact ⟨j + 1, l0, h0, k0, a0, by omega, by go_num, by rw [HST.out], by rw [HST.out], by rw [HST.out]; exact HO4.out.mono (Nat.le_refl _) hz4, by rw [HST.out]; exact hk1, hk2, QR.out.below hb4x hh0, by omega, LU.out.below hb4x, X4.out, HB4.out⟩
          case measure => simp [intOf]; omega
      · obtain rfl : j = U.length := by omega
        have HTE : Hid (M.deepL m s ((M.winL m s).take U.length) = M.deepW m s) := Lib.hid (by rw [HUL.out, List.take_length, HV.out])
        have hte := HTE.out
        have ho := HO.out
        rw [hte] at ho hk1 ⊢
        have HO2 := Lib.hid ho
        clear ho HO
        go_wp2_with fail
        go_ret3
        exact ⟨a0, k0, rfl, HO2.out, hk1, hk2, LO.out⟩
theorem implDeep_lw (w : World) (lo hi : Nat) (m : M.Mz) (a b : Option Addr) (c d : Nat) (h : MzIn lo hi w m a c b d) (hz : hi ≤ w.heap.size) (_h1 : m.doors.length ≤ 1048576) (_h2 : m.keys.length ≤ 1048576) (s : Int) (_s1 : -9223372036854775808 ≤ s) (_s2 : s ≤ 9223372036854775807) :
    Calls Try.prog 37 #[.agg #[.int .i64 m.size, .slice a m.doors.length c, .slice b m.keys.length d], .int .i64 s] w (DeepPost w (M.deepW m s).1 (M.deepW m s).2 (decide (0 < (M.deepW m s).2))) := by
  have H := Lib.hid h
  clear h
  go_enter Try.func37, Try.ntmps37
  go_wp2_with fail
  refine named ?_
  intro W hW
  have hb : Below w.heap.size w W := by rw [hW]; exact below_alloc _ _
  have x1 : Box3 W w.heap.size 27 (.int .i64 m.size) (.slice a m.doors.length c) (.slice b m.keys.length d) := by rw [hW]; exact Box3.new _ _ _ _ rfl
  clear hW
  have hzw := hb.size
  refine (overD_any W lo hi m a b c d (H.out.below hb hz) (by omega) _h1 _h2 s _s1 _s2).mono ?_
  rintro e w1 ⟨va, vc, rfl, ho, hv1, hv2, hb1⟩
  have HB1 := Lib.hid (hb.trans (hb1.mono hzw))
  have HO := Lib.hid (ho.mono hzw (Nat.le_refl _))
  have hzq1 := hb1.size
  clear hb hb1 x1 ho
  generalize M.deepW m s = P at *
  obtain ⟨L, q⟩ := P
  go_wp2_with fail
  go_quiet (fail)
  go_wp2_with fail
  go_ret3
  exact ⟨va, vc, rfl, (((HO.out.below (below_alloc w1 _) (Nat.le_refl _)).mono (Nat.le_refl _) (by simp : w1.heap.size ≤ (w1.alloc (.cells #[.slice va L.length vc, .int .i64 q] 77)).heap.size)).below (below_drawn _ _) (Nat.le_refl _)).mono (Nat.le_refl _) (by simp), hv1, hv2, (HB1.out.alloc (by omega) _).trans ((below_drawn _ _).mono (by simp; omega))⟩
end C
end Go.Proofs.Ytddpjjdncmokmaa
