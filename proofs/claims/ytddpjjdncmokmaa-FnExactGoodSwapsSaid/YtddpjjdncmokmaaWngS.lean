/-
  CONTRACTS of the model's l9Few, l9Winning. No condition but that the maze reads so (l9Winning: what l9Few asks).
-/
import Derived.Test.YtddpjjdncmokmaaAllS
import Derived.Test.YtddpjjdncmokmaaFilS
import Derived.Test.YtddpjjdncmokmaaLayS
import Derived.Test.YtddpjjdncmokmaaWBDigitsI
import Derived.Test.YtddpjjdncmokmaaWHClose
namespace Go.Proofs.Ytddpjjdncmokmaa
open Go.RowKit
namespace C
set_option linter.unusedVariables false
set_option maxHeartbeats 3200000
set_option maxRecDepth 20000
theorem OwnAt.grownQ {lo hi B size n : Nat} {w w' : World} {T e : TypeId} {a : Option Addr} {xs ys : List Value} {v : Value} (h : OwnAt lo hi w T a xs) (hq : OwnQ B w e size v n ys) (hne : e ≠ T) (hg : w.grownBy w' v.ownBlock) : OwnAt lo hi w' T a xs := by
  rcases h with h | ⟨g, off, cur, ha, h1, h2, hh, hc⟩
  · exact .inl h
  · refine .inr ⟨g, off, cur, ha, h1, h2, (hg.block g (heap_lt hh) (fun he => hq.ne (b := g) (fun cur' f hcf => ?_) he.symm)).trans hh, hc⟩
    rw [hh] at hcf
    injection hcf with hcf
    injection hcf with _ ht
    exact hne ht.symm
theorem LL.grownQ {B B' : Nat} {w w' : World} {U : List Sl9} {ll : List (List Int)} {e : TypeId} {size n : Nat} {v : Value} {ys : List Value} (h : LL B w U ll) (ho : OwnQ B' w e size v n ys) (hne : e ≠ 3) (hg : w.grownBy w' v.ownBlock) : LL B w' U ll :=
  ⟨h.len, fun i hi hu => ⟨((h.el i hi hu).1.grownQ ho hne hg).mono (Nat.le_refl _) hg.size, (h.el i hi hu).2⟩⟩
theorem few9_any (w : World) (lo hi : Nat) (m : M.Mz) (a b : Option Addr) (c d : Nat) (h : MzIn lo hi w m a c b d) (hz : hi ≤ w.heap.size) (s : Int) : Calls Try.prog 73 #[.agg #[.int .i64 m.size, .slice a m.doors.length c, .slice b m.keys.length d], .int .i64 s] w (BoolPost w (M.fewB m s)) := by
  have H := Lib.hid h
  clear h
  go_enter Try.func73, Try.ntmps73
  go_wp2_with fail
  refine named ?_
  intro W hW
  have hb : Below w.heap.size w W := by rw [hW]; exact below_alloc _ _
  have x1 : Box3 W w.heap.size 27 (.int .i64 m.size) (.slice a m.doors.length c) (.slice b m.keys.length d) := by rw [hW]; exact Box3.new _ _ _ _ rfl
  clear hW
  have hzw := hb.size
  refine (ask9_any W lo hi m a b c d s (H.out.below hb hz) (by omega)).mono ?_
  rintro e w1 ⟨rfl, hb1⟩
  have HB1 := Lib.hid (hb.trans (hb1.mono hzw))
  have X1 := Lib.hid (x1.below hb1)
  have hz1 := hb1.size
  clear hb hb1 x1
  obtain ⟨c0, c1, c2⟩ := X1.out.cells
  have hxl := X1.out.lt
  cases qa : M.askB m s with
  | false =>
    have HQ : Hid (M.fewB m s = false) := Lib.hid (by unfold M.fewB; rw [qa]; rfl)
    clear qa
    go_wp2_with fail
    go_ret
    exact ⟨by rw [HQ.out]; rfl, HB1.out⟩
  | true =>
    have HA := Lib.hid qa
    have hset := M.setB_iff.2 (M.ask_yes qa).2
    have HMC := Lib.hid (fun W => many_call s hset W)
    have hk6 := M.many_le s
    clear qa
    by_cases h8 : m.size ≤ 8
    · have HQ : Hid (M.fewB m s = decide (M.manyC s ≤ 4)) := Lib.hid (by unfold M.fewB; rw [HA.out, decide_eq_true h8]; rfl)
      go_wp2_with fail
      refine (HMC.out _).mono ?_
      rintro e w2 ⟨rfl, rfl⟩
      have hd : decide ((M.manyC s : Int) ≤ 4) = decide (M.manyC s ≤ 4) := by rw [Bool.eq_iff_iff, decide_eq_true_iff, decide_eq_true_iff]; omega
      have HD := Lib.hid hd
      clear hd
      generalize M.manyC s = k at *
      go_wp2_with fail
      go_ret
      exact ⟨by rw [HQ.out, ← HD.out]; rfl, HB1.out⟩
    · have HQ : Hid (M.fewB m s = false) := Lib.hid (by unfold M.fewB; rw [HA.out, decide_eq_false h8]; rfl)
      go_wp2_with fail
      go_ret
      exact ⟨by rw [HQ.out]; rfl, HB1.out⟩
theorem winning9_any (w : World) (lo hi : Nat) (m : M.Mz) (a b : Option Addr) (c d : Nat) (h : MzIn lo hi w m a c b d) (hz : hi ≤ w.heap.size) (_h1 : m.doors.length ≤ 1048576) (_h2 : m.keys.length ≤ 1048576) (s : Int) (hf : M.fewB m s = true) : Calls Try.prog 74 #[.agg #[.int .i64 m.size, .slice a m.doors.length c, .slice b m.keys.length d], .int .i64 s] w (LLPost w (M.winL m s)) := by
  obtain ⟨ii0, hii0, hiz0, hiz1, hiz2⟩ := info_parts infoII9
  have H := Lib.hid h
  obtain ⟨hask, hs8, hk4⟩ := M.few_yes hf
  have hset := M.setB_iff.2 (M.ask_yes hask).2
  have HA := Lib.hid hask
  have v1 := (M.ask_yes hask).1.size1
  have v12 := (M.ask_yes hask).1.size12
  have HKL := Lib.hid (M.ask_yes hask).1.keysLen
  have HC6 := Lib.hid (fun x (hx : x ∈ M.colours s) => M.mem_colours hx)
  have HCS := Lib.hid (fun W => colours9_any s hset W)
  have HMC := Lib.hid (fun W => many_call s hset W)
  have hm6 := M.many_le s
  have hcl6 : (M.colours s).length ≤ 1048576 := by unfold M.manyC at hm6; omega
  obtain ⟨n, hn⟩ : ∃ n : Nat, m.size = (n : Int) := ⟨m.size.toNat, by omega⟩
  have hn1 : 1 ≤ n := by omega
  have hn8 : n ≤ 8 := by omega
  obtain ⟨k, hk⟩ : ∃ k, k = M.manyC s := ⟨_, rfl⟩
  have HKC : Hid (k = (M.colours s).length) := Lib.hid hk
  rw [← hk] at hk4 HMC
  have HN := Lib.hid hn
  have HWT : Hid (∀ j, M.winTo m s j = (M.allTo n k j).filter (M.winF m s)) := Lib.hid (fun j => by unfold M.winTo; rw [← hk, show m.size.toNat = n by omega])
  have HWY := Lib.hid (fun j (h : M.winF m s (M.digL n k j) = true) => show M.winTo m s (j + 1) = M.winTo m s j ++ [M.digL n k j] from by
    have h9 := M.winTo_yes (m := m) (s := s) (j := j) (by rw [← hk, show m.size.toNat = n by omega]; exact h)
    rwa [← hk, show m.size.toNat = n by omega] at h9)
  have HWN := Lib.hid (fun j (h : M.winF m s (M.digL n k j) = false) => M.winTo_no (m := m) (s := s) (j := j) (by rw [← hk, show m.size.toNat = n by omega]; exact h))
  have HWE : Hid (M.winL m s = M.winTo m s (M.powN n k)) := Lib.hid (by unfold M.winL M.manyF M.powN; rw [← hk, show m.size.toNat = n by omega])
  have HFIL := Lib.hid (fun j => show M.filB m s (M.digL n k j) = true from by rw [hk]; exact M.dig_fil hask hn j)
  have HAL := Lib.hid (fun W => all9_any W n k hn1 hn8 hk4)
  have hpn := M.powN_le (j := k) hn8 hk4
  clear h hf hask hset hk hm6 hn
  go_enter Try.func74, Try.ntmps74
  go_upto_region 1 with fail
  refine wp_named ?_
  intro W hW
  have hb : Below w.heap.size w W := by rw [hW]; exact below_alloc _ _
  have x1 : Box3 W w.heap.size 27 (.int .i64 m.size) (.slice a m.doors.length c) (.slice b m.keys.length d) := by rw [hW]; exact Box3.new _ _ _ _ rfl
  clear hW
  have hzw := hb.size
  have X1 := Lib.hid x1
  have HB1 := Lib.hid hb
  obtain ⟨c0, c1, c2⟩ := x1.cells
  rw [HN.out] at c0
  have hxl := x1.lt
  clear x1 hb
  go_cut [5, 6] (fun s5 s6 wx => ∃ (g l0 h0 : Nat) (qa : Option Addr) (qc : Nat) (U : List Sl9), s5 = .slice (some ⟨g, 0, none⟩) 0 0 ∧ s6 = .slice qa U.length qc ∧ OwnQ (w.heap.size + 1) wx 23 1 (.slice (some ⟨g, 0, none⟩) 0 0) 0 [] ∧ RowIn l0 h0 wx qa (U.map hdrV) ∧ h0 ≤ wx.heap.size ∧ (g < l0 ∨ h0 ≤ g) ∧ U.length = M.powN n k ∧ LL w.heap.size wx U (M.allL n k) ∧ Box3 wx w.heap.size 27 (.int .i64 m.size) (.slice a m.doors.length c) (.slice b m.keys.length d) ∧ Below w.heap.size w wx)
  case first =>
    go_region_with (first | (go_at_call 99; refine (HMC.out _).mono ?_; rintro e w2 ⟨rfl, rfl⟩) | (go_at_call 110; refine (HAL.out _).mono ?_; rintro e w5 ⟨qa, qc, U, rfl, hqr, hql, hq1, hq2, hb5⟩))
    all_goals
      have hul : U.length = M.powN n k := by rw [hql.len, M.allL_len]
      have hle : (M.allL n k).length = U.length := hql.len.symm
      rw [hle]
      go_wp2_with fail
      go_meet
      first
      | exact ⟨w5.heap.size, W.heap.size, w5.heap.size, qa, qc, U, rfl, rfl, OwnQ.of_own (ownsRow_empty w5 (w.heap.size + 1) 23 1 (Nat.le_trans hxl hb5.size)), hqr.below (below_alloc w5 _) (Nat.le_refl _), by simp, .inr (Nat.le_refl _), hul, (hql.mono (show w.heap.size ≤ W.heap.size from hzw)).below (below_alloc w5 _), (X1.out.below ((Below.refl W.heap.size W).drew.trans hb5)).alloc _, (HB1.out.trans (((Below.refl W.heap.size W).drew.trans hb5).mono hzw)).alloc (by have := hb5.size; exact Nat.le_trans hzw this) _⟩
      | exact ⟨W.heap.size, W.heap.size + 1, w5.heap.size, qa, qc, U, rfl, rfl, (OwnQ.of_own (ownsRow_empty W.drew (w.heap.size + 1) 23 1 hxl)).below hb5, hqr.mono (by simp) (Nat.le_refl _), Nat.le_refl _, .inl (Nat.lt_succ_self _), hul, hql.mono (Nat.le_trans hzw (by simp)), X1.out.below ((Below.refl W.heap.size W).drew.trans ((below_alloc W.drew _).trans (hb5.mono (by simp)))), HB1.out.trans (((Below.refl W.heap.size W).drew.trans ((below_alloc W.drew _).trans (hb5.mono (by simp)))).mono hzw)⟩
  case rest =>
    obtain ⟨g, l0, h0, qa, qc, U, rfl, rfl, hoq, hqr, hh0, hgl, hul, hll, hx, hlow⟩ := hcut
    obtain ⟨W6, rfl⟩ : ∃ W, W = wc := ⟨_, rfl⟩
    have OQ := Lib.hid hoq
    have QR := Lib.hid hqr
    have LU := Lib.hid hll
    have X6 := Lib.hid hx
    have L6 := Lib.hid hlow
    have hz6 := hlow.size
    clear hoq hqr hll hx hlow c0 c1 c2 X1 HB1
    have HUL := Lib.hid hul
    have hu4 : U.length ≤ 4096 := by omega
    clear hul
    have O6 : Hid (OwnQ (w.heap.size + 1) W6 23 1 (.slice (some ⟨g, 0, none⟩) 0 0) (M.winTo m s 0).length (([] : List Sl9).map hdrV)) := Lib.hid (by rw [HWT.out]; exact OQ.out)
    have LV6 : Hid (LL w.heap.size W6 [] (M.winTo m s 0)) := Lib.hid (by rw [HWT.out]; exact ⟨rfl, fun i hi => by cases hi⟩)
    go_wp2_with fail
    go_loopw [5, 7] (fun v5 v7 wr => ∃ (j : Nat) (V : List Sl9), j ≤ U.length ∧ v7 = .int .i64 (j : Int) ∧ OwnQ (w.heap.size + 1) wr 23 1 v5 (M.winTo m s j).length (V.map hdrV) ∧ (∀ z, v5.ownBlock = some z → z < l0 ∨ h0 ≤ z) ∧ LL w.heap.size wr V (M.winTo m s j) ∧ RowIn l0 h0 wr qa (U.map hdrV) ∧ h0 ≤ wr.heap.size ∧ LL w.heap.size wr U (M.allL n k) ∧ Box3 wr w.heap.size 27 (.int .i64 m.size) (.slice a m.doors.length c) (.slice b m.keys.length d) ∧ Below w.heap.size w wr) (fun _ v7 _ => U.length - (intOf v7).toNat)
    case atStart => exact ⟨0, [], Nat.zero_le _, rfl, O6.out, fun z hz => (by cases hz; exact hgl), LV6.out, QR.out, hh0, LU.out, X6.out, L6.out⟩
    case round =>
      clear OQ QR LU X6 L6 O6 LV6
      obtain ⟨j, V, hj, rfl, hoq, hob, hlv, hqr, hh0', hlu, hx, hlow⟩ := hrel
      obtain ⟨va, vc, hv, hv1, hv2⟩ := hoq.shape
      subst hv
      have OQ := Lib.hid hoq
      have OB := Lib.hid hob
      have LV := Lib.hid hlv
      have QR := Lib.hid hqr
      have LU := Lib.hid hlu
      have XR := Lib.hid hx
      have LO := Lib.hid hlow
      have hzr := hlow.size
      have hxl := hx.lt
      have hcw := M.winTo_len m s j
      clear hoq hob hlv hqr hlu hx hlow
      by_cases hjl : j < U.length
      · have hall : j < (M.allL n k).length := by rw [← LU.out.len]; exact hjl
        obtain ⟨hel, hu1, hu2, hu3⟩ := LU.out.el j hall hjl
        rw [M.allL_at hall] at hel hu1 hu2
        rw [M.digL_len] at hu1 hu2
        obtain ⟨qg, qo, rfl, hqg1, hqg2, hc0⟩ := QR.out.at_ (k := j) (by rw [List.length_map]; exact hjl)
        have hcj := hc0 j _ (hdr_at hjl)
        rw [hu1] at hcj
        have HEL := Lib.hid hel
        have HFI := Lib.hid (HFIL.out j)
        have HY := Lib.hid (HWY.out j)
        have HNO := Lib.hid (HWN.out j)
        obtain ⟨c0, c1, c2⟩ := XR.out.cells
        clear hel hc0
        generalize U[j] = u at *
        go_wp2_with fail
        refine wp_region_late2 (fun (wq : World) => (wq.cell? ⟨w.heap.size, 0, none⟩ = some (.int .i64 m.size) ∧ wq.cell? ⟨w.heap.size, 1, none⟩ = some (.slice a m.doors.length c) ∧ wq.cell? ⟨w.heap.size, 2, none⟩ = some (.slice b m.keys.length d)) ∧ wq.cell? ⟨qg, qo + j, none⟩ = some (.slice u.1 k u.2.2)) [] 9 #[false, false, false, false, false, false, false, false, false] rfl rfl (by kernel_rfl) ?_
        have hS : (fun (wq : World) => (wq.cell? ⟨w.heap.size, 0, none⟩ = some (.int .i64 m.size) ∧ wq.cell? ⟨w.heap.size, 1, none⟩ = some (.slice a m.doors.length c) ∧ wq.cell? ⟨w.heap.size, 2, none⟩ = some (.slice b m.keys.length d)) ∧ wq.cell? ⟨qg, qo + j, none⟩ = some (.slice u.1 k u.2.2)) wr.drew := ⟨⟨c0, c1, c2⟩, hcj⟩
        refine wpAnyL_take (i := 0) (oi := { dst := some 20, op := Go.Op.load 27 (Go.Operand.tmp 2), type := 27, pos := "l9_filling.go:92", after := #[], guard := none }) (v := ?pv0) rfl (by kernel_rfl) (by kernel_rfl) (by kernel_rfl) (by kernel_rfl) (fun _ _ _ h => h) (Or.inl ⟨by rfl, ?ph0⟩) hS ?pr0
        case ph0 => (intro wS hSw; (try dsimp only at hSw); go_split_ands; go_simp; try with_reducible rfl)
        try simp only [Act.put, List.setIfInBounds_toArray, List.set_cons_zero, List.set_cons_succ]
        refine wpAnyL_take (i := 1) (oi := { dst := some 21, op := Go.Op.move (Go.Operand.tmp 1), type := 3, pos := "l9_filling.go:92", after := #[], guard := none }) (v := ?pv1) rfl (by kernel_rfl) (by kernel_rfl) (by kernel_rfl) (by kernel_rfl) (fun _ _ _ h => h) (Or.inl ⟨by rfl, ?ph1⟩) hS ?pr1
        case ph1 => (intro wS hSw; (try dsimp only at hSw); go_split_ands; go_simp; try with_reducible rfl)
        try simp only [Act.put, List.setIfInBounds_toArray, List.set_cons_zero, List.set_cons_succ]
        refine wpAnyL_take (i := 3) (oi := { dst := some 23, op := Go.Op.move (Go.Operand.tmp 6), type := 72, pos := "l9_filling.go:92", after := #[], guard := none }) (v := ?pv3) rfl (by kernel_rfl) (by kernel_rfl) (by kernel_rfl) (by kernel_rfl) (fun _ _ _ h => h) (Or.inl ⟨by rfl, ?ph3⟩) hS ?pr3
        case ph3 => (intro wS hSw; (try dsimp only at hSw); go_split_ands; go_simp; try with_reducible rfl)
        try simp only [Act.put, List.setIfInBounds_toArray, List.set_cons_zero, List.set_cons_succ]
        refine wpAnyL_take (i := 4) (oi := { dst := some 24, op := Go.Op.move (Go.Operand.tmp 7), type := 3, pos := "l9_filling.go:92", after := #[], guard := none }) (v := ?pv4) rfl (by kernel_rfl) (by kernel_rfl) (by kernel_rfl) (by kernel_rfl) (fun _ _ _ h => h) (Or.inl ⟨by rfl, ?ph4⟩) hS ?pr4
        case ph4 => (intro wS hSw; (try dsimp only at hSw); go_split_ands; go_simp; try with_reducible rfl)
        try simp only [Act.put, List.setIfInBounds_toArray, List.set_cons_zero, List.set_cons_succ]
        refine wpAnyL_take (i := 5) (oi := { dst := some 25, op := Go.Op.indexAddr 72 (Go.Operand.tmp 23) (Go.Operand.tmp 24), type := 0, pos := "l9_filling.go:92", after := #[{ on := 3, ground := Go.Ground.data }, { on := 4, ground := Go.Ground.data }], guard := none }) (v := ?pv5) rfl (by kernel_rfl) (by kernel_rfl) (by kernel_rfl) (by kernel_rfl) (fun _ _ _ h => h) (Or.inl ⟨by rfl, ?ph5⟩) hS ?pr5
        case ph5 => (intro wS hSw; (try dsimp only at hSw); go_split_ands; go_simp; try with_reducible rfl)
        try simp only [Act.put, List.setIfInBounds_toArray, List.set_cons_zero, List.set_cons_succ]
        refine wpAnyL_take (i := 6) (oi := { dst := some 26, op := Go.Op.load 23 (Go.Operand.tmp 25), type := 23, pos := "l9_filling.go:92", after := #[{ on := 5, ground := Go.Ground.data }], guard := none }) (v := ?pv6) rfl (by kernel_rfl) (by kernel_rfl) (by kernel_rfl) (by kernel_rfl) (fun _ _ _ h => h) (Or.inl ⟨by rfl, ?ph6⟩) hS ?pr6
        case ph6 => (intro wS hSw; (try dsimp only at hSw); go_split_ands; go_simp; try with_reducible rfl)
        try simp only [Act.put, List.setIfInBounds_toArray, List.set_cons_zero, List.set_cons_succ]
        refine wpAnyL_one (i := 2) (oi := { dst := some 22, op := Go.Op.call { callee := Go.Callee.value (Go.Operand.func 55), args := #[Go.Operand.tmp 21], argTypes := #[3] }, type := 23, pos := "l9_filling.go:92", after := #[{ on := 1, ground := Go.Ground.data }], guard := none }) (by kernel_rfl) rfl (fun Kp2 hKp2 => ?_)
        refine step_call (by rfl) 55 #[.int .i64 s] (by go_simp; try rfl) (HCS.out _) ?_
        rintro e w2 ⟨ra, rc, rfl, hoc, hoc1, hoc2, hb2⟩
        refine ⟨_, rfl, ?_⟩
        have hb2x : Below wr.heap.size wr w2 := (Below.refl wr.heap.size wr).drew.trans hb2
        have X2 := Lib.hid (XR.out.below hb2x)
        have B2 := Lib.hid (LO.out.trans (hb2x.mono hzr))
        have Q2 := Lib.hid ((hb2x.cell (p := ⟨qg, qo + j, none⟩) (show qg < wr.heap.size by omega)).trans hcj)
        have E2 := Lib.hid (HEL.out.below hb2x (Nat.le_refl _))
        have HOC := Lib.hid hoc
        have hz2 := hb2x.size
        have hx2 : (fun (wq : World) => (wq.cell? ⟨w.heap.size, 0, none⟩ = some (.int .i64 m.size) ∧ wq.cell? ⟨w.heap.size, 1, none⟩ = some (.slice a m.doors.length c) ∧ wq.cell? ⟨w.heap.size, 2, none⟩ = some (.slice b m.keys.length d)) ∧ wq.cell? ⟨qg, qo + j, none⟩ = some (.slice u.1 k u.2.2)) w2 := ⟨X2.out.cells, Q2.out⟩
        refine hKp2 _ _ (fun _ => hx2) ?_
        clear hS
        have hS := hx2
        try simp only [Act.put, List.setIfInBounds_toArray, List.set_cons_zero, List.set_cons_succ]
        refine wpAnyL_one (i := 7) (oi := { dst := some 27, op := Go.Op.call { callee := Go.Callee.value (Go.Operand.func 54), args := #[Go.Operand.tmp 20, Go.Operand.tmp 22, Go.Operand.tmp 26], argTypes := #[27, 23, 23] }, type := 27, pos := "l9_filling.go:92", after := #[{ on := 0, ground := Go.Ground.data }, { on := 2, ground := Go.Ground.data }, { on := 6, ground := Go.Ground.data }, { on := 2, ground := Go.Ground.chain }], guard := none }) (by kernel_rfl) rfl (fun Kp7 hKp7 => ?_)
        refine step_call (by rfl) 54 #[.agg #[.int .i64 m.size, .slice a m.doors.length c, .slice b m.keys.length d], .slice ra (M.colours s).length rc, .slice u.1 k u.2.2] (by go_simp; try rfl) ((show Calls Try.prog 54 #[.agg #[.int .i64 m.size, .slice a m.doors.length c, .slice b m.keys.length d], .slice ra (M.colours s).length rc, .slice u.1 k u.2.2] w2 (LayPost w2 m (M.colours s) (M.digL n k j)) from by have h := lay9_any w2 lo hi m a b c d (H.out.below B2.out hz) (by omega) _h1 _h2 HKL.out v12 _ _ ra rc (M.colours s) HOC.out.row (Nat.le_refl _) HC6.out hcl6 w.heap.size wr.heap.size u.1 u.2.2 (M.digL n k j) E2.out.row (by omega) (by rw [M.digL_len]; omega) (by rw [M.digL_len]; exact Nat.le_of_eq HKC.out) (fun z hz9 => by have := M.digL_node (n := n) (by omega) k j z hz9; rw [HN.out]; exact this); rw [M.digL_len] at h; exact h)) ?_
        rintro e w3 ⟨la, lc, lb, ld, rfl, ho3, hb3⟩
        refine ⟨_, rfl, ?_⟩
        have X3 := Lib.hid (X2.out.below hb3)
        have B3 := Lib.hid (B2.out.trans (hb3.mono (by omega)))
        have Q3 := Lib.hid ((hb3.cell (p := ⟨qg, qo + j, none⟩) (show qg < w2.heap.size by omega)).trans Q2.out)
        have HO3 := Lib.hid ho3
        have hz3 := hb3.size
        have hb3x := hb2x.trans (hb3.mono (by omega))
        have hx3 : (fun (wq : World) => (wq.cell? ⟨w.heap.size, 0, none⟩ = some (.int .i64 m.size) ∧ wq.cell? ⟨w.heap.size, 1, none⟩ = some (.slice a m.doors.length c) ∧ wq.cell? ⟨w.heap.size, 2, none⟩ = some (.slice b m.keys.length d)) ∧ wq.cell? ⟨qg, qo + j, none⟩ = some (.slice u.1 k u.2.2)) w3 := ⟨X3.out.cells, Q3.out⟩
        refine hKp7 _ _ (fun _ => hx3) ?_
        clear hS
        have hS := hx3
        try simp only [Act.put, List.setIfInBounds_toArray, List.set_cons_zero, List.set_cons_succ]
        refine wpAnyL_one (i := 8) (oi := { dst := some 28, op := Go.Op.call { callee := Go.Callee.value (Go.Operand.func 111), args := #[Go.Operand.tmp 27, Go.Operand.const (Go.Value.int Go.IntKind.i64 0)], argTypes := #[27, 3] }, type := 4, pos := "l9_filling.go:92", after := #[{ on := 7, ground := Go.Ground.data }, { on := 7, ground := Go.Ground.chain }], guard := none }) (by kernel_rfl) rfl (fun Kp8 hKp8 => ?_)
        refine step_call (by rfl) 111 #[.agg #[.int .i64 m.size, .slice la m.doors.length lc, .slice lb m.keys.length ld], .int .i64 0] (by go_simp; try rfl) ((show Calls Try.prog 111 #[.agg #[.int .i64 m.size, .slice la m.doors.length lc, .slice lb m.keys.length ld], .int .i64 0] w3 (BoolPost w3 (M.winF m s (M.digL n k j))) from by have h := wins_any w3 _ _ (M.layV m (M.colours s) (M.digL n k j)) la lb lc ld HO3.out.mz (Nat.le_refl _) (M.layV_colours HFI.out) 0 (by decide) (by decide); rw [layV_keys] at h; exact h)) ?_
        rintro e w4 ⟨rfl, hb4⟩
        refine ⟨_, rfl, ?_⟩
        have X4 := Lib.hid (X3.out.below hb4)
        have Q4 := Lib.hid ((hb4.cell (p := ⟨qg, qo + j, none⟩) (show qg < w3.heap.size by omega)).trans Q3.out)
        have hb4x := hb3x.trans (hb4.mono (by omega))
        have hz4 := hb4.size
        have hx4 : (fun (wq : World) => (wq.cell? ⟨w.heap.size, 0, none⟩ = some (.int .i64 m.size) ∧ wq.cell? ⟨w.heap.size, 1, none⟩ = some (.slice a m.doors.length c) ∧ wq.cell? ⟨w.heap.size, 2, none⟩ = some (.slice b m.keys.length d)) ∧ wq.cell? ⟨qg, qo + j, none⟩ = some (.slice u.1 k u.2.2)) w4 := ⟨X4.out.cells, Q4.out⟩
        refine hKp8 _ _ (fun _ => hx4) ?_
        clear hS
        have hS := hx4
        try simp only [Act.put, List.setIfInBounds_toArray, List.set_cons_zero, List.set_cons_succ]
        refine wpAnyL_done (by kernel_rfl) ?_ _
        cases qw : M.winF m s (M.digL n k j) with
        | false =>
          have HW := Lib.hid (HNO.out qw)
          clear qw hS
          go_wp2_with fail
          go_roundw
          case rel => exact ⟨j + 1, V, by omega, by go_num, by rw [HW.out]; exact OQ.out.below hb4x, OB.out, by rw [HW.out]; exact LV.out.below hb4x, QR.out.below hb4x hh0', by omega, LU.out.below hb4x, X4.out, LO.out.trans (hb4x.mono hzr)⟩
          case measure => simp [intOf]; omega
        | true =>
          have HW := Lib.hid (HY.out qw)
          have OQ4 := OQ.out.below hb4x
          have q4 := Q4.out
          have hwl : (M.winTo m s (j + 1)).length = (M.winTo m s j).length + 1 := by rw [HW.out, List.length_append]; rfl
          have HWL := Lib.hid hwl
          clear qw hS hwl
          generalize hcnt : (M.winTo m s j).length = cnt at *
          clear hcnt
          go_wp2_with (at_builtin; refine wpList_append_q rfl _ _ 72 rfl (w.heap.size + 1) 23 ii0 (.slice none 0 0) 1 24 Try.underlying72 hii0 hiz0 hiz1 hiz2 rfl (.slice va cnt vc) cnt (V.map hdrV) rfl (OQ4.below (below_alloc _ _)) ⟨w4.heap.size, 0, none⟩ 1 [.slice u.1 k u.2.2] rfl rfl (cell_one_new _ _ _) (fun x hx => by simp at hx; subst hx; rfl) (by unfold maxLen; omega) (by omega) (by simp; omega) ?_; intro v9 w9 hown9 hgrow9 hnew9)
          have hba := below_alloc w4 (.cells #[.slice u.1 k u.2.2] 23)
          have hsa : (w4.alloc (.cells #[.slice u.1 k u.2.2] 23)).heap.size = w4.heap.size + 1 := by simp
          have hs9 := hgrow9.size
          have hOQ := OQ4.below hba
          have hob := OB.out
          have hbase := OQ4.base
          have hnw : OwnAt w.heap.size w9.heap.size w9 3 u.1 (M.encIs (M.digL n k j)) := ((((HEL.out.below hb4x (Nat.le_refl _)).mono (Nat.le_refl _) (by omega : wr.heap.size ≤ w4.heap.size)).below hba (Nat.le_refl _)).grownQ hOQ (by decide) hgrow9).mono (Nat.le_refl _) (by omega)
          have hLV := (((LV.out.below hb4x).below hba).grownQ hOQ (by decide) hgrow9).push (u := u) hnw (by rw [M.digL_len]; exact hu1) (by rw [M.digL_len]; exact hu2) hu3
          rw [← HW.out] at hLV
          have HLV := Lib.hid hLV
          have HLU := Lib.hid (((LU.out.below hb4x).below hba).grownQ hOQ (by decide) hgrow9)
          have HQR := Lib.hid (((QR.out.below hb4x hh0').below hba (by omega)).grown hgrow9 (by omega) (fun z hz => by have := hob z hz; omega))
          have HX := Lib.hid ((X4.out.below hba).grown hgrow9 (fun e => by have := (hbase _ e).1; omega))
          have HLO := Lib.hid ((LO.out.trans ((hb4x.trans (hba.mono (by omega))).mono hzr)).grown hgrow9 (by omega) (fun z hz => by have := (hbase z hz).1; omega))
          have HOB : Hid (∀ z, v9.ownBlock = some z → z < l0 ∨ h0 ≤ z) := Lib.hid (fun z hz => by
            rcases hnew9 with h9 | h9
            · exact hob z (h9 ▸ hz)
            · rw [h9] at hz; injection hz with hz; omega)
          have HOW := Lib.hid hown9
          have hh9 : h0 ≤ w9.heap.size := by omega
          clear hnw hLV hOQ hba hgrow9 hown9 hnew9
          go_roundw
          case rel => exact ⟨j + 1, V ++ [u], by omega, by go_num, by rw [HWL.out, List.map_append, show [u].map hdrV = [.slice u.1 k u.2.2] from by rw [← hu1]; rfl]; exact HOW.out, HOB.out, HLV.out, HQR.out, hh9, HLU.out, HX.out, HLO.out⟩
          case measure => simp [intOf]; omega
      · obtain rfl : j = U.length := by omega
        have hlv := LV.out
        rw [HUL.out, ← HWE.out] at hlv
        have hrw := OQ.out.row rfl
        have hl : V.length = (M.winL m s).length := hlv.len
        have hcl : (M.winTo m s U.length).length = (M.winL m s).length := by rw [HUL.out, HWE.out]
        rw [hcl] at hv1
        have HCL := Lib.hid hcl
        have HLV := Lib.hid hlv
        have HRW := Lib.hid hrw
        clear hlv hrw hl hcl
        go_wp2_with fail
        go_ret
        exact ⟨va, vc, V, by rw [← HCL.out]; rfl, HRW.out.mono (by omega) (Nat.le_refl _), HLV.out, hv1, hv2, LO.out⟩
end C
end Go.Proofs.Ytddpjjdncmokmaa
