/-
  CONTRACT of the model's FirstPlan; what lay in memory stays. No condition but that the works read so.
-/
import Derived.Test.YtdgfceiobpnchaaPlanM
import Derived.Test.YtdgfceiobpnchaaFew8S
import Derived.Test.YtdgfceiobpnchaaActS
import Derived.Test.YtdgfceiobpnchaaIdsV
import Derived.Test.YtdgfceiobpnchaaOwn
import Derived.Test.YtdgfceiobpnchaaLate
import Derived.Test.YtdgfceiobpnchaaStep
import Derived.Deep.RegionHeld3
import Derived.StillTailTactics
import Derived.IntWalk
import Derived.Deep.Cut
namespace Go.Proofs.Ytdgfceiobpnchaa
open Go.RowKit
namespace C
set_option maxHeartbeats 3200000
set_option maxRecDepth 20000
theorem specPlan_lw (w : World) (lo hi : Nat) (m : M.Wk) (a b : Option Addr) (c d : Nat) (h : WkIn lo hi w m a c b d) (hz : hi ≤ w.heap.size) (_h1 : m.gates.length ≤ 1048576) (_h2 : m.pulls.length ≤ 1048576) :
    Calls Try.prog 39 #[.agg #[.int .i64 m.size, .slice a m.gates.length c, .slice b m.pulls.length d]] w (IntsOkPost w (M.planV m) (M.planB m)) := by
  obtain ⟨ii0, hi0, hz0, hzz1, hz2⟩ := info_parts infoI
  have H := Lib.hid h
  clear h
  go_enter Try.func39, Try.ntmps39
  go_upto_region 2 with fail
  refine wp_named ?_
  intro W hW
  have hb : Below w.heap.size w W := by rw [hW]; exact (below_alloc _ _).alloc (by simp) _
  have x1 : Box3 W w.heap.size 28 (.int .i64 m.size) (.slice a m.gates.length c) (.slice b m.pulls.length d) := by rw [hW]; exact (Box3.new _ _ _ _ rfl).alloc _
  have o1 : W.ownsRow (w.heap.size + 1) 3 1 (.slice (some ⟨w.heap.size + 1, 0, none⟩) 0 0) 0 (M.encIs []) := by
    rw [hW]
    have := ownsRow_empty (w.alloc (.cells #[.int .i64 m.size, .slice a m.gates.length c, .slice b m.pulls.length d] 28)) (w.heap.size + 1) 3 1 (by rw [World.size_alloc]; omega)
    rw [World.size_alloc] at this
    exact this
  clear hW
  have hzw := hb.size
  have HFW := Lib.hid (specFew_lw W lo hi m a b c d (H.out.below hb hz) (by omega) _h1 _h2)
  obtain ⟨c0, c1, c2⟩ := x1.cells
  go_wp2_with fail
  refine (HFW.out).mono ?_
  rintro e w1 ⟨rfl, hb1⟩
  have X1 := Lib.hid (x1.below hb1)
  have O1 := Lib.hid (own_below o1 hb1)
  have HB1 := Lib.hid (hb.trans (hb1.mono hzw))
  have hz1 := hb1.size
  have hxl1 := X1.out.lt
  clear hb hb1 x1 o1 c0 c1 c2
  cases q0 : M.fewV m with
  | none =>
    have HG : Hid (M.planB m = false) := Lib.hid (by unfold M.planB; rw [q0]; rfl)
    clear q0
    have HF := Lib.hid (M.plan_off HG.out)
    go_wp2_with fail
    go_ret2
    rw [HF.out, HG.out]
    exact intsOk_end (l := []) (own_weak O1.out (by omega)) HB1.out
  | some n =>
    by_cases hn : n ≤ 60
    · have HM := Lib.hid (M.few_works q0)
      have HV := Lib.hid (M.wv_of HM.out.1)
      have HF := Lib.hid (M.plan_on q0 hn)
      have hni : ¬ (60 < (n : Int)) := by omega
      clear q0
      go_wp2_with fail
      go_loopw [4, 7, 8] (fun v4 v7 v8 wr => ∃ (r : Nat) (u : M.Vs) (P : List Int) (gp cp : Nat), M.winO m u = some r ∧ M.VsOk m u ∧ P ++ M.planL m r u = M.planL m n (0, 0) ∧ v7 = .int .i64 u.1 ∧ v8 = .int .i64 u.2 ∧ v4 = .slice (some ⟨gp, 0, none⟩) P.length cp ∧ wr.ownsRow (w.heap.size + 1) 3 1 v4 P.length (M.encIs P) ∧
        Box3 wr w.heap.size 28 (.int .i64 m.size) (.slice a m.gates.length c) (.slice b m.pulls.length d) ∧ Below w.heap.size w wr) (fun v4 _ _ _ => n + 1 - sliceN v4)
      case atStart => exact ⟨n, (0, 0), [], w.heap.size + 1, 0, HM.out.2, M.vs0_ok HV.out, rfl, rfl, rfl, rfl, O1.out, X1.out, HB1.out⟩
      case round =>
        obtain ⟨r, u, P, gp, cp, hr, hu, htot, rfl, rfl, rfl, ho, hx, hlow⟩ := hrel
        have HK := Lib.hid hr
        have HU := Lib.hid hu
        have TO := Lib.hid htot
        have OO := Lib.hid ho
        have XX := Lib.hid hx
        have LL := Lib.hid hlow
        have hlen : P.length + r = n := by
          have := congrArg List.length htot
          rw [List.length_append, M.planL_len, M.planL_len] at this
          omega
        have hzr := hlow.size
        have hxl := hx.lt
        have hgp : w.heap.size + 1 ≤ gp ∧ gp < wr.heap.size := ho.lt _ rfl
        obtain ⟨c0, c1, c2⟩ := hx.cells
        obtain ⟨u1, u2, u3, u4⟩ := hu
        clear hr htot ho hx hlow
        cases r with
        | zero =>
          have hnl : ¬ ((P.length : Int) < (n : Int)) := by omega
          go_wp2_with fail
          go_ret2
          rw [HF.out.2, HF.out.1, ← TO.out]
          have ht : P ++ M.planL m 0 u = P := List.append_nil P
          rw [ht]
          exact intsOk_end (ok := true) (own_weak OO.out (by omega)) LL.out
        | succ j =>
          have hnl : ((P.length : Int) < (n : Int)) := by omega
          have hix := M.nxI_lt HK.out
          have HNE := Lib.hid (M.nxA_eq hix)
          have HNW := Lib.hid (M.nx_win hix)
          have HNB := Lib.hid (fun (i : Nat) (hi : i < M.nxI m u j) (hl : i < (M.actsL m u).length) => M.nx_before hi hl)
          have HNM := Lib.hid (show M.nxA m u j ∈ M.actsL m u by rw [HNE.out]; exact List.getElem_mem hix)
          have hal := M.actsL_len m u
          have HPL : Hid (M.planL m (j + 1) u = M.nxA m u j :: M.planL m j (M.doA m u (M.nxA m u j))) := Lib.hid rfl
          go_wp2_with fail
          refine (l8Acts_any wr lo hi m a b c d (H.out.below LL.out hz) (by omega) HV.out u HU.out).mono ?_
          rintro e w5 ⟨a5, c5, rfl, hr5, hq5, hq6, hb5⟩
          have X5 := Lib.hid (XX.out.below hb5)
          have O5 := Lib.hid (own_below OO.out hb5)
          have L5 := Lib.hid (LL.out.trans (hb5.mono hzr))
          have hsz5 := hb5.size
          have R5 : Hid (RowIn wr.heap.size w5.heap.size w5 a5 (M.encIs (M.actsL m u))) := Lib.hid hr5.row
          clear hr5 hb5 hq5 hq6 c0 c1 c2
          generalize wr.heap.size = g9 at *
          go_wp2_with fail
          go_loopw [10] (fun v10 wr => ∃ (i : Nat), i ≤ M.nxI m u j ∧ v10 = .int .i64 (i : Int) ∧ wr.ownsRow (w.heap.size + 1) 3 1 (.slice (some ⟨gp, 0, none⟩) P.length cp) P.length (M.encIs P) ∧
            Box3 wr w.heap.size 28 (.int .i64 m.size) (.slice a m.gates.length c) (.slice b m.pulls.length d) ∧ RowIn g9 w5.heap.size wr a5 (M.encIs (M.actsL m u)) ∧ Below w.heap.size w wr ∧ w5.heap.size ≤ wr.heap.size) (fun v10 _ => (M.actsL m u).length - (intOf v10).toNat)
          case atStart => exact ⟨0, Nat.zero_le _, rfl, O5.out, X5.out, R5.out, L5.out, Nat.le_refl _⟩
          case round =>
            obtain ⟨i, hi1, rfl, ho, hx, hrow, hlow, hszw⟩ := hrel
            have OJ := Lib.hid ho
            have BJ := Lib.hid hx
            have RJ := Lib.hid hrow
            have LJ := Lib.hid hlow
            have hzj := hlow.size
            have hxj := hx.lt
            clear ho hx hrow hlow
            obtain ⟨c0, c1, c2⟩ := BJ.out.cells
            have hil : i < (M.actsL m u).length := by omega
            obtain ⟨rb, roff, hra, hrb1, hrb2, hrc⟩ := RJ.out.at_ (k := i) (by rw [M.encIs_len]; exact hil)
            subst hra
            have y0 := hrc _ _ (M.encIs_at hil)
            have hrbl : rb < wr.heap.size := by omega
            have HAM : Hid ((M.actsL m u)[i] ∈ M.actsL m u) := Lib.hid (List.getElem_mem hil)
            have HQ : Hid (i < M.nxI m u j → M.winO m (M.doA m u (M.actsL m u)[i]) ≠ some j) := Lib.hid (fun h => HNB.out i h hil)
            have HE : Hid (i = M.nxI m u j → (M.actsL m u)[i] = M.nxA m u j) := Lib.hid (fun h => by subst h; exact HNE.out.symm)
            clear hrc
            generalize (M.actsL m u)[i] = act at *
            obtain ⟨hact, hact1⟩ := M.actsL_rng HV.out HAM.out
            have v12 := HV.out.size12
            have hact2 : act < 9223372036854775807 := by omega
            have HSt := Lib.hid (M.doA_ok HV.out HU.out HAM.out)
            have HDO := Lib.hid (fun W' (hq : Below w.heap.size w W') => l8Do_any W' lo hi m a b c d (H.out.below hq hz) (by have := hq.size; omega) HV.out u HU.out act hact hact2)
            have HDA : Hid (M.doA m u act = M.doA m u act) := Lib.hid rfl
            obtain ⟨t, ht⟩ : ∃ t, t = M.doA m u act := ⟨_, rfl⟩
            rw [← ht] at HSt HDO HQ
            have HT := Lib.hid ht
            clear ht
            have HSP := Lib.hid (fun W' (hq : Below w.heap.size w W') => (show Calls _ _ _ W' (IntsPost W' (M.tblL (M.size64 m) (M.dstC (M.edgeW m false) t))) from l8Spread_any W' lo hi m a b c d (H.out.below hq hz) (by have := hq.size; omega) HV.out t HSt.out false))
            have HWO : Hid (M.minO (fun s => M.wonV m s = true) (M.dstC (M.edgeW m false) t) = M.winO m t) := Lib.hid (by rw [M.dst_same]; rfl)
            have HGO := Lib.hid (fun (W' : World) (lo' hi' : Nat) (a' : Option Addr) (c' : Nat) (h' : RowIn lo' hi' W' a' (M.encIs (M.tblL (M.size64 m) (M.dstC (M.edgeW m false) t)))) (hz' : hi' ≤ W'.heap.size) => (show Calls Try.prog 81 #[.agg #[.int .i64 m.size, .slice a m.gates.length c, .slice b m.pulls.length d], .slice a' (M.tblL (M.size64 m) (M.dstC (M.edgeW m false) t)).length c'] W' (fun e w' => e = .returned (.int .i64 (M.optI (M.winO m t))) ∧ Below W'.heap.size W' w') by
              have := l8Goal_any W' lo' hi' m HV.out a b a' c d c' (M.dstC (M.edgeW m false) t) h' hz' (fun s n h => M.edgeW_in HV.out HSt.out s n h)
              rw [HWO.out] at this
              rw [M.tblL_len]
              exact this))
            generalize (M.tblL (M.size64 m) (M.dstC (M.edgeW m false) t)) = tb at *
            go_upto_region 8 with fail
            refine wp_region_late2 (fun (wq : World) => wq.cell? ⟨w.heap.size, 0, none⟩ = some (.int .i64 m.size) ∧ wq.cell? ⟨w.heap.size, 1, none⟩ = some (.slice a m.gates.length c) ∧ wq.cell? ⟨w.heap.size, 2, none⟩ = some (.slice b m.pulls.length d) ∧ wq.cell? ⟨rb, roff + i, none⟩ = some (.int .i64 act)) [] 13 #[false, false, false, false, false, false, false, false, false, false, false, false, false] rfl rfl (by kernel_rfl) ?_
            have hS : (fun (wq : World) => wq.cell? ⟨w.heap.size, 0, none⟩ = some (.int .i64 m.size) ∧ wq.cell? ⟨w.heap.size, 1, none⟩ = some (.slice a m.gates.length c) ∧ wq.cell? ⟨w.heap.size, 2, none⟩ = some (.slice b m.pulls.length d) ∧ wq.cell? ⟨rb, roff + i, none⟩ = some (.int .i64 act)) wr.drew := ⟨c0, c1, c2, y0⟩
            refine wpAnyL_take (i := 0) (oi := { dst := some 35, op := Go.Op.load 28 (Go.Operand.tmp 1), type := 28, pos := "l8_levers.go:177", after := #[], guard := none }) (v := ?pv0) rfl (by kernel_rfl) (by kernel_rfl) (by kernel_rfl) (by kernel_rfl) (fun _ _ _ h => h) (Or.inl ⟨by rfl, ?ph0⟩) hS ?pr0
            case ph0 => (intro wS hSw; (try dsimp only at hSw); go_split_ands; go_simp; try with_reducible rfl)
            try simp only [Act.put, List.setIfInBounds_toArray, List.set_cons_zero, List.set_cons_succ]
            refine wpAnyL_take (i := 1) (oi := { dst := some 36, op := Go.Op.move (Go.Operand.tmp 7), type := 3, pos := "l8_levers.go:177", after := #[], guard := none }) (v := ?pv1) rfl (by kernel_rfl) (by kernel_rfl) (by kernel_rfl) (by kernel_rfl) (fun _ _ _ h => h) (Or.inl ⟨by rfl, ?ph1⟩) hS ?pr1
            case ph1 => (intro wS hSw; (try dsimp only at hSw); go_split_ands; go_simp; try with_reducible rfl)
            try simp only [Act.put, List.setIfInBounds_toArray, List.set_cons_zero, List.set_cons_succ]
            refine wpAnyL_take (i := 2) (oi := { dst := some 37, op := Go.Op.move (Go.Operand.tmp 8), type := 3, pos := "l8_levers.go:177", after := #[], guard := none }) (v := ?pv2) rfl (by kernel_rfl) (by kernel_rfl) (by kernel_rfl) (by kernel_rfl) (fun _ _ _ h => h) (Or.inl ⟨by rfl, ?ph2⟩) hS ?pr2
            case ph2 => (intro wS hSw; (try dsimp only at hSw); go_split_ands; go_simp; try with_reducible rfl)
            try simp only [Act.put, List.setIfInBounds_toArray, List.set_cons_zero, List.set_cons_succ]
            refine wpAnyL_take (i := 3) (oi := { dst := some 38, op := Go.Op.move (Go.Operand.tmp 9), type := 23, pos := "l8_levers.go:177", after := #[], guard := none }) (v := ?pv3) rfl (by kernel_rfl) (by kernel_rfl) (by kernel_rfl) (by kernel_rfl) (fun _ _ _ h => h) (Or.inl ⟨by rfl, ?ph3⟩) hS ?pr3
            case ph3 => (intro wS hSw; (try dsimp only at hSw); go_split_ands; go_simp; try with_reducible rfl)
            try simp only [Act.put, List.setIfInBounds_toArray, List.set_cons_zero, List.set_cons_succ]
            refine wpAnyL_take (i := 4) (oi := { dst := some 39, op := Go.Op.move (Go.Operand.tmp 10), type := 3, pos := "l8_levers.go:177", after := #[], guard := none }) (v := ?pv4) rfl (by kernel_rfl) (by kernel_rfl) (by kernel_rfl) (by kernel_rfl) (fun _ _ _ h => h) (Or.inl ⟨by rfl, ?ph4⟩) hS ?pr4
            case ph4 => (intro wS hSw; (try dsimp only at hSw); go_split_ands; go_simp; try with_reducible rfl)
            try simp only [Act.put, List.setIfInBounds_toArray, List.set_cons_zero, List.set_cons_succ]
            refine wpAnyL_take (i := 5) (oi := { dst := some 40, op := Go.Op.indexAddr 23 (Go.Operand.tmp 38) (Go.Operand.tmp 39), type := 0, pos := "l8_levers.go:177", after := #[{ on := 3, ground := Go.Ground.data }, { on := 4, ground := Go.Ground.data }], guard := none }) (v := ?pv5) rfl (by kernel_rfl) (by kernel_rfl) (by kernel_rfl) (by kernel_rfl) (fun _ _ _ h => h) (Or.inl ⟨by rfl, ?ph5⟩) hS ?pr5
            case ph5 => (intro wS hSw; (try dsimp only at hSw); go_split_ands; go_simp; try with_reducible rfl)
            try simp only [Act.put, List.setIfInBounds_toArray, List.set_cons_zero, List.set_cons_succ]
            refine wpAnyL_take (i := 6) (oi := { dst := some 41, op := Go.Op.load 3 (Go.Operand.tmp 40), type := 3, pos := "l8_levers.go:177", after := #[{ on := 5, ground := Go.Ground.data }], guard := none }) (v := ?pv6) rfl (by kernel_rfl) (by kernel_rfl) (by kernel_rfl) (by kernel_rfl) (fun _ _ _ h => h) (Or.inl ⟨by rfl, ?ph6⟩) hS ?pr6
            case ph6 => (intro wS hSw; (try dsimp only at hSw); go_split_ands; go_simp; try with_reducible rfl)
            try simp only [Act.put, List.setIfInBounds_toArray, List.set_cons_zero, List.set_cons_succ]
            refine wpAnyL_one (i := 7) (oi := { dst := some 42, op := Go.Op.call { callee := Go.Callee.value (Go.Operand.func 76), args := #[Go.Operand.tmp 35, Go.Operand.tmp 36, Go.Operand.tmp 37, Go.Operand.tmp 41], argTypes := #[28, 3, 3, 3] }, type := 75, pos := "l8_levers.go:177", after := #[{ on := 0, ground := Go.Ground.data }, { on := 1, ground := Go.Ground.data }, { on := 2, ground := Go.Ground.data }, { on := 6, ground := Go.Ground.data }], guard := none }) (by kernel_rfl) rfl (fun Kp7 hKp7 => ?_)
            refine step_call (by rfl) 76 #[.agg #[.int .i64 m.size, .slice a m.gates.length c, .slice b m.pulls.length d], .int .i64 u.1, .int .i64 u.2, .int .i64 act] (by go_simp; try rfl) (HDO.out wr.drew (Below.drawnN LJ.out 1)) ?_
            rintro e w6 ⟨rfl, hb6⟩
            refine ⟨_, rfl, ?_⟩
            have hb6x : Below wr.heap.size wr w6 := (Below.refl wr.heap.size wr).drew.trans hb6
            have hS6 : (fun (wq : World) => wq.cell? ⟨w.heap.size, 0, none⟩ = some (.int .i64 m.size) ∧ wq.cell? ⟨w.heap.size, 1, none⟩ = some (.slice a m.gates.length c) ∧ wq.cell? ⟨w.heap.size, 2, none⟩ = some (.slice b m.pulls.length d) ∧ wq.cell? ⟨rb, roff + i, none⟩ = some (.int .i64 act)) w6 := ⟨(BJ.out.below hb6x).cells.1, (BJ.out.below hb6x).cells.2.1, (BJ.out.below hb6x).cells.2.2, (hb6x.cell (p := ⟨rb, roff + i, none⟩) hrbl).trans y0⟩
            refine hKp7 _ _ (fun _ => hS6) ?_
            clear hS
            have hS := hS6
            try simp only [Act.put, List.setIfInBounds_toArray, List.set_cons_zero, List.set_cons_succ]
            refine wpAnyL_take (i := 8) (oi := { dst := some 34, op := Go.Op.move (Go.Operand.tmp 42), type := 75, pos := "l8_levers.go:177", after := #[{ on := 7, ground := Go.Ground.data }], guard := none }) (v := ?pv8) rfl (by kernel_rfl) (by kernel_rfl) (by kernel_rfl) (by kernel_rfl) (fun _ _ _ h => h) (Or.inl ⟨by rfl, ?ph8⟩) hS ?pr8
            case ph8 => (intro wS hSw; (try dsimp only at hSw); go_split_ands; go_simp; try with_reducible rfl)
            try simp only [Act.put, List.setIfInBounds_toArray, List.set_cons_zero, List.set_cons_succ]
            refine wpAnyL_take (i := 9) (oi := { dst := some 43, op := Go.Op.extract (Go.Operand.tmp 34) 0, type := 3, pos := "l8_levers.go:177", after := #[{ on := 8, ground := Go.Ground.data }], guard := none }) (v := ?pv9) rfl (by kernel_rfl) (by kernel_rfl) (by kernel_rfl) (by kernel_rfl) (fun _ _ _ h => h) (Or.inl ⟨by rfl, ?ph9⟩) hS ?pr9
            case ph9 => (intro wS hSw; (try dsimp only at hSw); go_split_ands; go_simp; try with_reducible rfl)
            try simp only [Act.put, List.setIfInBounds_toArray, List.set_cons_zero, List.set_cons_succ]
            refine wpAnyL_take (i := 10) (oi := { dst := some 44, op := Go.Op.extract (Go.Operand.tmp 34) 1, type := 3, pos := "l8_levers.go:177", after := #[{ on := 8, ground := Go.Ground.data }, { on := 11, ground := Go.Ground.gcOnly Go.Departure.lateStores }], guard := none }) (v := ?pv10) rfl (by kernel_rfl) (by kernel_rfl) (by kernel_rfl) (by kernel_rfl) (fun _ _ _ h => h) (Or.inl ⟨by rfl, ?ph10⟩) hS ?pr10
            case ph10 => (intro wS hSw; (try dsimp only at hSw); go_split_ands; go_simp; try with_reducible rfl)
            try simp only [Act.put, List.setIfInBounds_toArray, List.set_cons_zero, List.set_cons_succ]
            refine wpAnyL_take (i := 11) (oi := { dst := some 11, op := Go.Op.assign (Go.Operand.tmp 43), type := 3, pos := "l8_levers.go:177", after := #[{ on := 9, ground := Go.Ground.data }, { on := 7, ground := Go.Ground.chain }, { on := 0, ground := Go.Ground.phase }, { on := 1, ground := Go.Ground.phase }, { on := 2, ground := Go.Ground.phase }, { on := 3, ground := Go.Ground.phase }, { on := 4, ground := Go.Ground.phase }, { on := 5, ground := Go.Ground.phase }, { on := 6, ground := Go.Ground.phase }, { on := 7, ground := Go.Ground.phase }, { on := 8, ground := Go.Ground.phase }, { on := 9, ground := Go.Ground.phase }, { on := 10, ground := Go.Ground.textOnly Go.Departure.lateStores }], guard := none }) (v := ?pv11) rfl (by kernel_rfl) (by kernel_rfl) (by kernel_rfl) (by kernel_rfl) (fun _ _ _ h => h) (Or.inl ⟨by rfl, ?ph11⟩) hS ?pr11
            case ph11 => (intro wS hSw; (try dsimp only at hSw); go_split_ands; go_simp; try with_reducible rfl)
            try simp only [Act.put, List.setIfInBounds_toArray, List.set_cons_zero, List.set_cons_succ]
            refine wpAnyL_take (i := 12) (oi := { dst := some 12, op := Go.Op.assign (Go.Operand.tmp 44), type := 3, pos := "l8_levers.go:177", after := #[{ on := 10, ground := Go.Ground.data }, { on := 11, ground := Go.Ground.chain }, { on := 0, ground := Go.Ground.phase }, { on := 1, ground := Go.Ground.phase }, { on := 2, ground := Go.Ground.phase }, { on := 3, ground := Go.Ground.phase }, { on := 4, ground := Go.Ground.phase }, { on := 5, ground := Go.Ground.phase }, { on := 6, ground := Go.Ground.phase }, { on := 7, ground := Go.Ground.phase }, { on := 8, ground := Go.Ground.phase }, { on := 9, ground := Go.Ground.phase }, { on := 10, ground := Go.Ground.phase }, { on := 11, ground := Go.Ground.phase }], guard := none }) (v := ?pv12) rfl (by kernel_rfl) (by kernel_rfl) (by kernel_rfl) (by kernel_rfl) (fun _ _ _ h => h) (Or.inl ⟨by rfl, ?ph12⟩) hS ?pr12
            case ph12 => (intro wS hSw; (try dsimp only at hSw); go_split_ands; go_simp; try with_reducible rfl)
            try simp only [Act.put, List.setIfInBounds_toArray, List.set_cons_zero, List.set_cons_succ]
            refine wpAnyL_done (by kernel_rfl) ?_ _
            have O6 := Lib.hid (own_below OJ.out hb6x)
            have X6 := Lib.hid (BJ.out.below hb6x)
            have R6 := Lib.hid (RJ.out.turned (Turned.of_below hb6x 0 0) (by omega) (.inr (Nat.zero_le _)))
            have L6 := Lib.hid (LJ.out.trans (hb6x.mono hzj))
            have hs6 := hb6x.size
            have y6 : w6.cell? ⟨rb, roff + i, none⟩ = some (.int .i64 act) := hS6.2.2.2
            clear hb6 hb6x hS hS6 c0 c1 c2 y0
            have hwn : IntKind.i64.wrap ((n : Int) - (P.length : Int)) = (n : Int) - (P.length : Int) := IntWalk.i64_in _ (by omega)
            have hwn1 : IntKind.i64.wrap ((n : Int) - (P.length : Int) - 1) = (n : Int) - (P.length : Int) - 1 := IntWalk.i64_in _ (by omega)
            obtain ⟨z, hz'⟩ : ∃ z, z = M.optI (M.winO m t) := ⟨_, rfl⟩
            rw [← hz'] at HGO
            have HZ := Lib.hid hz'
            clear hz'
            go_wp2_with fail
            refine wp_region_late2 (fun (wq : World) => wq.cell? ⟨w.heap.size, 0, none⟩ = some (.int .i64 m.size) ∧ wq.cell? ⟨w.heap.size, 1, none⟩ = some (.slice a m.gates.length c) ∧ wq.cell? ⟨w.heap.size, 2, none⟩ = some (.slice b m.pulls.length d)) [] 12 #[false, false, false, false, false, false, false, false, false, false, false, false] rfl rfl (by kernel_rfl) ?_
            have hS : (fun (wq : World) => wq.cell? ⟨w.heap.size, 0, none⟩ = some (.int .i64 m.size) ∧ wq.cell? ⟨w.heap.size, 1, none⟩ = some (.slice a m.gates.length c) ∧ wq.cell? ⟨w.heap.size, 2, none⟩ = some (.slice b m.pulls.length d)) w6.drew := X6.out.cells
            refine wpAnyL_take (i := 0) (oi := { dst := some 45, op := Go.Op.load 28 (Go.Operand.tmp 1), type := 28, pos := "l8_levers.go:178", after := #[], guard := none }) (v := ?rv0) rfl (by kernel_rfl) (by kernel_rfl) (by kernel_rfl) (by kernel_rfl) (fun _ _ _ h => h) (Or.inl ⟨by rfl, ?rh0⟩) hS ?rr0
            case rh0 => (intro wS hSw; (try dsimp only at hSw); go_split_ands; go_simp; try with_reducible rfl)
            try simp only [Act.put, List.setIfInBounds_toArray, List.set_cons_zero, List.set_cons_succ]
            refine wpAnyL_take (i := 1) (oi := { dst := some 46, op := Go.Op.load 28 (Go.Operand.tmp 1), type := 28, pos := "l8_levers.go:178", after := #[], guard := none }) (v := ?rv1) rfl (by kernel_rfl) (by kernel_rfl) (by kernel_rfl) (by kernel_rfl) (fun _ _ _ h => h) (Or.inl ⟨by rfl, ?rh1⟩) hS ?rr1
            case rh1 => (intro wS hSw; (try dsimp only at hSw); go_split_ands; go_simp; try with_reducible rfl)
            try simp only [Act.put, List.setIfInBounds_toArray, List.set_cons_zero, List.set_cons_succ]
            refine wpAnyL_take (i := 2) (oi := { dst := some 47, op := Go.Op.move (Go.Operand.tmp 11), type := 3, pos := "l8_levers.go:178", after := #[], guard := none }) (v := ?rv2) rfl (by kernel_rfl) (by kernel_rfl) (by kernel_rfl) (by kernel_rfl) (fun _ _ _ h => h) (Or.inl ⟨by rfl, ?rh2⟩) hS ?rr2
            case rh2 => (intro wS hSw; (try dsimp only at hSw); go_split_ands; go_simp; try with_reducible rfl)
            try simp only [Act.put, List.setIfInBounds_toArray, List.set_cons_zero, List.set_cons_succ]
            refine wpAnyL_take (i := 3) (oi := { dst := some 48, op := Go.Op.move (Go.Operand.tmp 12), type := 3, pos := "l8_levers.go:178", after := #[], guard := none }) (v := ?rv3) rfl (by kernel_rfl) (by kernel_rfl) (by kernel_rfl) (by kernel_rfl) (fun _ _ _ h => h) (Or.inl ⟨by rfl, ?rh3⟩) hS ?rr3
            case rh3 => (intro wS hSw; (try dsimp only at hSw); go_split_ands; go_simp; try with_reducible rfl)
            try simp only [Act.put, List.setIfInBounds_toArray, List.set_cons_zero, List.set_cons_succ]
            refine wpAnyL_take (i := 6) (oi := { dst := some 51, op := Go.Op.move (Go.Operand.tmp 5), type := 3, pos := "l8_levers.go:178", after := #[], guard := none }) (v := ?rv6) rfl (by kernel_rfl) (by kernel_rfl) (by kernel_rfl) (by kernel_rfl) (fun _ _ _ h => h) (Or.inl ⟨by rfl, ?rh6⟩) hS ?rr6
            case rh6 => (intro wS hSw; (try dsimp only at hSw); go_split_ands; go_simp; try with_reducible rfl)
            try simp only [Act.put, List.setIfInBounds_toArray, List.set_cons_zero, List.set_cons_succ]
            refine wpAnyL_take (i := 7) (oi := { dst := some 52, op := Go.Op.move (Go.Operand.tmp 4), type := 23, pos := "l8_levers.go:178", after := #[], guard := none }) (v := ?rv7) rfl (by kernel_rfl) (by kernel_rfl) (by kernel_rfl) (by kernel_rfl) (fun _ _ _ h => h) (Or.inl ⟨by rfl, ?rh7⟩) hS ?rr7
            case rh7 => (intro wS hSw; (try dsimp only at hSw); go_split_ands; go_simp; try with_reducible rfl)
            try simp only [Act.put, List.setIfInBounds_toArray, List.set_cons_zero, List.set_cons_succ]
            refine wpAnyL_take (i := 8) (oi := { dst := some 53, op := Go.Op.call { callee := Go.Callee.builtin Go.Builtin.len, args := #[Go.Operand.tmp 52], argTypes := #[23] }, type := 3, pos := "l8_levers.go:178", after := #[{ on := 7, ground := Go.Ground.data }], guard := none }) (v := ?rv8) rfl (by kernel_rfl) (by kernel_rfl) (by kernel_rfl) (by kernel_rfl) (fun _ _ _ h => h) (Or.inl ⟨by rfl, ?rh8⟩) hS ?rr8
            case rh8 => (intro wS hSw; (try dsimp only at hSw); go_split_ands; go_simp; try with_reducible rfl)
            try simp only [Act.put, List.setIfInBounds_toArray, List.set_cons_zero, List.set_cons_succ]
            refine wpAnyL_take (i := 9) (oi := { dst := some 54, op := Go.Op.binOp Go.BinOp.sub 3 (Go.Operand.tmp 51) (Go.Operand.tmp 53) 3, type := 3, pos := "l8_levers.go:178", after := #[{ on := 6, ground := Go.Ground.data }, { on := 8, ground := Go.Ground.data }], guard := none }) (v := ?rv9) rfl (by kernel_rfl) (by kernel_rfl) (by kernel_rfl) (by kernel_rfl) (fun _ _ _ h => h) (Or.inl ⟨by rfl, ?rh9⟩) hS ?rr9
            case rh9 => (intro wS hSw; (try dsimp only at hSw); go_split_ands; go_simp; try with_reducible rfl)
            try simp only [Act.put, List.setIfInBounds_toArray, List.set_cons_zero, List.set_cons_succ]
            refine wpAnyL_take (i := 10) (oi := { dst := some 55, op := Go.Op.binOp Go.BinOp.sub 3 (Go.Operand.tmp 54) (Go.Operand.const (Go.Value.int Go.IntKind.i64 1)) 3, type := 3, pos := "l8_levers.go:178", after := #[{ on := 9, ground := Go.Ground.data }], guard := none }) (v := ?rv10) rfl (by kernel_rfl) (by kernel_rfl) (by kernel_rfl) (by kernel_rfl) (fun _ _ _ h => h) (Or.inl ⟨by rfl, ?rh10⟩) hS ?rr10
            case rh10 => (intro wS hSw; (try dsimp only at hSw); go_split_ands; go_simp; try with_reducible rfl)
            try simp only [Act.put, List.setIfInBounds_toArray, List.set_cons_zero, List.set_cons_succ]
            refine wpAnyL_one (i := 4) (oi := { dst := some 49, op := Go.Op.call { callee := Go.Callee.value (Go.Operand.func 82), args := #[Go.Operand.tmp 46, Go.Operand.tmp 47, Go.Operand.tmp 48, Go.Operand.const (Go.Value.bool false)], argTypes := #[28, 3, 3, 4] }, type := 23, pos := "l8_levers.go:178", after := #[{ on := 1, ground := Go.Ground.data }, { on := 2, ground := Go.Ground.data }, { on := 3, ground := Go.Ground.data }], guard := none }) (by kernel_rfl) rfl (fun Kr4 hKr4 => ?_)
            refine step_call (by rfl) 82 #[.agg #[.int .i64 m.size, .slice a m.gates.length c, .slice b m.pulls.length d], .int .i64 t.1, .int .i64 t.2, .bool false] (by go_simp; try rfl) (HSP.out w6.drew (Below.drawnN L6.out 1)) ?_
            rintro e w7 ⟨ra7, rc7, rfl, ho7, hq71, hq72, hb7⟩
            refine ⟨_, rfl, ?_⟩
            have hb7x : Below w6.heap.size w6 w7 := (Below.refl w6.heap.size w6).drew.trans hb7
            have X7 := Lib.hid (X6.out.below hb7x)
            have L7 := Lib.hid (L6.out.trans (hb7x.mono (by omega)))
            have hz7 := hb7x.size
            have hS7 : (fun (wq : World) => wq.cell? ⟨w.heap.size, 0, none⟩ = some (.int .i64 m.size) ∧ wq.cell? ⟨w.heap.size, 1, none⟩ = some (.slice a m.gates.length c) ∧ wq.cell? ⟨w.heap.size, 2, none⟩ = some (.slice b m.pulls.length d)) w7 := X7.out.cells
            refine hKr4 _ _ (fun _ => hS7) ?_
            clear hS
            have hS := hS7
            try simp only [Act.put, List.setIfInBounds_toArray, List.set_cons_zero, List.set_cons_succ]
            refine wpAnyL_one (i := 5) (oi := { dst := some 50, op := Go.Op.call { callee := Go.Callee.value (Go.Operand.func 81), args := #[Go.Operand.tmp 45, Go.Operand.tmp 49], argTypes := #[28, 23] }, type := 3, pos := "l8_levers.go:178", after := #[{ on := 0, ground := Go.Ground.data }, { on := 4, ground := Go.Ground.data }, { on := 4, ground := Go.Ground.chain }], guard := none }) (by kernel_rfl) rfl (fun Kr5 hKr5 => ?_)
            refine step_call (by rfl) 81 #[.agg #[.int .i64 m.size, .slice a m.gates.length c, .slice b m.pulls.length d], .slice ra7 tb.length rc7] (by go_simp; try rfl) (HGO.out w7 _ _ ra7 rc7 ho7.row (Nat.le_refl _)) ?_
            rintro e w8 ⟨rfl, hb8⟩
            refine ⟨_, rfl, ?_⟩
            have X8 := Lib.hid (X7.out.below hb8)
            have L8 := Lib.hid (L7.out.trans (hb8.mono (by omega)))
            have hz8 := hb8.size
            have hS8 : (fun (wq : World) => wq.cell? ⟨w.heap.size, 0, none⟩ = some (.int .i64 m.size) ∧ wq.cell? ⟨w.heap.size, 1, none⟩ = some (.slice a m.gates.length c) ∧ wq.cell? ⟨w.heap.size, 2, none⟩ = some (.slice b m.pulls.length d)) w8 := X8.out.cells
            refine hKr5 _ _ (fun _ => hS8) ?_
            clear hS
            have hS := hS8
            try simp only [Act.put, List.setIfInBounds_toArray, List.set_cons_zero, List.set_cons_succ]
            refine wpAnyL_take (i := 11) (oi := { dst := some 56, op := Go.Op.binOp Go.BinOp.eql 3 (Go.Operand.tmp 50) (Go.Operand.tmp 55) 3, type := 4, pos := "l8_levers.go:178", after := #[{ on := 5, ground := Go.Ground.data }, { on := 10, ground := Go.Ground.data }], guard := none }) (v := ?rv11) rfl (by kernel_rfl) (by kernel_rfl) (by kernel_rfl) (by kernel_rfl) (fun _ _ _ h => h) (Or.inl ⟨by rfl, ?rh11⟩) hS ?rr11
            case rh11 => (intro wS hSw; (try dsimp only at hSw); go_split_ands; go_simp; try with_reducible rfl)
            try simp only [Act.put, List.setIfInBounds_toArray, List.set_cons_zero, List.set_cons_succ]
            refine wpAnyL_done (by kernel_rfl) ?_ _
            have O8 := Lib.hid (own_below (own_below O6.out hb7x) hb8)
            have R8 := Lib.hid ((R6.out.turned (Turned.of_below hb7x 0 0) (by omega) (.inr (Nat.zero_le _))).turned (Turned.of_below hb8 0 0) (by omega) (.inr (Nat.zero_le _)))
            have hrb6 : rb < w6.heap.size := by omega
            have hrb7 : rb < w7.heap.size := by omega
            have y8 : w8.cell? ⟨rb, roff + i, none⟩ = some (.int .i64 act) := ((hb8.cell (p := ⟨rb, roff + i, none⟩) hrb7).trans (hb7x.cell (p := ⟨rb, roff + i, none⟩) hrb6)).trans y6
            clear hS hS7 hS8 hb7 hb7x hb8 ho7 hq71 hq72 y6
            rcases Classical.em (z = (n : Int) - (P.length : Int) - 1) with hzj | hzj
            · have hwj : M.winO m t = some j := by
                have e : M.optI (M.winO m t) = (j : Int) := by rw [← HZ.out, hzj]; omega
                cases hw : M.winO m t with
                | none => rw [hw, M.optI_none] at e; omega
                | some v => rw [hw, M.optI_some] at e; congr 1; omega
              have hie : i = M.nxI m u j := by
                rcases Nat.lt_or_ge i (M.nxI m u j) with h | h
                · exact absurd hwj (HQ.out h)
                · omega
              have HWJ := Lib.hid hwj
              have HIE := Lib.hid hie
              have hrb8 : rb < w8.heap.size := by omega
              have hili : (i : Int) < ((M.actsL m u).length : Int) := by omega
              clear hwj hie
              obtain ⟨c0, c1, c2⟩ := X8.out.cells
              go_upto_region 11 with fail
              refine wp_region_late2 (fun (wq : World) => wq.cell? ⟨w.heap.size, 0, none⟩ = some (.int .i64 m.size) ∧ wq.cell? ⟨w.heap.size, 1, none⟩ = some (.slice a m.gates.length c) ∧ wq.cell? ⟨w.heap.size, 2, none⟩ = some (.slice b m.pulls.length d) ∧ wq.cell? ⟨rb, roff + i, none⟩ = some (.int .i64 act)) [] 13 #[false, false, false, false, false, false, false, false, false, false, false, false, false] rfl rfl (by kernel_rfl) ?_
              have hS : (fun (wq : World) => wq.cell? ⟨w.heap.size, 0, none⟩ = some (.int .i64 m.size) ∧ wq.cell? ⟨w.heap.size, 1, none⟩ = some (.slice a m.gates.length c) ∧ wq.cell? ⟨w.heap.size, 2, none⟩ = some (.slice b m.pulls.length d) ∧ wq.cell? ⟨rb, roff + i, none⟩ = some (.int .i64 act)) w8.drew := ⟨c0, c1, c2, y8⟩
              refine wpAnyL_take (i := 0) (oi := { dst := some 60, op := Go.Op.load 28 (Go.Operand.tmp 1), type := 28, pos := "l8_levers.go:183", after := #[], guard := none }) (v := ?qv0) rfl (by kernel_rfl) (by kernel_rfl) (by kernel_rfl) (by kernel_rfl) (fun _ _ _ h => h) (Or.inl ⟨by rfl, ?qh0⟩) hS ?qr0
              case qh0 => (intro wS hSw; (try dsimp only at hSw); go_split_ands; go_simp; try with_reducible rfl)
              try simp only [Act.put, List.setIfInBounds_toArray, List.set_cons_zero, List.set_cons_succ]
              refine wpAnyL_take (i := 1) (oi := { dst := some 61, op := Go.Op.move (Go.Operand.tmp 7), type := 3, pos := "l8_levers.go:183", after := #[], guard := none }) (v := ?qv1) rfl (by kernel_rfl) (by kernel_rfl) (by kernel_rfl) (by kernel_rfl) (fun _ _ _ h => h) (Or.inl ⟨by rfl, ?qh1⟩) hS ?qr1
              case qh1 => (intro wS hSw; (try dsimp only at hSw); go_split_ands; go_simp; try with_reducible rfl)
              try simp only [Act.put, List.setIfInBounds_toArray, List.set_cons_zero, List.set_cons_succ]
              refine wpAnyL_take (i := 2) (oi := { dst := some 62, op := Go.Op.move (Go.Operand.tmp 8), type := 3, pos := "l8_levers.go:183", after := #[], guard := none }) (v := ?qv2) rfl (by kernel_rfl) (by kernel_rfl) (by kernel_rfl) (by kernel_rfl) (fun _ _ _ h => h) (Or.inl ⟨by rfl, ?qh2⟩) hS ?qr2
              case qh2 => (intro wS hSw; (try dsimp only at hSw); go_split_ands; go_simp; try with_reducible rfl)
              try simp only [Act.put, List.setIfInBounds_toArray, List.set_cons_zero, List.set_cons_succ]
              refine wpAnyL_take (i := 3) (oi := { dst := some 63, op := Go.Op.move (Go.Operand.tmp 9), type := 23, pos := "l8_levers.go:183", after := #[], guard := none }) (v := ?qv3) rfl (by kernel_rfl) (by kernel_rfl) (by kernel_rfl) (by kernel_rfl) (fun _ _ _ h => h) (Or.inl ⟨by rfl, ?qh3⟩) hS ?qr3
              case qh3 => (intro wS hSw; (try dsimp only at hSw); go_split_ands; go_simp; try with_reducible rfl)
              try simp only [Act.put, List.setIfInBounds_toArray, List.set_cons_zero, List.set_cons_succ]
              refine wpAnyL_take (i := 4) (oi := { dst := some 64, op := Go.Op.move (Go.Operand.tmp 10), type := 3, pos := "l8_levers.go:183", after := #[], guard := none }) (v := ?qv4) rfl (by kernel_rfl) (by kernel_rfl) (by kernel_rfl) (by kernel_rfl) (fun _ _ _ h => h) (Or.inl ⟨by rfl, ?qh4⟩) hS ?qr4
              case qh4 => (intro wS hSw; (try dsimp only at hSw); go_split_ands; go_simp; try with_reducible rfl)
              try simp only [Act.put, List.setIfInBounds_toArray, List.set_cons_zero, List.set_cons_succ]
              refine wpAnyL_take (i := 5) (oi := { dst := some 65, op := Go.Op.indexAddr 23 (Go.Operand.tmp 63) (Go.Operand.tmp 64), type := 0, pos := "l8_levers.go:183", after := #[{ on := 3, ground := Go.Ground.data }, { on := 4, ground := Go.Ground.data }], guard := none }) (v := ?qv5) rfl (by kernel_rfl) (by kernel_rfl) (by kernel_rfl) (by kernel_rfl) (fun _ _ _ h => h) (Or.inl ⟨by rfl, ?qh5⟩) hS ?qr5
              case qh5 => (intro wS hSw; (try dsimp only at hSw); go_split_ands; go_simp; try with_reducible rfl)
              try simp only [Act.put, List.setIfInBounds_toArray, List.set_cons_zero, List.set_cons_succ]
              refine wpAnyL_take (i := 6) (oi := { dst := some 66, op := Go.Op.load 3 (Go.Operand.tmp 65), type := 3, pos := "l8_levers.go:183", after := #[{ on := 5, ground := Go.Ground.data }], guard := none }) (v := ?qv6) rfl (by kernel_rfl) (by kernel_rfl) (by kernel_rfl) (by kernel_rfl) (fun _ _ _ h => h) (Or.inl ⟨by rfl, ?qh6⟩) hS ?qr6
              case qh6 => (intro wS hSw; (try dsimp only at hSw); go_split_ands; go_simp; try with_reducible rfl)
              try simp only [Act.put, List.setIfInBounds_toArray, List.set_cons_zero, List.set_cons_succ]
              refine wpAnyL_one (i := 7) (oi := { dst := some 67, op := Go.Op.call { callee := Go.Callee.value (Go.Operand.func 76), args := #[Go.Operand.tmp 60, Go.Operand.tmp 61, Go.Operand.tmp 62, Go.Operand.tmp 66], argTypes := #[28, 3, 3, 3] }, type := 75, pos := "l8_levers.go:183", after := #[{ on := 0, ground := Go.Ground.data }, { on := 1, ground := Go.Ground.data }, { on := 2, ground := Go.Ground.data }, { on := 6, ground := Go.Ground.data }], guard := none }) (by kernel_rfl) rfl (fun Kq7 hKq7 => ?_)
              refine step_call (by rfl) 76 #[.agg #[.int .i64 m.size, .slice a m.gates.length c, .slice b m.pulls.length d], .int .i64 u.1, .int .i64 u.2, .int .i64 act] (by go_simp; try rfl) (HDO.out w8.drew (Below.drawnN L8.out 1)) ?_
              rintro e w9 ⟨rfl, hb9⟩
              refine ⟨_, rfl, ?_⟩
              have hb9x : Below w8.heap.size w8 w9 := (Below.refl w8.heap.size w8).drew.trans hb9
              have hS9 : (fun (wq : World) => wq.cell? ⟨w.heap.size, 0, none⟩ = some (.int .i64 m.size) ∧ wq.cell? ⟨w.heap.size, 1, none⟩ = some (.slice a m.gates.length c) ∧ wq.cell? ⟨w.heap.size, 2, none⟩ = some (.slice b m.pulls.length d) ∧ wq.cell? ⟨rb, roff + i, none⟩ = some (.int .i64 act)) w9 := ⟨(X8.out.below hb9x).cells.1, (X8.out.below hb9x).cells.2.1, (X8.out.below hb9x).cells.2.2, (hb9x.cell (p := ⟨rb, roff + i, none⟩) hrb8).trans y8⟩
              refine hKq7 _ _ (fun _ => hS9) ?_
              clear hS
              have hS := hS9
              try simp only [Act.put, List.setIfInBounds_toArray, List.set_cons_zero, List.set_cons_succ]
              refine wpAnyL_take (i := 8) (oi := { dst := some 59, op := Go.Op.move (Go.Operand.tmp 67), type := 75, pos := "l8_levers.go:183", after := #[{ on := 7, ground := Go.Ground.data }], guard := none }) (v := ?qv8) rfl (by kernel_rfl) (by kernel_rfl) (by kernel_rfl) (by kernel_rfl) (fun _ _ _ h => h) (Or.inl ⟨by rfl, ?qh8⟩) hS ?qr8
              case qh8 => (intro wS hSw; (try dsimp only at hSw); go_split_ands; go_simp; try with_reducible rfl)
              try simp only [Act.put, List.setIfInBounds_toArray, List.set_cons_zero, List.set_cons_succ]
              refine wpAnyL_take (i := 9) (oi := { dst := some 68, op := Go.Op.extract (Go.Operand.tmp 59) 0, type := 3, pos := "l8_levers.go:183", after := #[{ on := 8, ground := Go.Ground.data }], guard := none }) (v := ?qv9) rfl (by kernel_rfl) (by kernel_rfl) (by kernel_rfl) (by kernel_rfl) (fun _ _ _ h => h) (Or.inl ⟨by rfl, ?qh9⟩) hS ?qr9
              case qh9 => (intro wS hSw; (try dsimp only at hSw); go_split_ands; go_simp; try with_reducible rfl)
              try simp only [Act.put, List.setIfInBounds_toArray, List.set_cons_zero, List.set_cons_succ]
              refine wpAnyL_take (i := 10) (oi := { dst := some 69, op := Go.Op.extract (Go.Operand.tmp 59) 1, type := 3, pos := "l8_levers.go:183", after := #[{ on := 8, ground := Go.Ground.data }, { on := 11, ground := Go.Ground.gcOnly Go.Departure.lateStores }], guard := none }) (v := ?qv10) rfl (by kernel_rfl) (by kernel_rfl) (by kernel_rfl) (by kernel_rfl) (fun _ _ _ h => h) (Or.inl ⟨by rfl, ?qh10⟩) hS ?qr10
              case qh10 => (intro wS hSw; (try dsimp only at hSw); go_split_ands; go_simp; try with_reducible rfl)
              try simp only [Act.put, List.setIfInBounds_toArray, List.set_cons_zero, List.set_cons_succ]
              refine wpAnyL_take (i := 11) (oi := { dst := some 7, op := Go.Op.assign (Go.Operand.tmp 68), type := 3, pos := "l8_levers.go:183", after := #[{ on := 9, ground := Go.Ground.data }, { on := 7, ground := Go.Ground.chain }, { on := 0, ground := Go.Ground.phase }, { on := 1, ground := Go.Ground.phase }, { on := 2, ground := Go.Ground.phase }, { on := 3, ground := Go.Ground.phase }, { on := 4, ground := Go.Ground.phase }, { on := 5, ground := Go.Ground.phase }, { on := 6, ground := Go.Ground.phase }, { on := 7, ground := Go.Ground.phase }, { on := 8, ground := Go.Ground.phase }, { on := 9, ground := Go.Ground.phase }, { on := 10, ground := Go.Ground.textOnly Go.Departure.lateStores }], guard := none }) (v := ?qv11) rfl (by kernel_rfl) (by kernel_rfl) (by kernel_rfl) (by kernel_rfl) (fun _ _ _ h => h) (Or.inl ⟨by rfl, ?qh11⟩) hS ?qr11
              case qh11 => (intro wS hSw; (try dsimp only at hSw); go_split_ands; go_simp; try with_reducible rfl)
              try simp only [Act.put, List.setIfInBounds_toArray, List.set_cons_zero, List.set_cons_succ]
              refine wpAnyL_take (i := 12) (oi := { dst := some 8, op := Go.Op.assign (Go.Operand.tmp 69), type := 3, pos := "l8_levers.go:183", after := #[{ on := 10, ground := Go.Ground.data }, { on := 11, ground := Go.Ground.chain }, { on := 0, ground := Go.Ground.phase }, { on := 1, ground := Go.Ground.phase }, { on := 2, ground := Go.Ground.phase }, { on := 3, ground := Go.Ground.phase }, { on := 4, ground := Go.Ground.phase }, { on := 5, ground := Go.Ground.phase }, { on := 6, ground := Go.Ground.phase }, { on := 7, ground := Go.Ground.phase }, { on := 8, ground := Go.Ground.phase }, { on := 9, ground := Go.Ground.phase }, { on := 10, ground := Go.Ground.phase }, { on := 11, ground := Go.Ground.phase }], guard := none }) (v := ?qv12) rfl (by kernel_rfl) (by kernel_rfl) (by kernel_rfl) (by kernel_rfl) (fun _ _ _ h => h) (Or.inl ⟨by rfl, ?qh12⟩) hS ?qr12
              case qh12 => (intro wS hSw; (try dsimp only at hSw); go_split_ands; go_simp; try with_reducible rfl)
              try simp only [Act.put, List.setIfInBounds_toArray, List.set_cons_zero, List.set_cons_succ]
              refine wpAnyL_done (by kernel_rfl) ?_ _
              have O9 := Lib.hid (own_below O8.out hb9x)
              have X9 := Lib.hid (X8.out.below hb9x)
              have L9 := Lib.hid (L8.out.trans (hb9x.mono (by omega)))
              have hs9 := hb9x.size
              have y9 : w9.cell? ⟨rb, roff + i, none⟩ = some (.int .i64 act) := hS9.2.2.2
              have hxl9 := X9.out.lt
              clear hb9 hb9x hS hS9 c0 c1 c2 y8
              go_wp2_with (at_builtin; refine wpList_append_lies _ rfl _ _ 23 rfl (w.heap.size + 1) 3 ii0 (.int .i64 0) 1 8 Try.underlying23 hi0 hz0 hzz1 hz2 rfl (by decide) (.slice (some ⟨gp, 0, none⟩) P.length cp) _ _ rfl (O9.out.alloc _) ⟨w9.heap.size, 0, none⟩ 1 1 [.int .i64 act] rfl rfl (cell_one_new _ _ _) (fun x hx => by simp at hx; subst hx; rfl) (by decide) (by unfold maxLen; omega) (by omega) (by simp; omega) _ rfl ?_; intro g7 c7 w10 hown10 hgrow0 hat10 hlt10; have hgrow10 : (w9.alloc (.cells #[.int .i64 act] 3)).grownBy w10 (some gp) := hgrow0; clear hgrow0)
              go_roundw
              case rel =>
                have HL8 : (P ++ [act]).length = P.length + 1 := by rw [List.length_append]; rfl
                refine ⟨j, t, P ++ [act], g7, c7, HWJ.out, HSt.out, ?_, rfl, rfl, by rw [HL8], ?_, (X9.out.alloc _).grown hgrow10 (by simp; omega), (L9.out.alloc (by omega) _).grown hgrow10 (by simp; omega) (fun z hz => by injection hz with hz; omega)⟩
                · rw [List.append_assoc, ← TO.out, HPL.out, HT.out, HE.out HIE.out]
                  rfl
                · rw [HL8, M.encIs_append]
                  exact hown10
              case measure => simp [sliceN]; omega
            · have hin : i < M.nxI m u j := by
                rcases Nat.lt_or_ge i (M.nxI m u j) with h | h
                · exact h
                · refine absurd ?_ hzj
                  have hie : i = M.nxI m u j := by omega
                  rw [HZ.out, HT.out, HE.out hie, HNW.out, M.optI_some]
                  omega
              have hii : i + 1 ≤ M.nxI m u j := hin
              clear hin y8
              go_wp2_with fail
              go_roundw
              case rel => exact ⟨i + 1, hii, by go_num, O8.out, X8.out, R8.out, L8.out, by omega⟩
              case measure => simp [intOf]; omega
    · have HG : Hid (M.planB m = false) := Lib.hid (by unfold M.planB; rw [q0]; exact decide_eq_false hn)
      have hni : 60 < (n : Int) := by omega
      clear q0
      have HF := Lib.hid (M.plan_off HG.out)
      go_wp2_with fail
      go_ret2
      rw [HF.out, HG.out]
      exact intsOk_end (l := []) (own_weak O1.out (by omega)) HB1.out

end C
end Go.Proofs.Ytdgfceiobpnchaa
