/-
  CONTRACTS of slices.Contains at visits and of the program's wander; what lay in memory stays. Condition: valid works, a valid visit.
-/
import Derived.Test.YtdgfceiobpnchaaActF
import Derived.Test.YtdgfceiobpnchaaLate
import Derived.Laws.StructEq
import Derived.ProofKit
namespace Go.Proofs.Ytdgfceiobpnchaa
open Go.RowKit
namespace C
set_option maxHeartbeats 3200000
set_option maxRecDepth 20000
theorem eqTV : Try.prog.eqGuardType Try.prog.depth 71 = false := by kernel_rfl
theorem eqV (a b c d : Int) (w : World) : (Op.equalIn 10000 71 (.agg #[.int .i64 a, .int .i64 b]) (.agg #[.int .i64 c, .int .i64 d])).run Try.prog w = .ok (a == c && b == d) w := by
  have u3 := Try.underlying3
  have a3 := Try.isAgg3
  have z3 := Try.sizeOf3
  rw [show (10000 : Nat) = 9999 + 1 from rfl, run_equalIn_agg (P := Try.prog) w 9999 71 _ _ (by kernel_rfl) (by kernel_rfl)]
  simp only [Program.fieldsOf, Try.underlying71]
  go_simp
  by_cases h1 : a = c <;> by_cases h2 : b = d <;> simp [h1, h2]
theorem eqV_yes {s t : M.Vs} (h : s = t) (w : World) : (Op.equalIn 10000 71 (.agg #[.int .i64 s.1, .int .i64 s.2]) (.agg #[.int .i64 t.1, .int .i64 t.2])).run Try.prog w = .ok true w := by
  subst h
  rw [eqV]
  simp
theorem eqV_no {s t : M.Vs} (h : s ≠ t) (w : World) : (Op.equalIn 10000 71 (.agg #[.int .i64 s.1, .int .i64 s.2]) (.agg #[.int .i64 t.1, .int .i64 t.2])).run Try.prog w = .ok false w := by
  rw [eqV]
  congr 1
  rw [Bool.eq_false_iff]
  intro hh
  simp only [Bool.and_eq_true, beq_iff_eq] at hh
  exact h (Prod.ext hh.1 hh.2)
theorem indexV_any (w : World) (lo hi : Nat) (a : Option Addr) (c : Nat) (l : List M.Vs) (s : M.Vs) (h : RowIn lo hi w a (M.encSs l)) (hz : hi ≤ w.heap.size) (hl : l.length ≤ 1048576) :
    Calls Try.prog 142 #[.slice a l.length c, .agg #[.int .i64 s.1, .int .i64 s.2]] w fun e w' => (∃ i : Int, e = .returned (.int .i64 i) ∧ (0 ≤ i ↔ s ∈ l)) ∧ Below w.heap.size w w' := by
  have H := Lib.hid (h.below (below_alloc w (.cells #[.int .i64 s.1, .int .i64 s.2] 71)) hz)
  have Z := Lib.hid (Box2.new (w := w) (g := w.heap.size) 71 (.int .i64 s.1) (.int .i64 s.2) rfl)
  have HB := Lib.hid (below_alloc w (.cells #[.int .i64 s.1, .int .i64 s.2] 71))
  clear h
  go_enter Try.func142, Try.ntmps142
  go_wp2_with fail
  generalize w.alloc (.cells #[.int .i64 s.1, .int .i64 s.2] 71) = W at *
  go_loopw [5, 8] (fun _ i wr => ∃ (k q : Nat), k ≤ l.length ∧ i = .int .i64 k ∧ (∀ j (hj : j < l.length), j < k → s ≠ l[j]) ∧ wr = W.drewN q) (fun _ i _ => l.length - (intOf i).toNat)
  case atStart => exact ⟨0, 0, Nat.zero_le _, rfl, fun j _ h => by omega, rfl⟩
  case round =>
    obtain ⟨k, q, hk, rfl, hall, rfl⟩ := hrel
    have HA := Lib.hid hall
    clear hall
    by_cases hlt : k < l.length
    · obtain ⟨b, off, rfl, _, _, hc0⟩ := H.out.at_ (k := k * 2) (by rw [M.encSs_len]; omega)
      have p0 : W.cell? ⟨b, off + k * 2, none⟩ = some (.int .i64 l[k].1) := hc0 _ _ (M.encSs_at0 hlt)
      have p1 : W.cell? ⟨b, off + k * 2 + 1, none⟩ = some (.int .i64 l[k].2) := hc0 _ _ (M.encSs_at1 hlt)
      have z0 : W.cell? ⟨w.heap.size, 0, none⟩ = some (.int .i64 s.1) := Z.out.cells.1
      have z1 : W.cell? ⟨w.heap.size, 1, none⟩ = some (.int .i64 s.2) := Z.out.cells.2
      have tq := eqTV
      clear hc0
      rcases Classical.em (s = l[k]) with hlk | hlk
      · have HM : Hid (s ∈ l) := Lib.hid (by rw [hlk]; exact List.getElem_mem hlt)
        have hq := eqV_yes hlk
        clear hlk
        generalize l[k] = t at *
        go_wp2_with fail
        go_quiet (fail)
        go_wp2_with fail
        go_ret
        exact ⟨⟨k, rfl, ⟨fun _ => HM.out, fun _ => by omega⟩⟩, Below.drawnN (Below.drawnN HB.out _) _⟩
      · have HK := Lib.hid hlk
        have hq := eqV_no hlk
        clear hlk
        go_wp2_with fail
        go_quiet (fail)
        go_wp2_with fail
        go_roundw
        case rel => exact ⟨k + 1, _, by omega, by go_num, fun j hj hjk => by
          rcases Nat.lt_or_ge j k with h | h
          · exact HA.out j hj h
          · obtain rfl : j = k := by omega
            exact HK.out, rfl⟩
        case measure => simp [intOf]; omega
    · have HF : Hid (s ∉ l) := Lib.hid (by
        intro hm
        obtain ⟨j, hj, he⟩ := List.mem_iff_getElem.1 hm
        exact HA.out j hj (by omega) he.symm)
      go_wp2_with fail
      go_ret
      exact ⟨⟨-1, rfl, ⟨fun h => by omega, fun h => absurd h HF.out⟩⟩, Below.drawnN HB.out _⟩
open Classical in
theorem containsV_any (w : World) (lo hi : Nat) (a : Option Addr) (c : Nat) (l : List M.Vs) (s : M.Vs) (h : RowIn lo hi w a (M.encSs l)) (hz : hi ≤ w.heap.size) (hl : l.length ≤ 1048576) :
    Calls Try.prog 122 #[.slice a l.length c, .agg #[.int .i64 s.1, .int .i64 s.2]] w (BoolW w (decide (s ∈ l))) := by
  have H := Lib.hid (h.below (below_alloc w (.cells #[.int .i64 s.1, .int .i64 s.2] 71)) hz)
  have HB := Lib.hid (below_alloc w (.cells #[.int .i64 s.1, .int .i64 s.2] 71))
  obtain ⟨z0, z1⟩ := (Box2.new (w := w) (g := w.heap.size) 71 (.int .i64 s.1) (.int .i64 s.2) rfl).cells
  have hsz : (w.alloc (.cells #[.int .i64 s.1, .int .i64 s.2] 71)).heap.size = w.heap.size + 1 := World.size_alloc _ _
  have CI := Lib.hid (indexV_any _ lo hi a c l s H.out (by rw [hsz]; omega) hl)
  clear h
  go_enter Try.func122, Try.ntmps122
  go_wp2_with fail
  refine CI.out.mono ?_
  rintro e w1 ⟨⟨i, rfl, hi'⟩, hb⟩
  have HB1 := Lib.hid (HB.out.trans (hb.mono (by rw [hsz]; omega)))
  have HI : Hid (decide (s ∈ l) = decide (0 ≤ i)) := Lib.hid (decide_eq_decide.2 hi'.symm)
  clear hi' hb z0 z1
  go_wp2_with fail
  go_ret
  exact ⟨by rw [HI.out]; rfl, HB1.out⟩
theorem wander_any (w : World) (lo hi : Nat) (m : M.Wk) (a b : Option Addr) (c d : Nat) (h : WkIn lo hi w m a c b d) (hz : hi ≤ w.heap.size) (V : M.WV m) (s : M.Vs) (hs : M.VsOk m s) :
    Calls Try.prog 93 #[.agg #[.int .i64 m.size, .slice a m.gates.length c, .slice b m.pulls.length d], .agg #[.int .i64 s.1, .int .i64 s.2]] w (StsPost w (M.wanV m s)) := by
  obtain ⟨i0, hi0, hz0, hz1, hz2⟩ := info_parts infoS
  have HNF := Lib.hid (fun t (ht : M.VsOk m t) W (hq : Below w.heap.size w W) => nodesFrom_any W lo hi m a b c d (h.below hq hz) (by have := hq.size; omega) V t ht)
  have HLN := Lib.hid (fun n => M.wanTo_len V hs n)
  have HFR := Lib.hid (fun n t (ht : t ∈ M.wanTo m s n) => M.free_ok V hs ((M.wan_to m s n).free t ht))
  have HST := Lib.hid (fun n (h : n < (M.wanTo m s n).length) => M.wanTo_step h)
  have HDN := Lib.hid (fun n (h : (M.wanTo m s n).length ≤ n) (h2 : n ≤ 12) => M.wan_done h h2)
  clear h V
  go_enter Try.func93, Try.ntmps93
  go_upto_region 1 with fail
  refine wp_named ?_
  intro W hW
  have hb : Below w.heap.size w W := by rw [hW]; exact (below_alloc _ _).alloc (by simp) _
  have x1 : Box3 W w.heap.size 28 (.int .i64 m.size) (.slice a m.gates.length c) (.slice b m.pulls.length d) := by rw [hW]; exact (Box3.new _ _ _ _ rfl).alloc _
  have z1 : Box2 W (w.heap.size + 1) 71 (.int .i64 s.1) (.int .i64 s.2) := by rw [hW]; exact Box2.new _ _ _ (by simp)
  have hws : W.heap.size = w.heap.size + 1 + 1 := by rw [hW]; simp
  clear hW
  have X0 := Lib.hid (x1.alloc (.cells #[.int .i64 s.1, .int .i64 s.2] 71))
  have Z0 := Lib.hid (z1.alloc (.cells #[.int .i64 s.1, .int .i64 s.2] 71))
  have B0 := Lib.hid (hb.alloc (by omega) (.cells #[.int .i64 s.1, .int .i64 s.2] 71))
  have N0 := Box2.new (w := W) (g := W.heap.size) 71 (.int .i64 s.1) (.int .i64 s.2) rfl
  have o0 : (W.alloc (.cells #[.int .i64 s.1, .int .i64 s.2] 71)).ownsRow (w.heap.size + 1 + 1) 71 2 (.slice (some ⟨W.heap.size, 0, none⟩) 1 1) 1 (M.encSs [s]) :=
    ⟨by simp [M.encSs, M.encS], .inr ⟨W.heap.size, 1, _, rfl, by omega, N0, Nat.le_refl _, by unfold maxLen; omega, by simp, by simp [M.encSs, M.encS]⟩⟩
  have O0 := Lib.hid o0
  obtain ⟨k0, k1⟩ := z1.cells
  clear x1 z1 hb N0 o0 hws
  go_wp2_with fail
  clear k0 k1
  go_loopw [5, 6, 8, 9] (fun v5 v6 _ _ wr => ∃ (n : Nat), n ≤ (M.wanTo m s n).length ∧ v6 = .int .i64 (n : Int) ∧ wr.ownsRow (w.heap.size + 1 + 1) 71 2 v5 (M.wanTo m s n).length (M.encSs (M.wanTo m s n)) ∧ Box3 wr w.heap.size 28 (.int .i64 m.size) (.slice a m.gates.length c) (.slice b m.pulls.length d) ∧ Box2 wr (w.heap.size + 1) 71 (.int .i64 s.1) (.int .i64 s.2) ∧ Below w.heap.size w wr) (fun _ v6 _ _ _ => 13 - (intOf v6).toNat)
  case atStart => exact ⟨0, Nat.zero_le _, rfl, O0.out, X0.out, Z0.out, B0.out⟩
  case round =>
    obtain ⟨n, hnle, rfl, hso, hx, hzb, hlow⟩ := hrel
    obtain ⟨la, lc, hv, hl1, hl2, _⟩ := own_slice hso
    subst hv
    have SO := Lib.hid hso
    have X7 := Lib.hid hx
    have Z7 := Lib.hid hzb
    have LO := Lib.hid hlow
    have hzr := hlow.size
    have hxl := hzb.lt
    have hll := HLN.out n
    have hll1 := HLN.out (n + 1)
    clear hso hx hzb hlow
    by_cases hnl : n < (M.wanTo m s n).length
    · have HS1 := Lib.hid (HST.out n hnl)
      have HOK := Lib.hid (HFR.out n _ (List.getElem_mem hnl))
      obtain ⟨sb, so, rfl, _, hsb2, hcc⟩ := (OwnAt.of_own SO.out).row.at_ (k := n * 2) (by rw [M.encSs_len]; omega)
      have y0 := hcc _ _ (M.encSs_at0 hnl)
      have y1 : wr.cell? ⟨sb, so + n * 2 + 1, none⟩ = _ := hcc _ _ (M.encSs_at1 hnl)
      have HP := Lib.hid (M.addAll_pre (l := M.movesV m ((M.wanTo m s n)[n]'hnl)) (M.wanTo m s n))
      have HLE : Hid (n + 1 ≤ (M.wanTo m s (n + 1)).length) := Lib.hid (by rw [HS1.out]; exact Nat.le_trans hnl (HP.out).length_le)
      have HL0 : Hid (∀ k, (M.addAll (M.wanTo m s n) ((M.movesV m ((M.wanTo m s n)[n]'hnl)).take k)).length ≤ 12) := Lib.hid fun k => by
        have h1 := (M.addAll_pre (l := (M.movesV m ((M.wanTo m s n)[n]'hnl)).drop k) (M.addAll (M.wanTo m s n) ((M.movesV m ((M.wanTo m s n)[n]'hnl)).take k))).length_le
        have h2 : M.addAll (M.addAll (M.wanTo m s n) ((M.movesV m ((M.wanTo m s n)[n]'hnl)).take k)) ((M.movesV m ((M.wanTo m s n)[n]'hnl)).drop k) = M.wanTo m s (n + 1) := by
          rw [HS1.out]
          conv => rhs; rw [← List.take_append_drop k (M.movesV m ((M.wanTo m s n)[n]'hnl))]
          unfold M.addAll
          rw [List.foldl_append]
        rw [h2] at h1
        omega
      clear hcc HP
      have HMV : Hid (M.movesV m ((M.wanTo m s n)[n]'hnl) = (M.goL m ((M.wanTo m s n)[n]'hnl)).map fun y => ((y, ((M.wanTo m s n)[n]'hnl).2) : M.Vs)) := Lib.hid rfl
      have hgl := M.goL_len m ((M.wanTo m s n)[n]'hnl)
      generalize (M.wanTo m s n)[n]'hnl = x at *
      obtain ⟨hxok, hx2⟩ := HOK.out
      have HX2 := Lib.hid hx2
      clear hx2
      have HNX := Lib.hid (HNF.out x hxok)
      obtain ⟨x0, x1, x2⟩ := X7.out.cells
      go_upto_region 5 with fail
      refine wp_region_late2 (fun (wq : World) => wq.cell? ⟨w.heap.size, 0, none⟩ = some (.int .i64 m.size) ∧ wq.cell? ⟨w.heap.size, 1, none⟩ = some (.slice a m.gates.length c) ∧ wq.cell? ⟨w.heap.size, 2, none⟩ = some (.slice b m.pulls.length d) ∧ wq.cell? ⟨sb, so + n * 2, none⟩ = some (.int .i64 x.1) ∧ wq.cell? ⟨sb, so + n * 2 + 1, none⟩ = some (.int .i64 x.2)) [] 8 #[false, false, false, false, false, false, false, false] rfl rfl (by kernel_rfl) ?_
      have hS : (fun (wq : World) => wq.cell? ⟨w.heap.size, 0, none⟩ = some (.int .i64 m.size) ∧ wq.cell? ⟨w.heap.size, 1, none⟩ = some (.slice a m.gates.length c) ∧ wq.cell? ⟨w.heap.size, 2, none⟩ = some (.slice b m.pulls.length d) ∧ wq.cell? ⟨sb, so + n * 2, none⟩ = some (.int .i64 x.1) ∧ wq.cell? ⟨sb, so + n * 2 + 1, none⟩ = some (.int .i64 x.2)) wr.drew := ⟨x0, x1, x2, y0, y1⟩
      refine wpAnyL_take (i := 0) (oi := { dst := some 18, op := Go.Op.load 28 (Go.Operand.tmp 2), type := 28, pos := "l8_levers.go:263", after := #[], guard := none }) (v := ?pv0) rfl (by kernel_rfl) (by kernel_rfl) (by kernel_rfl) (by kernel_rfl) (fun _ _ _ h => h) (Or.inl ⟨by rfl, ?ph0⟩) hS ?pr0
      case ph0 => (intro wS hSw; (try dsimp only at hSw); go_split_ands; go_simp; try with_reducible rfl)
      try simp only [Act.put, List.setIfInBounds_toArray, List.set_cons_zero, List.set_cons_succ]
      refine wpAnyL_take (i := 1) (oi := { dst := some 19, op := Go.Op.move (Go.Operand.tmp 5), type := 92, pos := "l8_levers.go:263", after := #[], guard := none }) (v := ?pv1) rfl (by kernel_rfl) (by kernel_rfl) (by kernel_rfl) (by kernel_rfl) (fun _ _ _ h => h) (Or.inl ⟨by rfl, ?ph1⟩) hS ?pr1
      case ph1 => (intro wS hSw; (try dsimp only at hSw); go_split_ands; go_simp; try with_reducible rfl)
      try simp only [Act.put, List.setIfInBounds_toArray, List.set_cons_zero, List.set_cons_succ]
      refine wpAnyL_take (i := 2) (oi := { dst := some 20, op := Go.Op.move (Go.Operand.tmp 6), type := 3, pos := "l8_levers.go:263", after := #[], guard := none }) (v := ?pv2) rfl (by kernel_rfl) (by kernel_rfl) (by kernel_rfl) (by kernel_rfl) (fun _ _ _ h => h) (Or.inl ⟨by rfl, ?ph2⟩) hS ?pr2
      case ph2 => (intro wS hSw; (try dsimp only at hSw); go_split_ands; go_simp; try with_reducible rfl)
      try simp only [Act.put, List.setIfInBounds_toArray, List.set_cons_zero, List.set_cons_succ]
      refine wpAnyL_take (i := 3) (oi := { dst := some 21, op := Go.Op.indexAddr 92 (Go.Operand.tmp 19) (Go.Operand.tmp 20), type := 0, pos := "l8_levers.go:263", after := #[{ on := 1, ground := Go.Ground.data }, { on := 2, ground := Go.Ground.data }], guard := none }) (v := ?pv3) rfl (by kernel_rfl) (by kernel_rfl) (by kernel_rfl) (by kernel_rfl) (fun _ _ _ h => h) (Or.inl ⟨by rfl, ?ph3⟩) hS ?pr3
      case ph3 => (intro wS hSw; (try dsimp only at hSw); go_split_ands; go_simp; try with_reducible rfl)
      try simp only [Act.put, List.setIfInBounds_toArray, List.set_cons_zero, List.set_cons_succ]
      refine wpAnyL_take (i := 4) (oi := { dst := some 22, op := Go.Op.load 71 (Go.Operand.tmp 21), type := 71, pos := "l8_levers.go:263", after := #[{ on := 3, ground := Go.Ground.data }], guard := none }) (v := ?pv4) rfl (by kernel_rfl) (by kernel_rfl) (by kernel_rfl) (by kernel_rfl) (fun _ _ _ h => h) (Or.inl ⟨by rfl, ?ph4⟩) hS ?pr4
      case ph4 => (intro wS hSw; (try dsimp only at hSw); go_split_ands; go_simp; try with_reducible rfl)
      try simp only [Act.put, List.setIfInBounds_toArray, List.set_cons_zero, List.set_cons_succ]
      refine wpAnyL_take (i := 7) (oi := { dst := some 25, op := Go.Op.move (Go.Operand.const (Go.Value.int Go.IntKind.i64 0)), type := 3, pos := "l8_levers.go:263", after := #[], guard := none }) (v := ?pv7) rfl (by kernel_rfl) (by kernel_rfl) (by kernel_rfl) (by kernel_rfl) (fun _ _ _ h => h) (Or.inl ⟨by rfl, ?ph7⟩) hS ?pr7
      case ph7 => (intro wS hSw; (try dsimp only at hSw); go_split_ands; go_simp; try with_reducible rfl)
      try simp only [Act.put, List.setIfInBounds_toArray, List.set_cons_zero, List.set_cons_succ]
      refine wpAnyL_one (i := 5) (oi := { dst := some 23, op := Go.Op.call { callee := Go.Callee.value (Go.Operand.func 115), args := #[Go.Operand.tmp 18, Go.Operand.tmp 22], argTypes := #[28, 71] }, type := 23, pos := "l8_levers.go:263", after := #[{ on := 0, ground := Go.Ground.data }, { on := 4, ground := Go.Ground.data }], guard := none }) (by kernel_rfl) rfl (fun Kp5 hKp5 => ?_)
      refine step_call (by rfl) 115 #[.agg #[.int .i64 m.size, .slice a m.gates.length c, .slice b m.pulls.length d], .agg #[.int .i64 x.1, .int .i64 x.2]] (by go_simp; try rfl) (HNX.out wr.drew (Below.drawnN LO.out 1)) ?_
      rintro e w5 ⟨v5, rfl, hr5, hb5⟩
      refine ⟨_, rfl, ?_⟩
      have hb5x : Below wr.heap.size wr w5 := (Below.refl wr.heap.size wr).drew.trans hb5
      obtain ⟨⟨gb5, gc5, rfl⟩, hro5⟩ := hr5
      have hS5 : (fun (wq : World) => wq.cell? ⟨w.heap.size, 0, none⟩ = some (.int .i64 m.size) ∧ wq.cell? ⟨w.heap.size, 1, none⟩ = some (.slice a m.gates.length c) ∧ wq.cell? ⟨w.heap.size, 2, none⟩ = some (.slice b m.pulls.length d) ∧ wq.cell? ⟨sb, so + n * 2, none⟩ = some (.int .i64 x.1) ∧ wq.cell? ⟨sb, so + n * 2 + 1, none⟩ = some (.int .i64 x.2)) w5 := ⟨(X7.out.below hb5x).cells.1, (X7.out.below hb5x).cells.2.1, (X7.out.below hb5x).cells.2.2, (hb5x.cell (p := ⟨sb, so + n * 2, none⟩) hsb2).trans y0, (hb5x.cell (p := ⟨sb, so + n * 2 + 1, none⟩) hsb2).trans y1⟩
      refine hKp5 _ _ (fun _ => hS5) ?_
      clear hS
      have hS := hS5
      try simp only [Act.put, List.setIfInBounds_toArray, List.set_cons_zero, List.set_cons_succ]
      refine wpAnyL_take (i := 6) (oi := { dst := some 24, op := Go.Op.call { callee := Go.Callee.builtin Go.Builtin.len, args := #[Go.Operand.tmp 23], argTypes := #[23] }, type := 3, pos := "l8_levers.go:263", after := #[{ on := 5, ground := Go.Ground.data }], guard := none }) (v := ?pv6) rfl (by kernel_rfl) (by kernel_rfl) (by kernel_rfl) (by kernel_rfl) (fun _ _ _ h => h) (Or.inl ⟨by rfl, ?ph6⟩) hS ?pr6
      case ph6 => (intro wS hSw; (try dsimp only at hSw); go_split_ands; go_simp; try with_reducible rfl)
      try simp only [Act.put, List.setIfInBounds_toArray, List.set_cons_zero, List.set_cons_succ]
      refine wpAnyL_done (by kernel_rfl) ?_ _
      have X8 := Lib.hid (X7.out.below hb5x)
      have Z8 := Lib.hid (Z7.out.below hb5x)
      have SO8 := Lib.hid (own_below SO.out hb5x)
      have LO8 := Lib.hid (LO.out.trans (hb5x.mono hzr))
      have hz8 := hb5x.size
      have R8 : Hid (RowIn wr.heap.size w5.heap.size w5 (some ⟨gb5, 0, none⟩) (M.encIs (M.goL m x))) := Lib.hid (OwnAt.of_own hro5).row
      have hzone0 : ∀ z, (Value.slice (some ⟨sb, so, none⟩) (M.wanTo m s n).length lc).ownBlock = some z → z < wr.heap.size := fun z hz => (SO.out.lt z hz).2
      clear hb5 hb5x hro5 hS hS5 x0 x1 x2 y0 y1
      generalize hT : M.goL m x = T at *
      have HT := Lib.hid hT
      clear hT
      generalize M.wanTo m s n = L0 at *
      generalize M.movesV m x = MV at *
      generalize wr.heap.size = g9 at *
      go_wp2_with fail
      go_loopw [5, 8, 9, 25] (fun v5 _ _ v25 wr => ∃ (k : Nat), k ≤ T.length ∧ v25 = .int .i64 (k : Int) ∧ wr.ownsRow (w.heap.size + 1 + 1) 71 2 v5 (M.addAll L0 (MV.take k)).length (M.encSs (M.addAll L0 (MV.take k))) ∧ (∀ z, v5.ownBlock = some z → z < g9 ∨ w5.heap.size ≤ z) ∧ RowIn g9 w5.heap.size wr (some ⟨gb5, 0, none⟩) (M.encIs T) ∧ Box3 wr w.heap.size 28 (.int .i64 m.size) (.slice a m.gates.length c) (.slice b m.pulls.length d) ∧ Box2 wr (w.heap.size + 1) 71 (.int .i64 s.1) (.int .i64 s.2) ∧ Below w.heap.size w wr ∧ w5.heap.size ≤ wr.heap.size) (fun _ _ _ v25 _ => T.length - (intOf v25).toNat)
      case atStart => exact ⟨0, Nat.zero_le _, rfl, SO8.out, fun z hz => .inl (hzone0 z hz), R8.out, X8.out, Z8.out, LO8.out, Nat.le_refl _⟩
      case round =>
        obtain ⟨k, hk, rfl, hso, hzone, hro, hx, hzb, hlow, hsz⟩ := hrel
        obtain ⟨la, lc, hv, hl1, hl2, hoa⟩ := own_slice hso
        subst hv
        have SK := Lib.hid hso
        have OA := Lib.hid hoa.row
        have RK := Lib.hid hro
        have XK := Lib.hid hx
        have ZK := Lib.hid hzb
        have LK := Lib.hid hlow
        have ZO := Lib.hid hzone
        have hzr2 := hlow.size
        have hxl2 := hzb.lt
        have hlk := HL0.out k
        have hlk1 := HL0.out (k + 1)
        clear hso hro hx hzb hlow hzone hoa
        by_cases hkl : k < T.length
        · obtain ⟨tb, tf, htf, ht1, ht2, hcc⟩ := RK.out.at_ (k := k) (by rw [M.encIs_len]; exact hkl)
          injection htf with htf
          injection htf with e1 e2 _
          subst e1; subst e2
          have g0 : wr.cell? ⟨gb5, k, none⟩ = some (.int .i64 T[k]) := by have := hcc _ _ (M.encIs_at hkl); rwa [Nat.zero_add] at this
          have hkm : k < MV.length := by rw [HMV.out, List.length_map]; exact hkl
          have HMK : Hid (MV[k] = (T[k], x.2)) := Lib.hid (by simp only [HMV.out, List.getElem_map])
          have HAD : Hid (M.addAll L0 (MV.take (k + 1)) = M.addV (M.addAll L0 (MV.take k)) (T[k], s.2)) := Lib.hid (by
            rw [List.take_succ_eq_append_getElem hkm, M.addAll_snoc, HMK.out, HX2.out])
          clear hcc
          generalize T[k] = y at *
          generalize M.addAll L0 (MV.take k) = A0 at *
          obtain ⟨k0, k1⟩ := ZK.out.cells
          go_upto_region 9 with fail
          refine wp_named ?_
          intro W1 hW1
          have hb1 : Below wr.heap.size wr W1 := by rw [hW1]; exact below_alloc _ _
          have b11 : Box2 W1 wr.heap.size 71 (.int .i64 y) (.int .i64 s.2) := by rw [hW1]; exact Box2.new _ _ _ rfl
          clear hW1 k0 k1 g0
          have SL := Lib.hid (own_below SK.out hb1)
          have OL := Lib.hid (OA.out.below hb1 (Nat.le_refl _))
          have RL := Lib.hid (RK.out.turned (Turned.of_below hb1 0 0) (by omega) (.inr (Nat.zero_le _)))
          have XL := Lib.hid (XK.out.below hb1)
          have ZL := Lib.hid (ZK.out.below hb1)
          have LL := Lib.hid (LK.out.trans (hb1.mono hzr2))
          have hzl := hb1.size
          have HC := Lib.hid (containsV_any W1 _ _ la lc A0 (y, s.2) OL.out hzl (by omega))
          obtain ⟨k0, k1⟩ := b11.cells
          have BB := Lib.hid b11
          clear b11 hb1
          cases hmem : decide ((y, s.2) ∈ A0) with
          | true =>
            have HA1 : Hid (M.addAll L0 (MV.take (k + 1)) = A0) := Lib.hid (by rw [HAD.out]; exact M.addV_old (of_decide_eq_true hmem))
            have HC1 := HC.out
            rw [hmem] at HC1
            clear hmem
            go_wp2_with fail
            refine HC1.mono ?_
            rintro e w6 ⟨rfl, hb6⟩
            have hz6 := hb6.size
            have S6 := Lib.hid (own_below SL.out hb6)
            have R6 := Lib.hid (RL.out.turned (Turned.of_below hb6 0 0) (by omega) (.inr (Nat.zero_le _)))
            have X6 := Lib.hid (XL.out.below hb6)
            have Z6 := Lib.hid (ZL.out.below hb6)
            have L6 := Lib.hid (LL.out.trans (hb6.mono (by omega)))
            clear hb6 HC1 k0 k1
            go_wp2_with fail
            go_roundw
            case rel => exact ⟨k + 1, by omega, by go_num, by rw [HA1.out]; exact S6.out, ZO.out, R6.out, X6.out, Z6.out, L6.out, by omega⟩
            case measure => simp [intOf]; omega
          | false =>
            have HA1 : Hid (M.addAll L0 (MV.take (k + 1)) = A0 ++ [(y, s.2)]) := Lib.hid (by rw [HAD.out]; exact M.addV_new (of_decide_eq_false hmem))
            have HC1 := HC.out
            rw [hmem] at HC1
            clear hmem
            go_wp2_with fail
            refine HC1.mono ?_
            rintro e w6 ⟨rfl, hb6⟩
            have hz6 := hb6.size
            have S6 := Lib.hid (own_below SL.out hb6)
            have R6 := Lib.hid (RL.out.turned (Turned.of_below hb6 0 0) (by omega) (.inr (Nat.zero_le _)))
            have X6 := Lib.hid (XL.out.below hb6)
            have Z6 := Lib.hid (ZL.out.below hb6)
            have L6 := Lib.hid (LL.out.trans (hb6.mono (by omega)))
            have B6 := BB.out.below hb6
            clear hb6 HC1 k0 k1
            obtain ⟨k0, k1⟩ := B6.cells
            clear B6
            go_wp2_with (at_builtin; refine wpList_append_lies _ rfl _ _ 92 rfl (w.heap.size + 1 + 1) 71 i0 (.agg #[.int .i64 0, .int .i64 0]) 2 16 Try.underlying92 hi0 hz0 hz1 hz2 rfl (by decide) (.slice la A0.length lc) _ _ rfl (S6.out.alloc _) ⟨w6.heap.size, 0, none⟩ 1 1 [.int .i64 y, .int .i64 s.2] rfl rfl (newsS (Box2.new _ _ _ rfl)) (fun x hx => by simp at hx; rcases hx with rfl | rfl <;> rfl) (by decide) (by unfold maxLen; omega) (by omega) (by rw [World.size_alloc]; omega) _ rfl ?_; intro g7 c7 w7 hown' hgrow7 hat7 hlt7)
            go_roundw
            case rel =>
              have hsz7 := hgrow7.size
              rw [World.size_alloc] at hsz7 hat7
              have hbase : ∀ z, (Value.slice la A0.length lc).ownBlock = some z → w.heap.size + 1 + 1 ≤ z := own_base S6.out
              refine ⟨k + 1, by omega, by go_num, ?_, fun z hz => ?_, ?_, ?_, ?_, (L6.out.alloc (by omega) _).grown hgrow7 (by simp; omega) (fun z hz => by have := hbase z hz; omega), by omega⟩
              · rw [HA1.out, M.encSs_append, List.length_append]
                exact hown'
              · injection hz with hz
                subst hz
                rcases hat7 with e | e
                · exact (ZO.out _ e).imp id id
                · exact .inr (show w5.heap.size ≤ g7 by omega)
              · exact (R6.out.turned (Turned.of_below (below_alloc _ _) 0 0) (by omega) (.inr (Nat.zero_le _))).grown hgrow7 (by rw [World.size_alloc]; omega) (fun z hz => by have := ZO.out z hz; omega)
              · exact (X6.out.alloc _).grown hgrow7 (fun e => by have := hbase _ e; omega)
              · exact (Z6.out.alloc _).grown hgrow7 (fun e => by have := hbase _ e; omega)
            case measure => simp [intOf]; omega
        · obtain rfl : k = T.length := by omega
          have HF : Hid (M.wanTo m s (n + 1) = M.addAll L0 (MV.take T.length)) := Lib.hid (by rw [HS1.out, show T.length = MV.length by rw [HMV.out, List.length_map], List.take_length])
          go_wp2_with fail
          go_roundw
          case rel => exact ⟨n + 1, HLE.out, by go_num, by rw [HF.out]; exact SK.out, XK.out, ZK.out, LK.out⟩
          case measure => simp [intOf]; omega
    · have HD := Lib.hid (HDN.out n (by omega) (by omega))
      go_wp2_with fail
      go_ret
      rw [HD.out]
      exact sts_end SO.out (by omega) rfl LO.out
end C
end Go.Proofs.Ytdgfceiobpnchaa
