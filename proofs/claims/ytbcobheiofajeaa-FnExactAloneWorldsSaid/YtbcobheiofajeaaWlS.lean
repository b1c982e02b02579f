/-
  CONTRACTS of spec.l10Worlds, spec.IsWorlds and spec.l10World: they tell whether worlds are valid; what lay in memory stays. Condition: the worlds read so, at most 1048576 mazes, doors, keys and owners in all.
-/
import Derived.Test.YtbcobheiofajeaaWlE
import Derived.Test.YtbcobheiofajeaaSpecMaze
import Derived.Test.YtbcobheiofajeaaWCOwnMaz2
import Derived.Deep.RegionWith
namespace Go.Proofs.Ytbcobheiofajeaa
open Go.RowKit
namespace M
theorem worlds_no1 {m : Wl} (h : inB (m.mazes.length : Int) 1 3 = false) : worldsB m = false := by unfold worldsB; rw [h]; rfl
theorem worlds_no2 {m : Wl} (h : m.owners.length ≠ m.mazes.length) : worldsB m = false := by unfold worldsB; rw [decide_eq_false h]; cases inB (m.mazes.length : Int) 1 3 <;> rfl
theorem worlds_no3 {m : Wl} {i : Nat} (hi : i < m.mazes.length) (h : worldB m i = false) : worldsB m = false := by
  cases hw : worldsB m with
  | false => rfl
  | true =>
    unfold worldsB at hw
    rw [Bool.and_eq_true, Bool.and_eq_true, List.all_eq_true] at hw
    have := hw.2.2 i (List.mem_range.2 hi)
    rw [h] at this; cases this
theorem worlds_yes {m : Wl} (h1 : 1 ≤ m.mazes.length) (h2 : m.mazes.length ≤ 3) (h3 : m.owners.length = m.mazes.length) (h : ∀ i, i < m.mazes.length → worldB m i = true) : worldsB m = true := by
  unfold worldsB inB
  rw [Bool.and_eq_true, Bool.and_eq_true, decide_eq_true_iff, decide_eq_true_iff, List.all_eq_true]
  exact ⟨by omega, h3, fun i hi => h i (List.mem_range.1 hi)⟩
theorem world_no1 {m : Wl} {i : Nat} (h : mazeB (wm m i) = false) : worldB m i = false := by unfold worldB; rw [h]; rfl
theorem world_no2 {m : Wl} {i : Nat} (h : ((wo m i).length : Int) ≠ (wm m i).size) : worldB m i = false := by unfold worldB; rw [decide_eq_false h]; cases mazeB (wm m i) <;> rfl
theorem world_no3 {m : Wl} {i x : Nat} (hx : x < (wo m i).length) (h : inB (wo m i)[x] 0 ((m.mazes.length : Int) - 1) = false) : worldB m i = false := by
  cases hw : worldB m i with
  | false => rfl
  | true =>
    unfold worldB at hw
    rw [Bool.and_eq_true, Bool.and_eq_true, List.all_eq_true] at hw
    have := hw.2.2 _ (List.getElem_mem hx)
    rw [h] at this; cases this
theorem world_yes {m : Wl} {i : Nat} (h1 : mazeB (wm m i) = true) (h2 : ((wo m i).length : Int) = (wm m i).size) (h3 : ∀ x (hx : x < (wo m i).length), inB (wo m i)[x] 0 ((m.mazes.length : Int) - 1) = true) : worldB m i = true := by
  unfold worldB
  rw [Bool.and_eq_true, Bool.and_eq_true, decide_eq_true_iff, List.all_eq_true]
  exact ⟨h1, h2, fun o ho => by
    obtain ⟨x, hx, rfl⟩ := List.mem_iff_getElem.1 ho
    exact h3 x hx⟩
end M
namespace C
set_option linter.unusedVariables false
set_option maxHeartbeats 3200000
set_option maxRecDepth 20000
theorem specWorlds_any (w : World) (lo hi : Nat) (m : M.Wl) (a b : Option Addr) (c d : Nat) (h : WlIn lo hi w m a c b d) (hz : hi ≤ w.heap.size) (h1 : M.szW m ≤ 1048576) :
    Calls Try.prog 57 #[.agg #[.slice a m.mazes.length c, .slice b m.owners.length d]] w (BoolPost w (M.worldsB m)) := by
  obtain ⟨⟨L, O, r⟩, q1, q2, q3, q4⟩ := h
  have hl1 := r.lenM
  have hl2 := r.lenO
  unfold M.szW at h1
  have R := Lib.hid r
  have HL1 := Lib.hid hl1
  have HL2 := Lib.hid hl2
  have hm9 : m.mazes.length ≤ 1048576 := by omega
  have ho9 : m.owners.length ≤ 1048576 := by omega
  have HOL := Lib.hid (fun k (hk : k < O.length) => show O[k].1.length ≤ 1048576 from by
    have := szOs_len (show O[k].1 ∈ m.owners from by rw [r.os]; exact List.mem_map_of_mem (List.getElem_mem hk))
    omega)
  have WN1 := Lib.hid (M.worlds_no1 (m := m))
  have WN2 := Lib.hid (M.worlds_no2 (m := m))
  have WN3 := Lib.hid (fun i => M.worlds_no3 (m := m) (i := i))
  have WY := Lib.hid (M.worlds_yes (m := m))
  have HW1 := Lib.hid (fun i => M.world_no1 (m := m) (i := i))
  have HW2 := Lib.hid (fun i => M.world_no2 (m := m) (i := i))
  have HW3 := Lib.hid (fun i x => M.world_no3 (m := m) (i := i) (x := x))
  have HWY := Lib.hid (fun i => M.world_yes (m := m) (i := i))
  clear r hl1 hl2 h1
  generalize hnm : m.mazes.length = n at *
  generalize hno : m.owners.length = no at *
  clear hnm hno
  by_cases s1 : 1 ≤ n ∧ n ≤ 3
  · obtain ⟨s1, s12⟩ := s1
    by_cases s2 : no = n
    · have HS2 := Lib.hid s2
      subst s2
      have hne : ((no : Int) != (no : Int)) = false := by simp
      go_enter Try.func57, Try.ntmps57
      go_wp2_with fail
      refine (l1In_yes _ _ _ _ (by omega) (by omega)).mono ?_
      rintro e w' ⟨rfl, rfl⟩
      go_wp2_with fail
      go_loopw [3, 4] (fun v3 _ wr => ∃ (k : Nat), k ≤ no ∧ v3 = .int .i64 (k : Int) ∧ (∀ j, j < k → M.worldB m j = true) ∧ Box2 wr w.heap.size 30 (.slice a no c) (.slice b no d) ∧ Below w.heap.size w wr) (fun v3 _ _ => no - (intOf v3).toNat)
      case atStart => exact ⟨0, Nat.zero_le _, rfl, fun j h => by omega, Box2.new _ _ _ rfl, below_alloc _ _⟩
      case round =>
        obtain ⟨k, hk, rfl, hall, hbox, hnx⟩ := hrel
        have HA := Lib.hid hall
        have HN := Lib.hid hnx
        have HBX := Lib.hid hbox
        have hzr := hnx.size
        have hbl := hbox.lt
        obtain ⟨bx0, bx1⟩ := hbox.cells
        clear hall hnx hbox
        by_cases hkn : k < no
        · have hkl : k < L.length := by rw [HL1.out]; exact hkn
          have hkl' : k < O.length := by rw [HL2.out]; exact hkn
          obtain ⟨mb, mo, ea, _, hmb, hc0⟩ := (R.out.mazes.turned (Turned.of_below HN.out 0 0) hz (.inr (Nat.zero_le _))).at_ (k := k * 3) (by rw [encMs_len]; omega)
          obtain ⟨ob, oo, eb, _, hob, hd0⟩ := (R.out.owners.turned (Turned.of_below HN.out 0 0) hz (.inr (Nat.zero_le _))).at_ (k := k) (by rw [encOs_len]; omega)
          have c0 := hc0 _ _ (encMs_at0 hkl)
          have c1 : wr.cell? ⟨mb, mo + k * 3 + 1, none⟩ = some (.slice L[k].2.1 L[k].1.doors.length L[k].2.2.1) := hc0 _ _ (encMs_at1 hkl)
          have c2 : wr.cell? ⟨mb, mo + k * 3 + 2, none⟩ = some (.slice L[k].2.2.2.1 L[k].1.keys.length L[k].2.2.2.2) := hc0 _ _ (encMs_at2 hkl)
          have d0 := hd0 _ _ (encOs_at hkl')
          have hwm : Hid (M.wm m k = L[k].1) := Lib.hid (R.out.wm hkl)
          have hwo : Hid (M.wo m k = O[k].1) := Lib.hid (R.out.wo hkl')
          have CM := Lib.hid (specMaze_any wr.drew lo hi L[k].1 L[k].2.1 L[k].2.2.2.1 L[k].2.2.1 L[k].2.2.2.2 ((R.out.maze _ (List.getElem_mem hkl)).turned (Turned.of_below HN.out.drew 0 0) hz (.inr (Nat.zero_le _))) (show hi ≤ wr.heap.size by omega))
          have ORW := Lib.hid ((R.out.owner _ (List.getElem_mem hkl')).row)
          have holk := HOL.out k hkl'
          subst ea
          subst eb
          clear hc0 hd0
          have FX := Lib.hid (fun W (hB : Below wr.drew.heap.size wr.drew W) => show (W.cell? ⟨w.heap.size, 0, none⟩ = some (.slice (some ⟨mb, mo, none⟩) no c) ∧ W.cell? ⟨w.heap.size, 1, none⟩ = some (.slice (some ⟨ob, oo, none⟩) no d)) ∧ W.cell? ⟨mb, mo + k * 3, none⟩ = some (.int .i64 L[k].1.size) ∧ W.cell? ⟨mb, mo + k * 3 + 1, none⟩ = some (.slice L[k].2.1 L[k].1.doors.length L[k].2.2.1) ∧ W.cell? ⟨mb, mo + k * 3 + 2, none⟩ = some (.slice L[k].2.2.2.1 L[k].1.keys.length L[k].2.2.2.2) ∧ W.cell? ⟨ob, oo + k, none⟩ = some (.slice O[k].2.1 O[k].1.length O[k].2.2) from
            ⟨(Box2.below (w := wr.drew) HBX.out hB).cells, (hB.cell (p := ⟨mb, mo + k * 3, none⟩) (show mb < wr.heap.size by omega)).trans c0, (hB.cell (p := ⟨mb, mo + k * 3 + 1, none⟩) (show mb < wr.heap.size by omega)).trans c1, (hB.cell (p := ⟨mb, mo + k * 3 + 2, none⟩) (show mb < wr.heap.size by omega)).trans c2, (hB.cell (p := ⟨ob, oo + k, none⟩) (show ob < wr.heap.size by omega)).trans d0⟩)
          have HBB := Lib.hid (fun W (hB : Below wr.drew.heap.size wr.drew W) => (Box2.below (w := wr.drew) HBX.out hB))
          generalize L[k].1 = mk at *
          generalize L[k].2.1 = x1 at *
          generalize L[k].2.2.1 = x2 at *
          generalize L[k].2.2.2.1 = x3 at *
          generalize L[k].2.2.2.2 = x4 at *
          generalize O[k].1 = ok at *
          generalize O[k].2.1 = y1 at *
          generalize O[k].2.2 = y2 at *
          cases i0 : M.mazeB mk with
          | false =>
            rw [i0] at CM
            have HF : Hid (M.worldsB m = false) := Lib.hid (WN3.out k hkn (HW1.out k (by rw [hwm.out]; exact i0)))
            clear i0
            go_wp2_with fail
            refine wp_region_late2 (fun (wq : World) => (wq.cell? ⟨w.heap.size, 0, none⟩ = some (.slice (some ⟨mb, mo, none⟩) no c) ∧ wq.cell? ⟨w.heap.size, 1, none⟩ = some (.slice (some ⟨ob, oo, none⟩) no d)) ∧ wq.cell? ⟨mb, mo + k * 3, none⟩ = some (.int .i64 mk.size) ∧ wq.cell? ⟨mb, mo + k * 3 + 1, none⟩ = some (.slice x1 mk.doors.length x2) ∧ wq.cell? ⟨mb, mo + k * 3 + 2, none⟩ = some (.slice x3 mk.keys.length x4) ∧ wq.cell? ⟨ob, oo + k, none⟩ = some (.slice y1 ok.length y2)) [] 22 #[false, false, false, false, false, false, false, false, false, false, false, false, false, false, false, false, false, false, false, false, false, false] rfl rfl (by kernel_rfl) ?_
            have hS : (fun (wq : World) => (wq.cell? ⟨w.heap.size, 0, none⟩ = some (.slice (some ⟨mb, mo, none⟩) no c) ∧ wq.cell? ⟨w.heap.size, 1, none⟩ = some (.slice (some ⟨ob, oo, none⟩) no d)) ∧ wq.cell? ⟨mb, mo + k * 3, none⟩ = some (.int .i64 mk.size) ∧ wq.cell? ⟨mb, mo + k * 3 + 1, none⟩ = some (.slice x1 mk.doors.length x2) ∧ wq.cell? ⟨mb, mo + k * 3 + 2, none⟩ = some (.slice x3 mk.keys.length x4) ∧ wq.cell? ⟨ob, oo + k, none⟩ = some (.slice y1 ok.length y2)) wr.drew := FX.out _ (Below.refl _ _)
            refine wpAnyL_take (i := 0) (oi := { dst := some 26, op := Go.Op.fieldAddr 30 (Go.Operand.tmp 1) 0, type := 0, pos := "l10_worlds.go:11", after := #[], guard := none }) (v := ?fv0) rfl (by kernel_rfl) (by kernel_rfl) (by kernel_rfl) (by kernel_rfl) (fun _ _ _ h => h) (Or.inl ⟨by rfl, ?fh0⟩) hS ?fr0
            case fh0 => (intro wS hSw; (try dsimp only at hSw); go_split_ands; go_simp; try with_reducible rfl)
            try simp only [Act.put, List.setIfInBounds_toArray, List.set_cons_zero, List.set_cons_succ]
            refine wpAnyL_take (i := 1) (oi := { dst := some 27, op := Go.Op.load 28 (Go.Operand.tmp 26), type := 28, pos := "l10_worlds.go:11", after := #[{ on := 0, ground := Go.Ground.data }], guard := none }) (v := ?fv1) rfl (by kernel_rfl) (by kernel_rfl) (by kernel_rfl) (by kernel_rfl) (fun _ _ _ h => h) (Or.inl ⟨by rfl, ?fh1⟩) hS ?fr1
            case fh1 => (intro wS hSw; (try dsimp only at hSw); go_split_ands; go_simp; try with_reducible rfl)
            try simp only [Act.put, List.setIfInBounds_toArray, List.set_cons_zero, List.set_cons_succ]
            refine wpAnyL_take (i := 2) (oi := { dst := some 28, op := Go.Op.move (Go.Operand.tmp 3), type := 3, pos := "l10_worlds.go:11", after := #[], guard := none }) (v := ?fv2) rfl (by kernel_rfl) (by kernel_rfl) (by kernel_rfl) (by kernel_rfl) (fun _ _ _ h => h) (Or.inl ⟨by rfl, ?fh2⟩) hS ?fr2
            case fh2 => (intro wS hSw; (try dsimp only at hSw); go_split_ands; go_simp; try with_reducible rfl)
            try simp only [Act.put, List.setIfInBounds_toArray, List.set_cons_zero, List.set_cons_succ]
            refine wpAnyL_take (i := 3) (oi := { dst := some 29, op := Go.Op.indexAddr 28 (Go.Operand.tmp 27) (Go.Operand.tmp 28), type := 0, pos := "l10_worlds.go:11", after := #[{ on := 1, ground := Go.Ground.data }, { on := 2, ground := Go.Ground.data }], guard := none }) (v := ?fv3) rfl (by kernel_rfl) (by kernel_rfl) (by kernel_rfl) (by kernel_rfl) (fun _ _ _ h => h) (Or.inl ⟨by rfl, ?fh3⟩) hS ?fr3
            case fh3 => (intro wS hSw; (try dsimp only at hSw); go_split_ands; go_simp; try with_reducible rfl)
            try simp only [Act.put, List.setIfInBounds_toArray, List.set_cons_zero, List.set_cons_succ]
            refine wpAnyL_take (i := 4) (oi := { dst := some 30, op := Go.Op.load 55 (Go.Operand.tmp 29), type := 55, pos := "l10_worlds.go:11", after := #[{ on := 3, ground := Go.Ground.data }], guard := none }) (v := ?fv4) rfl (by kernel_rfl) (by kernel_rfl) (by kernel_rfl) (by kernel_rfl) (fun _ _ _ h => h) (Or.inl ⟨by rfl, ?fh4⟩) hS ?fr4
            case fh4 => (intro wS hSw; (try dsimp only at hSw); go_split_ands; go_simp; try with_reducible rfl)
            try simp only [Act.put, List.setIfInBounds_toArray, List.set_cons_zero, List.set_cons_succ]
            refine wpAnyL_one (i := 5) (oi := { dst := some 31, op := Go.Op.call { callee := Go.Callee.value (Go.Operand.func 84), args := #[Go.Operand.tmp 30], argTypes := #[55] }, type := 4, pos := "l10_worlds.go:11", after := #[{ on := 4, ground := Go.Ground.data }], guard := none }) (by kernel_rfl) rfl (fun Kf5 hKf5 => ?_)
            refine step_call (by rfl) 84 #[.agg #[.int .i64 mk.size, .slice x1 mk.doors.length x2, .slice x3 mk.keys.length x4]] (by go_simp; try rfl) (CM.out) ?_
            rintro e w2 ⟨rfl, hb2⟩
            refine ⟨_, rfl, ?_⟩
            have hSs : (fun (wq : World) => (wq.cell? ⟨w.heap.size, 0, none⟩ = some (.slice (some ⟨mb, mo, none⟩) no c) ∧ wq.cell? ⟨w.heap.size, 1, none⟩ = some (.slice (some ⟨ob, oo, none⟩) no d)) ∧ wq.cell? ⟨mb, mo + k * 3, none⟩ = some (.int .i64 mk.size) ∧ wq.cell? ⟨mb, mo + k * 3 + 1, none⟩ = some (.slice x1 mk.doors.length x2) ∧ wq.cell? ⟨mb, mo + k * 3 + 2, none⟩ = some (.slice x3 mk.keys.length x4) ∧ wq.cell? ⟨ob, oo + k, none⟩ = some (.slice y1 ok.length y2)) w2 := FX.out _ hb2
            refine hKf5 _ _ (fun _ => hSs) ?_
            clear hS
            have hS := hSs
            try simp only [Act.put, List.setIfInBounds_toArray, List.set_cons_zero, List.set_cons_succ]
            refine wpAnyL_take (i := 6) (oi := { dst := some 32, op := Go.Op.unOp Go.UnOp.not 4 (Go.Operand.tmp 31), type := 4, pos := "l10_worlds.go:11", after := #[{ on := 5, ground := Go.Ground.data }], guard := none }) (v := ?fv6) rfl (by kernel_rfl) (by kernel_rfl) (by kernel_rfl) (by kernel_rfl) (fun _ _ _ h => h) (Or.inl ⟨by rfl, ?fh6⟩) hS ?fr6
            case fh6 => (intro wS hSw; (try dsimp only at hSw); go_split_ands; go_simp; try with_reducible rfl)
            try simp only [Act.put, List.setIfInBounds_toArray, List.set_cons_zero, List.set_cons_succ]
            refine wpAnyL_take (i := 7) (oi := { dst := some 33, op := Go.Op.move (Go.Operand.tmp 32), type := 4, pos := "l10_worlds.go:11", after := #[{ on := 6, ground := Go.Ground.data }, { on := 5, ground := Go.Ground.chain }], guard := none }) (v := ?fv7) rfl (by kernel_rfl) (by kernel_rfl) (by kernel_rfl) (by kernel_rfl) (fun _ _ _ h => h) (Or.inl ⟨by rfl, ?fh7⟩) hS ?fr7
            case fh7 => (intro wS hSw; (try dsimp only at hSw); go_split_ands; go_simp; try with_reducible rfl)
            try simp only [Act.put, List.setIfInBounds_toArray, List.set_cons_zero, List.set_cons_succ]
            refine wpAnyL_take (i := 8) (oi := { dst := some 34, op := Go.Op.fieldAddr 30 (Go.Operand.tmp 1) 1, type := 0, pos := "l10_worlds.go:11", after := #[{ on := 7, ground := Go.Ground.guard }], guard := some (7, false) }) (v := undef) rfl (by kernel_rfl) (by kernel_rfl) (by kernel_rfl) (by kernel_rfl) (fun _ _ _ h => h) (Or.inr ⟨by rfl, rfl⟩) hS ?fr8
            try simp only [Act.put, List.setIfInBounds_toArray, List.set_cons_zero, List.set_cons_succ]
            refine wpAnyL_take (i := 9) (oi := { dst := some 35, op := Go.Op.load 23 (Go.Operand.tmp 34), type := 23, pos := "l10_worlds.go:11", after := #[{ on := 8, ground := Go.Ground.data }, { on := 7, ground := Go.Ground.guard }], guard := some (7, false) }) (v := undef) rfl (by kernel_rfl) (by kernel_rfl) (by kernel_rfl) (by kernel_rfl) (fun _ _ _ h => h) (Or.inr ⟨by rfl, rfl⟩) hS ?fr9
            try simp only [Act.put, List.setIfInBounds_toArray, List.set_cons_zero, List.set_cons_succ]
            refine wpAnyL_take (i := 10) (oi := { dst := some 36, op := Go.Op.move (Go.Operand.tmp 3), type := 3, pos := "l10_worlds.go:11", after := #[{ on := 7, ground := Go.Ground.guard }], guard := some (7, false) }) (v := undef) rfl (by kernel_rfl) (by kernel_rfl) (by kernel_rfl) (by kernel_rfl) (fun _ _ _ h => h) (Or.inr ⟨by rfl, rfl⟩) hS ?fr10
            try simp only [Act.put, List.setIfInBounds_toArray, List.set_cons_zero, List.set_cons_succ]
            refine wpAnyL_take (i := 11) (oi := { dst := some 37, op := Go.Op.indexAddr 23 (Go.Operand.tmp 35) (Go.Operand.tmp 36), type := 0, pos := "l10_worlds.go:11", after := #[{ on := 9, ground := Go.Ground.data }, { on := 10, ground := Go.Ground.data }, { on := 7, ground := Go.Ground.guard }], guard := some (7, false) }) (v := undef) rfl (by kernel_rfl) (by kernel_rfl) (by kernel_rfl) (by kernel_rfl) (fun _ _ _ h => h) (Or.inr ⟨by rfl, rfl⟩) hS ?fr11
            try simp only [Act.put, List.setIfInBounds_toArray, List.set_cons_zero, List.set_cons_succ]
            refine wpAnyL_take (i := 12) (oi := { dst := some 38, op := Go.Op.load 39 (Go.Operand.tmp 37), type := 39, pos := "l10_worlds.go:11", after := #[{ on := 11, ground := Go.Ground.data }, { on := 7, ground := Go.Ground.guard }], guard := some (7, false) }) (v := undef) rfl (by kernel_rfl) (by kernel_rfl) (by kernel_rfl) (by kernel_rfl) (fun _ _ _ h => h) (Or.inr ⟨by rfl, rfl⟩) hS ?fr12
            try simp only [Act.put, List.setIfInBounds_toArray, List.set_cons_zero, List.set_cons_succ]
            refine wpAnyL_take (i := 13) (oi := { dst := some 39, op := Go.Op.call { callee := Go.Callee.builtin Go.Builtin.len, args := #[Go.Operand.tmp 38], argTypes := #[39] }, type := 3, pos := "l10_worlds.go:11", after := #[{ on := 12, ground := Go.Ground.data }, { on := 7, ground := Go.Ground.guard }], guard := some (7, false) }) (v := undef) rfl (by kernel_rfl) (by kernel_rfl) (by kernel_rfl) (by kernel_rfl) (fun _ _ _ h => h) (Or.inr ⟨by rfl, rfl⟩) hS ?fr13
            try simp only [Act.put, List.setIfInBounds_toArray, List.set_cons_zero, List.set_cons_succ]
            refine wpAnyL_take (i := 14) (oi := { dst := some 40, op := Go.Op.fieldAddr 30 (Go.Operand.tmp 1) 0, type := 0, pos := "l10_worlds.go:11", after := #[{ on := 7, ground := Go.Ground.guard }], guard := some (7, false) }) (v := undef) rfl (by kernel_rfl) (by kernel_rfl) (by kernel_rfl) (by kernel_rfl) (fun _ _ _ h => h) (Or.inr ⟨by rfl, rfl⟩) hS ?fr14
            try simp only [Act.put, List.setIfInBounds_toArray, List.set_cons_zero, List.set_cons_succ]
            refine wpAnyL_take (i := 15) (oi := { dst := some 41, op := Go.Op.load 28 (Go.Operand.tmp 40), type := 28, pos := "l10_worlds.go:11", after := #[{ on := 14, ground := Go.Ground.data }, { on := 7, ground := Go.Ground.guard }], guard := some (7, false) }) (v := undef) rfl (by kernel_rfl) (by kernel_rfl) (by kernel_rfl) (by kernel_rfl) (fun _ _ _ h => h) (Or.inr ⟨by rfl, rfl⟩) hS ?fr15
            try simp only [Act.put, List.setIfInBounds_toArray, List.set_cons_zero, List.set_cons_succ]
            refine wpAnyL_take (i := 16) (oi := { dst := some 42, op := Go.Op.move (Go.Operand.tmp 3), type := 3, pos := "l10_worlds.go:11", after := #[{ on := 7, ground := Go.Ground.guard }], guard := some (7, false) }) (v := undef) rfl (by kernel_rfl) (by kernel_rfl) (by kernel_rfl) (by kernel_rfl) (fun _ _ _ h => h) (Or.inr ⟨by rfl, rfl⟩) hS ?fr16
            try simp only [Act.put, List.setIfInBounds_toArray, List.set_cons_zero, List.set_cons_succ]
            refine wpAnyL_take (i := 17) (oi := { dst := some 43, op := Go.Op.indexAddr 28 (Go.Operand.tmp 41) (Go.Operand.tmp 42), type := 0, pos := "l10_worlds.go:11", after := #[{ on := 15, ground := Go.Ground.data }, { on := 16, ground := Go.Ground.data }, { on := 7, ground := Go.Ground.guard }], guard := some (7, false) }) (v := undef) rfl (by kernel_rfl) (by kernel_rfl) (by kernel_rfl) (by kernel_rfl) (fun _ _ _ h => h) (Or.inr ⟨by rfl, rfl⟩) hS ?fr17
            try simp only [Act.put, List.setIfInBounds_toArray, List.set_cons_zero, List.set_cons_succ]
            refine wpAnyL_take (i := 18) (oi := { dst := some 44, op := Go.Op.fieldAddr 55 (Go.Operand.tmp 43) 0, type := 0, pos := "l10_worlds.go:11", after := #[{ on := 17, ground := Go.Ground.data }, { on := 7, ground := Go.Ground.guard }], guard := some (7, false) }) (v := undef) rfl (by kernel_rfl) (by kernel_rfl) (by kernel_rfl) (by kernel_rfl) (fun _ _ _ h => h) (Or.inr ⟨by rfl, rfl⟩) hS ?fr18
            try simp only [Act.put, List.setIfInBounds_toArray, List.set_cons_zero, List.set_cons_succ]
            refine wpAnyL_take (i := 19) (oi := { dst := some 45, op := Go.Op.load 3 (Go.Operand.tmp 44), type := 3, pos := "l10_worlds.go:11", after := #[{ on := 18, ground := Go.Ground.data }, { on := 7, ground := Go.Ground.guard }], guard := some (7, false) }) (v := undef) rfl (by kernel_rfl) (by kernel_rfl) (by kernel_rfl) (by kernel_rfl) (fun _ _ _ h => h) (Or.inr ⟨by rfl, rfl⟩) hS ?fr19
            try simp only [Act.put, List.setIfInBounds_toArray, List.set_cons_zero, List.set_cons_succ]
            refine wpAnyL_take (i := 20) (oi := { dst := some 46, op := Go.Op.binOp Go.BinOp.neq 3 (Go.Operand.tmp 39) (Go.Operand.tmp 45) 3, type := 4, pos := "l10_worlds.go:11", after := #[{ on := 13, ground := Go.Ground.data }, { on := 19, ground := Go.Ground.data }, { on := 7, ground := Go.Ground.guard }], guard := some (7, false) }) (v := undef) rfl (by kernel_rfl) (by kernel_rfl) (by kernel_rfl) (by kernel_rfl) (fun _ _ _ h => h) (Or.inr ⟨by rfl, rfl⟩) hS ?fr20
            try simp only [Act.put, List.setIfInBounds_toArray, List.set_cons_zero, List.set_cons_succ]
            refine wpAnyL_take (i := 21) (oi := { dst := some 47, op := Go.Op.pick (Go.Operand.tmp 33) (Go.Operand.const (Go.Value.bool true)) (Go.Operand.tmp 46), type := 4, pos := "l10_worlds.go:11", after := #[{ on := 7, ground := Go.Ground.data }, { on := 20, ground := Go.Ground.data }], guard := none }) (v := ?fv21) rfl (by kernel_rfl) (by kernel_rfl) (by kernel_rfl) (by kernel_rfl) (fun _ _ _ h => h) (Or.inl ⟨by rfl, ?fh21⟩) hS ?fr21
            case fh21 => (intro wS hSw; (try dsimp only at hSw); go_split_ands; go_simp; try with_reducible rfl)
            try simp only [Act.put, List.setIfInBounds_toArray, List.set_cons_zero, List.set_cons_succ]
            refine wpAnyL_done (by kernel_rfl) ?_ _
            · skip
              have HN2 := Lib.hid (HN.out.drew.trans (hb2.mono hzr))
              clear hb2
              go_wp2_with fail
              go_ret
              exact ⟨by rw [HF.out]; rfl, HN2.out⟩
          | true =>
            rw [i0] at CM
            have I0 := Lib.hid i0
            clear i0
            by_cases i1 : (ok.length : Int) = mk.size
            · have hne1 : ((ok.length : Int) != mk.size) = false := by simpa using i1
              have I1 := Lib.hid i1
              clear i1
              go_wp2_with fail
              refine wp_region_late2 (fun (wq : World) => (wq.cell? ⟨w.heap.size, 0, none⟩ = some (.slice (some ⟨mb, mo, none⟩) no c) ∧ wq.cell? ⟨w.heap.size, 1, none⟩ = some (.slice (some ⟨ob, oo, none⟩) no d)) ∧ wq.cell? ⟨mb, mo + k * 3, none⟩ = some (.int .i64 mk.size) ∧ wq.cell? ⟨mb, mo + k * 3 + 1, none⟩ = some (.slice x1 mk.doors.length x2) ∧ wq.cell? ⟨mb, mo + k * 3 + 2, none⟩ = some (.slice x3 mk.keys.length x4) ∧ wq.cell? ⟨ob, oo + k, none⟩ = some (.slice y1 ok.length y2)) [] 22 #[false, false, false, false, false, false, false, false, false, false, false, false, false, false, false, false, false, false, false, false, false, false] rfl rfl (by kernel_rfl) ?_
              have hS : (fun (wq : World) => (wq.cell? ⟨w.heap.size, 0, none⟩ = some (.slice (some ⟨mb, mo, none⟩) no c) ∧ wq.cell? ⟨w.heap.size, 1, none⟩ = some (.slice (some ⟨ob, oo, none⟩) no d)) ∧ wq.cell? ⟨mb, mo + k * 3, none⟩ = some (.int .i64 mk.size) ∧ wq.cell? ⟨mb, mo + k * 3 + 1, none⟩ = some (.slice x1 mk.doors.length x2) ∧ wq.cell? ⟨mb, mo + k * 3 + 2, none⟩ = some (.slice x3 mk.keys.length x4) ∧ wq.cell? ⟨ob, oo + k, none⟩ = some (.slice y1 ok.length y2)) wr.drew := FX.out _ (Below.refl _ _)
              refine wpAnyL_take (i := 0) (oi := { dst := some 26, op := Go.Op.fieldAddr 30 (Go.Operand.tmp 1) 0, type := 0, pos := "l10_worlds.go:11", after := #[], guard := none }) (v := ?tv0) rfl (by kernel_rfl) (by kernel_rfl) (by kernel_rfl) (by kernel_rfl) (fun _ _ _ h => h) (Or.inl ⟨by rfl, ?th0⟩) hS ?tr0
              case th0 => (intro wS hSw; (try dsimp only at hSw); go_split_ands; go_simp; try with_reducible rfl)
              try simp only [Act.put, List.setIfInBounds_toArray, List.set_cons_zero, List.set_cons_succ]
              refine wpAnyL_take (i := 1) (oi := { dst := some 27, op := Go.Op.load 28 (Go.Operand.tmp 26), type := 28, pos := "l10_worlds.go:11", after := #[{ on := 0, ground := Go.Ground.data }], guard := none }) (v := ?tv1) rfl (by kernel_rfl) (by kernel_rfl) (by kernel_rfl) (by kernel_rfl) (fun _ _ _ h => h) (Or.inl ⟨by rfl, ?th1⟩) hS ?tr1
              case th1 => (intro wS hSw; (try dsimp only at hSw); go_split_ands; go_simp; try with_reducible rfl)
              try simp only [Act.put, List.setIfInBounds_toArray, List.set_cons_zero, List.set_cons_succ]
              refine wpAnyL_take (i := 2) (oi := { dst := some 28, op := Go.Op.move (Go.Operand.tmp 3), type := 3, pos := "l10_worlds.go:11", after := #[], guard := none }) (v := ?tv2) rfl (by kernel_rfl) (by kernel_rfl) (by kernel_rfl) (by kernel_rfl) (fun _ _ _ h => h) (Or.inl ⟨by rfl, ?th2⟩) hS ?tr2
              case th2 => (intro wS hSw; (try dsimp only at hSw); go_split_ands; go_simp; try with_reducible rfl)
              try simp only [Act.put, List.setIfInBounds_toArray, List.set_cons_zero, List.set_cons_succ]
              refine wpAnyL_take (i := 3) (oi := { dst := some 29, op := Go.Op.indexAddr 28 (Go.Operand.tmp 27) (Go.Operand.tmp 28), type := 0, pos := "l10_worlds.go:11", after := #[{ on := 1, ground := Go.Ground.data }, { on := 2, ground := Go.Ground.data }], guard := none }) (v := ?tv3) rfl (by kernel_rfl) (by kernel_rfl) (by kernel_rfl) (by kernel_rfl) (fun _ _ _ h => h) (Or.inl ⟨by rfl, ?th3⟩) hS ?tr3
              case th3 => (intro wS hSw; (try dsimp only at hSw); go_split_ands; go_simp; try with_reducible rfl)
              try simp only [Act.put, List.setIfInBounds_toArray, List.set_cons_zero, List.set_cons_succ]
              refine wpAnyL_take (i := 4) (oi := { dst := some 30, op := Go.Op.load 55 (Go.Operand.tmp 29), type := 55, pos := "l10_worlds.go:11", after := #[{ on := 3, ground := Go.Ground.data }], guard := none }) (v := ?tv4) rfl (by kernel_rfl) (by kernel_rfl) (by kernel_rfl) (by kernel_rfl) (fun _ _ _ h => h) (Or.inl ⟨by rfl, ?th4⟩) hS ?tr4
              case th4 => (intro wS hSw; (try dsimp only at hSw); go_split_ands; go_simp; try with_reducible rfl)
              try simp only [Act.put, List.setIfInBounds_toArray, List.set_cons_zero, List.set_cons_succ]
              refine wpAnyL_one (i := 5) (oi := { dst := some 31, op := Go.Op.call { callee := Go.Callee.value (Go.Operand.func 84), args := #[Go.Operand.tmp 30], argTypes := #[55] }, type := 4, pos := "l10_worlds.go:11", after := #[{ on := 4, ground := Go.Ground.data }], guard := none }) (by kernel_rfl) rfl (fun Kt5 hKt5 => ?_)
              refine step_call (by rfl) 84 #[.agg #[.int .i64 mk.size, .slice x1 mk.doors.length x2, .slice x3 mk.keys.length x4]] (by go_simp; try rfl) (CM.out) ?_
              rintro e w2 ⟨rfl, hb2⟩
              refine ⟨_, rfl, ?_⟩
              have hSs : (fun (wq : World) => (wq.cell? ⟨w.heap.size, 0, none⟩ = some (.slice (some ⟨mb, mo, none⟩) no c) ∧ wq.cell? ⟨w.heap.size, 1, none⟩ = some (.slice (some ⟨ob, oo, none⟩) no d)) ∧ wq.cell? ⟨mb, mo + k * 3, none⟩ = some (.int .i64 mk.size) ∧ wq.cell? ⟨mb, mo + k * 3 + 1, none⟩ = some (.slice x1 mk.doors.length x2) ∧ wq.cell? ⟨mb, mo + k * 3 + 2, none⟩ = some (.slice x3 mk.keys.length x4) ∧ wq.cell? ⟨ob, oo + k, none⟩ = some (.slice y1 ok.length y2)) w2 := FX.out _ hb2
              refine hKt5 _ _ (fun _ => hSs) ?_
              clear hS
              have hS := hSs
              try simp only [Act.put, List.setIfInBounds_toArray, List.set_cons_zero, List.set_cons_succ]
              refine wpAnyL_take (i := 6) (oi := { dst := some 32, op := Go.Op.unOp Go.UnOp.not 4 (Go.Operand.tmp 31), type := 4, pos := "l10_worlds.go:11", after := #[{ on := 5, ground := Go.Ground.data }], guard := none }) (v := ?tv6) rfl (by kernel_rfl) (by kernel_rfl) (by kernel_rfl) (by kernel_rfl) (fun _ _ _ h => h) (Or.inl ⟨by rfl, ?th6⟩) hS ?tr6
              case th6 => (intro wS hSw; (try dsimp only at hSw); go_split_ands; go_simp; try with_reducible rfl)
              try simp only [Act.put, List.setIfInBounds_toArray, List.set_cons_zero, List.set_cons_succ]
              refine wpAnyL_take (i := 7) (oi := { dst := some 33, op := Go.Op.move (Go.Operand.tmp 32), type := 4, pos := "l10_worlds.go:11", after := #[{ on := 6, ground := Go.Ground.data }, { on := 5, ground := Go.Ground.chain }], guard := none }) (v := ?tv7) rfl (by kernel_rfl) (by kernel_rfl) (by kernel_rfl) (by kernel_rfl) (fun _ _ _ h => h) (Or.inl ⟨by rfl, ?th7⟩) hS ?tr7
              case th7 => (intro wS hSw; (try dsimp only at hSw); go_split_ands; go_simp; try with_reducible rfl)
              try simp only [Act.put, List.setIfInBounds_toArray, List.set_cons_zero, List.set_cons_succ]
              refine wpAnyL_take (i := 8) (oi := { dst := some 34, op := Go.Op.fieldAddr 30 (Go.Operand.tmp 1) 1, type := 0, pos := "l10_worlds.go:11", after := #[{ on := 7, ground := Go.Ground.guard }], guard := some (7, false) }) (v := ?tv8) rfl (by kernel_rfl) (by kernel_rfl) (by kernel_rfl) (by kernel_rfl) (fun _ _ _ h => h) (Or.inl ⟨by rfl, ?th8⟩) hS ?tr8
              case th8 => (intro wS hSw; (try dsimp only at hSw); go_split_ands; go_simp; try with_reducible rfl)
              try simp only [Act.put, List.setIfInBounds_toArray, List.set_cons_zero, List.set_cons_succ]
              refine wpAnyL_take (i := 9) (oi := { dst := some 35, op := Go.Op.load 23 (Go.Operand.tmp 34), type := 23, pos := "l10_worlds.go:11", after := #[{ on := 8, ground := Go.Ground.data }, { on := 7, ground := Go.Ground.guard }], guard := some (7, false) }) (v := ?tv9) rfl (by kernel_rfl) (by kernel_rfl) (by kernel_rfl) (by kernel_rfl) (fun _ _ _ h => h) (Or.inl ⟨by rfl, ?th9⟩) hS ?tr9
              case th9 => (intro wS hSw; (try dsimp only at hSw); go_split_ands; go_simp; try with_reducible rfl)
              try simp only [Act.put, List.setIfInBounds_toArray, List.set_cons_zero, List.set_cons_succ]
              refine wpAnyL_take (i := 10) (oi := { dst := some 36, op := Go.Op.move (Go.Operand.tmp 3), type := 3, pos := "l10_worlds.go:11", after := #[{ on := 7, ground := Go.Ground.guard }], guard := some (7, false) }) (v := ?tv10) rfl (by kernel_rfl) (by kernel_rfl) (by kernel_rfl) (by kernel_rfl) (fun _ _ _ h => h) (Or.inl ⟨by rfl, ?th10⟩) hS ?tr10
              case th10 => (intro wS hSw; (try dsimp only at hSw); go_split_ands; go_simp; try with_reducible rfl)
              try simp only [Act.put, List.setIfInBounds_toArray, List.set_cons_zero, List.set_cons_succ]
              refine wpAnyL_take (i := 11) (oi := { dst := some 37, op := Go.Op.indexAddr 23 (Go.Operand.tmp 35) (Go.Operand.tmp 36), type := 0, pos := "l10_worlds.go:11", after := #[{ on := 9, ground := Go.Ground.data }, { on := 10, ground := Go.Ground.data }, { on := 7, ground := Go.Ground.guard }], guard := some (7, false) }) (v := ?tv11) rfl (by kernel_rfl) (by kernel_rfl) (by kernel_rfl) (by kernel_rfl) (fun _ _ _ h => h) (Or.inl ⟨by rfl, ?th11⟩) hS ?tr11
              case th11 => (intro wS hSw; (try dsimp only at hSw); go_split_ands; go_simp; try with_reducible rfl)
              try simp only [Act.put, List.setIfInBounds_toArray, List.set_cons_zero, List.set_cons_succ]
              refine wpAnyL_take (i := 12) (oi := { dst := some 38, op := Go.Op.load 39 (Go.Operand.tmp 37), type := 39, pos := "l10_worlds.go:11", after := #[{ on := 11, ground := Go.Ground.data }, { on := 7, ground := Go.Ground.guard }], guard := some (7, false) }) (v := ?tv12) rfl (by kernel_rfl) (by kernel_rfl) (by kernel_rfl) (by kernel_rfl) (fun _ _ _ h => h) (Or.inl ⟨by rfl, ?th12⟩) hS ?tr12
              case th12 => (intro wS hSw; (try dsimp only at hSw); go_split_ands; go_simp; try with_reducible rfl)
              try simp only [Act.put, List.setIfInBounds_toArray, List.set_cons_zero, List.set_cons_succ]
              refine wpAnyL_take (i := 13) (oi := { dst := some 39, op := Go.Op.call { callee := Go.Callee.builtin Go.Builtin.len, args := #[Go.Operand.tmp 38], argTypes := #[39] }, type := 3, pos := "l10_worlds.go:11", after := #[{ on := 12, ground := Go.Ground.data }, { on := 7, ground := Go.Ground.guard }], guard := some (7, false) }) (v := ?tv13) rfl (by kernel_rfl) (by kernel_rfl) (by kernel_rfl) (by kernel_rfl) (fun _ _ _ h => h) (Or.inl ⟨by rfl, ?th13⟩) hS ?tr13
              case th13 => (intro wS hSw; (try dsimp only at hSw); go_split_ands; go_simp; try with_reducible rfl)
              try simp only [Act.put, List.setIfInBounds_toArray, List.set_cons_zero, List.set_cons_succ]
              refine wpAnyL_take (i := 14) (oi := { dst := some 40, op := Go.Op.fieldAddr 30 (Go.Operand.tmp 1) 0, type := 0, pos := "l10_worlds.go:11", after := #[{ on := 7, ground := Go.Ground.guard }], guard := some (7, false) }) (v := ?tv14) rfl (by kernel_rfl) (by kernel_rfl) (by kernel_rfl) (by kernel_rfl) (fun _ _ _ h => h) (Or.inl ⟨by rfl, ?th14⟩) hS ?tr14
              case th14 => (intro wS hSw; (try dsimp only at hSw); go_split_ands; go_simp; try with_reducible rfl)
              try simp only [Act.put, List.setIfInBounds_toArray, List.set_cons_zero, List.set_cons_succ]
              refine wpAnyL_take (i := 15) (oi := { dst := some 41, op := Go.Op.load 28 (Go.Operand.tmp 40), type := 28, pos := "l10_worlds.go:11", after := #[{ on := 14, ground := Go.Ground.data }, { on := 7, ground := Go.Ground.guard }], guard := some (7, false) }) (v := ?tv15) rfl (by kernel_rfl) (by kernel_rfl) (by kernel_rfl) (by kernel_rfl) (fun _ _ _ h => h) (Or.inl ⟨by rfl, ?th15⟩) hS ?tr15
              case th15 => (intro wS hSw; (try dsimp only at hSw); go_split_ands; go_simp; try with_reducible rfl)
              try simp only [Act.put, List.setIfInBounds_toArray, List.set_cons_zero, List.set_cons_succ]
              refine wpAnyL_take (i := 16) (oi := { dst := some 42, op := Go.Op.move (Go.Operand.tmp 3), type := 3, pos := "l10_worlds.go:11", after := #[{ on := 7, ground := Go.Ground.guard }], guard := some (7, false) }) (v := ?tv16) rfl (by kernel_rfl) (by kernel_rfl) (by kernel_rfl) (by kernel_rfl) (fun _ _ _ h => h) (Or.inl ⟨by rfl, ?th16⟩) hS ?tr16
              case th16 => (intro wS hSw; (try dsimp only at hSw); go_split_ands; go_simp; try with_reducible rfl)
              try simp only [Act.put, List.setIfInBounds_toArray, List.set_cons_zero, List.set_cons_succ]
              refine wpAnyL_take (i := 17) (oi := { dst := some 43, op := Go.Op.indexAddr 28 (Go.Operand.tmp 41) (Go.Operand.tmp 42), type := 0, pos := "l10_worlds.go:11", after := #[{ on := 15, ground := Go.Ground.data }, { on := 16, ground := Go.Ground.data }, { on := 7, ground := Go.Ground.guard }], guard := some (7, false) }) (v := ?tv17) rfl (by kernel_rfl) (by kernel_rfl) (by kernel_rfl) (by kernel_rfl) (fun _ _ _ h => h) (Or.inl ⟨by rfl, ?th17⟩) hS ?tr17
              case th17 => (intro wS hSw; (try dsimp only at hSw); go_split_ands; go_simp; try with_reducible rfl)
              try simp only [Act.put, List.setIfInBounds_toArray, List.set_cons_zero, List.set_cons_succ]
              refine wpAnyL_take (i := 18) (oi := { dst := some 44, op := Go.Op.fieldAddr 55 (Go.Operand.tmp 43) 0, type := 0, pos := "l10_worlds.go:11", after := #[{ on := 17, ground := Go.Ground.data }, { on := 7, ground := Go.Ground.guard }], guard := some (7, false) }) (v := ?tv18) rfl (by kernel_rfl) (by kernel_rfl) (by kernel_rfl) (by kernel_rfl) (fun _ _ _ h => h) (Or.inl ⟨by rfl, ?th18⟩) hS ?tr18
              case th18 => (intro wS hSw; (try dsimp only at hSw); go_split_ands; go_simp; try with_reducible rfl)
              try simp only [Act.put, List.setIfInBounds_toArray, List.set_cons_zero, List.set_cons_succ]
              refine wpAnyL_take (i := 19) (oi := { dst := some 45, op := Go.Op.load 3 (Go.Operand.tmp 44), type := 3, pos := "l10_worlds.go:11", after := #[{ on := 18, ground := Go.Ground.data }, { on := 7, ground := Go.Ground.guard }], guard := some (7, false) }) (v := ?tv19) rfl (by kernel_rfl) (by kernel_rfl) (by kernel_rfl) (by kernel_rfl) (fun _ _ _ h => h) (Or.inl ⟨by rfl, ?th19⟩) hS ?tr19
              case th19 => (intro wS hSw; (try dsimp only at hSw); go_split_ands; go_simp; try with_reducible rfl)
              try simp only [Act.put, List.setIfInBounds_toArray, List.set_cons_zero, List.set_cons_succ]
              refine wpAnyL_take (i := 20) (oi := { dst := some 46, op := Go.Op.binOp Go.BinOp.neq 3 (Go.Operand.tmp 39) (Go.Operand.tmp 45) 3, type := 4, pos := "l10_worlds.go:11", after := #[{ on := 13, ground := Go.Ground.data }, { on := 19, ground := Go.Ground.data }, { on := 7, ground := Go.Ground.guard }], guard := some (7, false) }) (v := ?tv20) rfl (by kernel_rfl) (by kernel_rfl) (by kernel_rfl) (by kernel_rfl) (fun _ _ _ h => h) (Or.inl ⟨by rfl, ?th20⟩) hS ?tr20
              case th20 => (intro wS hSw; (try dsimp only at hSw); go_split_ands; go_simp; try with_reducible rfl)
              try simp only [Act.put, List.setIfInBounds_toArray, List.set_cons_zero, List.set_cons_succ]
              refine wpAnyL_take (i := 21) (oi := { dst := some 47, op := Go.Op.pick (Go.Operand.tmp 33) (Go.Operand.const (Go.Value.bool true)) (Go.Operand.tmp 46), type := 4, pos := "l10_worlds.go:11", after := #[{ on := 7, ground := Go.Ground.data }, { on := 20, ground := Go.Ground.data }], guard := none }) (v := ?tv21) rfl (by kernel_rfl) (by kernel_rfl) (by kernel_rfl) (by kernel_rfl) (fun _ _ _ h => h) (Or.inl ⟨by rfl, ?th21⟩) hS ?tr21
              case th21 => (intro wS hSw; (try dsimp only at hSw); go_split_ands; go_simp; try with_reducible rfl)
              try simp only [Act.put, List.setIfInBounds_toArray, List.set_cons_zero, List.set_cons_succ]
              refine wpAnyL_done (by kernel_rfl) ?_ _
              · skip
                have HN2 := Lib.hid (HN.out.drew.trans (hb2.mono hzr))
                have HB2 := Lib.hid (HBB.out _ hb2)
                have hz2 := HN2.out.size
                have hzq : wr.heap.size ≤ w2.heap.size := hb2.size
                have ORW2 := Lib.hid (ORW.out.turned (Turned.of_below HN2.out 0 0) hz (.inr (Nat.zero_le _)))
                obtain ⟨⟨z0, z1⟩, z2, z3, z4, z5⟩ := hS
                clear hb2 bx0 bx1 c0 c1 c2 d0 z2 z3 z4 hne1
                go_wp2_with fail
                go_loopw [4] (fun v4 w5 => ∃ (x : Nat), x ≤ ok.length ∧ v4 = .int .i64 (x : Int) ∧ (∀ j (hj : j < ok.length), j < x → M.inB ok[j] 0 ((no : Int) - 1) = true) ∧ ∃ nd, w5 = w2.drewN nd) (fun v4 _ => ok.length - (intOf v4).toNat)
                case atStart => exact ⟨0, Nat.zero_le _, rfl, fun j _ h => by omega, 0, rfl⟩
                case round =>
                  obtain ⟨x, hx, rfl, hal2, nd, rfl⟩ := hrel
                  have HA2 := Lib.hid hal2
                  clear hal2
                  by_cases hxl : x < ok.length
                  · obtain ⟨rb, ro, er, _, hrb, he0⟩ := ORW2.out.at_ (k := x) (by rw [M.encIs_len]; exact hxl)
                    have e0 := he0 _ _ (M.encIs_at hxl)
                    subst er
                    clear he0
                    have hw1 : IntKind.i64.wrap ((no : Int) - 1) = (no : Int) - 1 := IntWalk.i64_in _ (by omega)
                    cases i2 : M.inB ok[x] 0 ((no : Int) - 1) with
                    | false =>
                      have HF : Hid (M.worldsB m = false) := Lib.hid (WN3.out k hkn (HW3.out k x (by rw [hwo.out]; exact hxl) (by simp only [hwo.out]; exact i2)))
                      have CI := Lib.hid (fun W => l1In_any ok[x] 0 ((no : Int) - 1) W)
                      rw [i2] at CI
                      clear i2
                      go_wp2_with fail
                      refine wp_region_late2 (fun (wq : World) => wq.cell? ⟨w.heap.size, 0, none⟩ = some (.slice (some ⟨mb, mo, none⟩) no c) ∧ wq.cell? ⟨w.heap.size, 1, none⟩ = some (.slice (some ⟨ob, oo, none⟩) no d) ∧ wq.cell? ⟨ob, oo + k, none⟩ = some (.slice (some ⟨rb, ro, none⟩) ok.length y2) ∧ wq.cell? ⟨rb, ro + x, none⟩ = some (.int .i64 ok[x])) [] 14 #[false, false, false, false, false, false, false, false, false, false, false, false, false, false] rfl rfl (by kernel_rfl) ?_
                      have hS : (fun (wq : World) => wq.cell? ⟨w.heap.size, 0, none⟩ = some (.slice (some ⟨mb, mo, none⟩) no c) ∧ wq.cell? ⟨w.heap.size, 1, none⟩ = some (.slice (some ⟨ob, oo, none⟩) no d) ∧ wq.cell? ⟨ob, oo + k, none⟩ = some (.slice (some ⟨rb, ro, none⟩) ok.length y2) ∧ wq.cell? ⟨rb, ro + x, none⟩ = some (.int .i64 ok[x])) (w2.drewN nd).drew := ⟨z0, z1, z5, e0⟩
                      refine wpAnyL_take (i := 0) (oi := { dst := some 58, op := Go.Op.fieldAddr 30 (Go.Operand.tmp 1) 1, type := 0, pos := "l10_worlds.go:15", after := #[], guard := none }) (v := ?vv0) rfl (by kernel_rfl) (by kernel_rfl) (by kernel_rfl) (by kernel_rfl) (fun _ _ _ h => h) (Or.inl ⟨by rfl, ?vh0⟩) hS ?vr0
                      case vh0 => (intro wS hSw; (try dsimp only at hSw); go_split_ands; go_simp; try with_reducible rfl)
                      try simp only [Act.put, List.setIfInBounds_toArray, List.set_cons_zero, List.set_cons_succ]
                      refine wpAnyL_take (i := 1) (oi := { dst := some 59, op := Go.Op.load 23 (Go.Operand.tmp 58), type := 23, pos := "l10_worlds.go:15", after := #[{ on := 0, ground := Go.Ground.data }], guard := none }) (v := ?vv1) rfl (by kernel_rfl) (by kernel_rfl) (by kernel_rfl) (by kernel_rfl) (fun _ _ _ h => h) (Or.inl ⟨by rfl, ?vh1⟩) hS ?vr1
                      case vh1 => (intro wS hSw; (try dsimp only at hSw); go_split_ands; go_simp; try with_reducible rfl)
                      try simp only [Act.put, List.setIfInBounds_toArray, List.set_cons_zero, List.set_cons_succ]
                      refine wpAnyL_take (i := 2) (oi := { dst := some 60, op := Go.Op.move (Go.Operand.tmp 3), type := 3, pos := "l10_worlds.go:15", after := #[], guard := none }) (v := ?vv2) rfl (by kernel_rfl) (by kernel_rfl) (by kernel_rfl) (by kernel_rfl) (fun _ _ _ h => h) (Or.inl ⟨by rfl, ?vh2⟩) hS ?vr2
                      case vh2 => (intro wS hSw; (try dsimp only at hSw); go_split_ands; go_simp; try with_reducible rfl)
                      try simp only [Act.put, List.setIfInBounds_toArray, List.set_cons_zero, List.set_cons_succ]
                      refine wpAnyL_take (i := 3) (oi := { dst := some 61, op := Go.Op.indexAddr 23 (Go.Operand.tmp 59) (Go.Operand.tmp 60), type := 0, pos := "l10_worlds.go:15", after := #[{ on := 1, ground := Go.Ground.data }, { on := 2, ground := Go.Ground.data }], guard := none }) (v := ?vv3) rfl (by kernel_rfl) (by kernel_rfl) (by kernel_rfl) (by kernel_rfl) (fun _ _ _ h => h) (Or.inl ⟨by rfl, ?vh3⟩) hS ?vr3
                      case vh3 => (intro wS hSw; (try dsimp only at hSw); go_split_ands; go_simp; try with_reducible rfl)
                      try simp only [Act.put, List.setIfInBounds_toArray, List.set_cons_zero, List.set_cons_succ]
                      refine wpAnyL_take (i := 4) (oi := { dst := some 62, op := Go.Op.load 39 (Go.Operand.tmp 61), type := 39, pos := "l10_worlds.go:15", after := #[{ on := 3, ground := Go.Ground.data }], guard := none }) (v := ?vv4) rfl (by kernel_rfl) (by kernel_rfl) (by kernel_rfl) (by kernel_rfl) (fun _ _ _ h => h) (Or.inl ⟨by rfl, ?vh4⟩) hS ?vr4
                      case vh4 => (intro wS hSw; (try dsimp only at hSw); go_split_ands; go_simp; try with_reducible rfl)
                      try simp only [Act.put, List.setIfInBounds_toArray, List.set_cons_zero, List.set_cons_succ]
                      refine wpAnyL_take (i := 5) (oi := { dst := some 63, op := Go.Op.move (Go.Operand.tmp 4), type := 3, pos := "l10_worlds.go:15", after := #[], guard := none }) (v := ?vv5) rfl (by kernel_rfl) (by kernel_rfl) (by kernel_rfl) (by kernel_rfl) (fun _ _ _ h => h) (Or.inl ⟨by rfl, ?vh5⟩) hS ?vr5
                      case vh5 => (intro wS hSw; (try dsimp only at hSw); go_split_ands; go_simp; try with_reducible rfl)
                      try simp only [Act.put, List.setIfInBounds_toArray, List.set_cons_zero, List.set_cons_succ]
                      refine wpAnyL_take (i := 6) (oi := { dst := some 64, op := Go.Op.indexAddr 39 (Go.Operand.tmp 62) (Go.Operand.tmp 63), type := 0, pos := "l10_worlds.go:15", after := #[{ on := 4, ground := Go.Ground.data }, { on := 5, ground := Go.Ground.data }], guard := none }) (v := ?vv6) rfl (by kernel_rfl) (by kernel_rfl) (by kernel_rfl) (by kernel_rfl) (fun _ _ _ h => h) (Or.inl ⟨by rfl, ?vh6⟩) hS ?vr6
                      case vh6 => (intro wS hSw; (try dsimp only at hSw); go_split_ands; go_simp; try with_reducible rfl)
                      try simp only [Act.put, List.setIfInBounds_toArray, List.set_cons_zero, List.set_cons_succ]
                      refine wpAnyL_take (i := 7) (oi := { dst := some 65, op := Go.Op.load 3 (Go.Operand.tmp 64), type := 3, pos := "l10_worlds.go:15", after := #[{ on := 6, ground := Go.Ground.data }], guard := none }) (v := ?vv7) rfl (by kernel_rfl) (by kernel_rfl) (by kernel_rfl) (by kernel_rfl) (fun _ _ _ h => h) (Or.inl ⟨by rfl, ?vh7⟩) hS ?vr7
                      case vh7 => (intro wS hSw; (try dsimp only at hSw); go_split_ands; go_simp; try with_reducible rfl)
                      try simp only [Act.put, List.setIfInBounds_toArray, List.set_cons_zero, List.set_cons_succ]
                      refine wpAnyL_take (i := 8) (oi := { dst := some 66, op := Go.Op.fieldAddr 30 (Go.Operand.tmp 1) 0, type := 0, pos := "l10_worlds.go:15", after := #[], guard := none }) (v := ?vv8) rfl (by kernel_rfl) (by kernel_rfl) (by kernel_rfl) (by kernel_rfl) (fun _ _ _ h => h) (Or.inl ⟨by rfl, ?vh8⟩) hS ?vr8
                      case vh8 => (intro wS hSw; (try dsimp only at hSw); go_split_ands; go_simp; try with_reducible rfl)
                      try simp only [Act.put, List.setIfInBounds_toArray, List.set_cons_zero, List.set_cons_succ]
                      refine wpAnyL_take (i := 9) (oi := { dst := some 67, op := Go.Op.load 28 (Go.Operand.tmp 66), type := 28, pos := "l10_worlds.go:15", after := #[{ on := 8, ground := Go.Ground.data }], guard := none }) (v := ?vv9) rfl (by kernel_rfl) (by kernel_rfl) (by kernel_rfl) (by kernel_rfl) (fun _ _ _ h => h) (Or.inl ⟨by rfl, ?vh9⟩) hS ?vr9
                      case vh9 => (intro wS hSw; (try dsimp only at hSw); go_split_ands; go_simp; try with_reducible rfl)
                      try simp only [Act.put, List.setIfInBounds_toArray, List.set_cons_zero, List.set_cons_succ]
                      refine wpAnyL_take (i := 10) (oi := { dst := some 68, op := Go.Op.call { callee := Go.Callee.builtin Go.Builtin.len, args := #[Go.Operand.tmp 67], argTypes := #[28] }, type := 3, pos := "l10_worlds.go:15", after := #[{ on := 9, ground := Go.Ground.data }], guard := none }) (v := ?vv10) rfl (by kernel_rfl) (by kernel_rfl) (by kernel_rfl) (by kernel_rfl) (fun _ _ _ h => h) (Or.inl ⟨by rfl, ?vh10⟩) hS ?vr10
                      case vh10 => (intro wS hSw; (try dsimp only at hSw); go_split_ands; go_simp; try with_reducible rfl)
                      try simp only [Act.put, List.setIfInBounds_toArray, List.set_cons_zero, List.set_cons_succ]
                      refine wpAnyL_take (i := 11) (oi := { dst := some 69, op := Go.Op.binOp Go.BinOp.sub 3 (Go.Operand.tmp 68) (Go.Operand.const (Go.Value.int Go.IntKind.i64 1)) 3, type := 3, pos := "l10_worlds.go:15", after := #[{ on := 10, ground := Go.Ground.data }], guard := none }) (v := ?vv11) rfl (by kernel_rfl) (by kernel_rfl) (by kernel_rfl) (by kernel_rfl) (fun _ _ _ h => h) (Or.inl ⟨by rfl, ?vh11⟩) hS ?vr11
                      case vh11 => (intro wS hSw; (try dsimp only at hSw); go_split_ands; go_simp; try with_reducible rfl)
                      try simp only [Act.put, List.setIfInBounds_toArray, List.set_cons_zero, List.set_cons_succ]
                      refine wpAnyL_one (i := 12) (oi := { dst := some 70, op := Go.Op.call { callee := Go.Callee.value (Go.Operand.func 94), args := #[Go.Operand.tmp 65, Go.Operand.const (Go.Value.int Go.IntKind.i64 0), Go.Operand.tmp 69], argTypes := #[3, 3, 3] }, type := 4, pos := "l10_worlds.go:15", after := #[{ on := 7, ground := Go.Ground.data }, { on := 11, ground := Go.Ground.data }], guard := none }) (by kernel_rfl) rfl (fun Kv12 hKv12 => ?_)
                      refine step_call (by rfl) 94 #[.int .i64 ok[x], .int .i64 0, .int .i64 ((no : Int) - 1)] (by go_simp; try rfl) (CI.out _) ?_
                      rintro e w7 ⟨rfl, rfl⟩
                      refine ⟨_, rfl, ?_⟩
                      have hSs := hS
                      refine hKv12 _ _ (fun _ => hSs) ?_
                      clear hS
                      have hS := hSs
                      try simp only [Act.put, List.setIfInBounds_toArray, List.set_cons_zero, List.set_cons_succ]
                      refine wpAnyL_take (i := 13) (oi := { dst := some 71, op := Go.Op.unOp Go.UnOp.not 4 (Go.Operand.tmp 70), type := 4, pos := "l10_worlds.go:15", after := #[{ on := 12, ground := Go.Ground.data }], guard := none }) (v := ?vv13) rfl (by kernel_rfl) (by kernel_rfl) (by kernel_rfl) (by kernel_rfl) (fun _ _ _ h => h) (Or.inl ⟨by rfl, ?vh13⟩) hS ?vr13
                      case vh13 => (intro wS hSw; (try dsimp only at hSw); go_split_ands; go_simp; try with_reducible rfl)
                      try simp only [Act.put, List.setIfInBounds_toArray, List.set_cons_zero, List.set_cons_succ]
                      refine wpAnyL_done (by kernel_rfl) ?_ _
                      · skip
                        go_wp2_with fail
                        go_ret
                        exact ⟨by rw [HF.out]; rfl, Below.drawnN HN2.out (nd + 1)⟩
                    | true =>
                      have I2 := Lib.hid i2
                      have CI := Lib.hid (fun W => l1In_any ok[x] 0 ((no : Int) - 1) W)
                      rw [i2] at CI
                      clear i2
                      go_wp2_with fail
                      refine wp_region_late2 (fun (wq : World) => wq.cell? ⟨w.heap.size, 0, none⟩ = some (.slice (some ⟨mb, mo, none⟩) no c) ∧ wq.cell? ⟨w.heap.size, 1, none⟩ = some (.slice (some ⟨ob, oo, none⟩) no d) ∧ wq.cell? ⟨ob, oo + k, none⟩ = some (.slice (some ⟨rb, ro, none⟩) ok.length y2) ∧ wq.cell? ⟨rb, ro + x, none⟩ = some (.int .i64 ok[x])) [] 14 #[false, false, false, false, false, false, false, false, false, false, false, false, false, false] rfl rfl (by kernel_rfl) ?_
                      have hS : (fun (wq : World) => wq.cell? ⟨w.heap.size, 0, none⟩ = some (.slice (some ⟨mb, mo, none⟩) no c) ∧ wq.cell? ⟨w.heap.size, 1, none⟩ = some (.slice (some ⟨ob, oo, none⟩) no d) ∧ wq.cell? ⟨ob, oo + k, none⟩ = some (.slice (some ⟨rb, ro, none⟩) ok.length y2) ∧ wq.cell? ⟨rb, ro + x, none⟩ = some (.int .i64 ok[x])) (w2.drewN nd).drew := ⟨z0, z1, z5, e0⟩
                      refine wpAnyL_take (i := 0) (oi := { dst := some 58, op := Go.Op.fieldAddr 30 (Go.Operand.tmp 1) 1, type := 0, pos := "l10_worlds.go:15", after := #[], guard := none }) (v := ?xv0) rfl (by kernel_rfl) (by kernel_rfl) (by kernel_rfl) (by kernel_rfl) (fun _ _ _ h => h) (Or.inl ⟨by rfl, ?xh0⟩) hS ?xr0
                      case xh0 => (intro wS hSw; (try dsimp only at hSw); go_split_ands; go_simp; try with_reducible rfl)
                      try simp only [Act.put, List.setIfInBounds_toArray, List.set_cons_zero, List.set_cons_succ]
                      refine wpAnyL_take (i := 1) (oi := { dst := some 59, op := Go.Op.load 23 (Go.Operand.tmp 58), type := 23, pos := "l10_worlds.go:15", after := #[{ on := 0, ground := Go.Ground.data }], guard := none }) (v := ?xv1) rfl (by kernel_rfl) (by kernel_rfl) (by kernel_rfl) (by kernel_rfl) (fun _ _ _ h => h) (Or.inl ⟨by rfl, ?xh1⟩) hS ?xr1
                      case xh1 => (intro wS hSw; (try dsimp only at hSw); go_split_ands; go_simp; try with_reducible rfl)
                      try simp only [Act.put, List.setIfInBounds_toArray, List.set_cons_zero, List.set_cons_succ]
                      refine wpAnyL_take (i := 2) (oi := { dst := some 60, op := Go.Op.move (Go.Operand.tmp 3), type := 3, pos := "l10_worlds.go:15", after := #[], guard := none }) (v := ?xv2) rfl (by kernel_rfl) (by kernel_rfl) (by kernel_rfl) (by kernel_rfl) (fun _ _ _ h => h) (Or.inl ⟨by rfl, ?xh2⟩) hS ?xr2
                      case xh2 => (intro wS hSw; (try dsimp only at hSw); go_split_ands; go_simp; try with_reducible rfl)
                      try simp only [Act.put, List.setIfInBounds_toArray, List.set_cons_zero, List.set_cons_succ]
                      refine wpAnyL_take (i := 3) (oi := { dst := some 61, op := Go.Op.indexAddr 23 (Go.Operand.tmp 59) (Go.Operand.tmp 60), type := 0, pos := "l10_worlds.go:15", after := #[{ on := 1, ground := Go.Ground.data }, { on := 2, ground := Go.Ground.data }], guard := none }) (v := ?xv3) rfl (by kernel_rfl) (by kernel_rfl) (by kernel_rfl) (by kernel_rfl) (fun _ _ _ h => h) (Or.inl ⟨by rfl, ?xh3⟩) hS ?xr3
                      case xh3 => (intro wS hSw; (try dsimp only at hSw); go_split_ands; go_simp; try with_reducible rfl)
                      try simp only [Act.put, List.setIfInBounds_toArray, List.set_cons_zero, List.set_cons_succ]
                      refine wpAnyL_take (i := 4) (oi := { dst := some 62, op := Go.Op.load 39 (Go.Operand.tmp 61), type := 39, pos := "l10_worlds.go:15", after := #[{ on := 3, ground := Go.Ground.data }], guard := none }) (v := ?xv4) rfl (by kernel_rfl) (by kernel_rfl) (by kernel_rfl) (by kernel_rfl) (fun _ _ _ h => h) (Or.inl ⟨by rfl, ?xh4⟩) hS ?xr4
                      case xh4 => (intro wS hSw; (try dsimp only at hSw); go_split_ands; go_simp; try with_reducible rfl)
                      try simp only [Act.put, List.setIfInBounds_toArray, List.set_cons_zero, List.set_cons_succ]
                      refine wpAnyL_take (i := 5) (oi := { dst := some 63, op := Go.Op.move (Go.Operand.tmp 4), type := 3, pos := "l10_worlds.go:15", after := #[], guard := none }) (v := ?xv5) rfl (by kernel_rfl) (by kernel_rfl) (by kernel_rfl) (by kernel_rfl) (fun _ _ _ h => h) (Or.inl ⟨by rfl, ?xh5⟩) hS ?xr5
                      case xh5 => (intro wS hSw; (try dsimp only at hSw); go_split_ands; go_simp; try with_reducible rfl)
                      try simp only [Act.put, List.setIfInBounds_toArray, List.set_cons_zero, List.set_cons_succ]
                      refine wpAnyL_take (i := 6) (oi := { dst := some 64, op := Go.Op.indexAddr 39 (Go.Operand.tmp 62) (Go.Operand.tmp 63), type := 0, pos := "l10_worlds.go:15", after := #[{ on := 4, ground := Go.Ground.data }, { on := 5, ground := Go.Ground.data }], guard := none }) (v := ?xv6) rfl (by kernel_rfl) (by kernel_rfl) (by kernel_rfl) (by kernel_rfl) (fun _ _ _ h => h) (Or.inl ⟨by rfl, ?xh6⟩) hS ?xr6
                      case xh6 => (intro wS hSw; (try dsimp only at hSw); go_split_ands; go_simp; try with_reducible rfl)
                      try simp only [Act.put, List.setIfInBounds_toArray, List.set_cons_zero, List.set_cons_succ]
                      refine wpAnyL_take (i := 7) (oi := { dst := some 65, op := Go.Op.load 3 (Go.Operand.tmp 64), type := 3, pos := "l10_worlds.go:15", after := #[{ on := 6, ground := Go.Ground.data }], guard := none }) (v := ?xv7) rfl (by kernel_rfl) (by kernel_rfl) (by kernel_rfl) (by kernel_rfl) (fun _ _ _ h => h) (Or.inl ⟨by rfl, ?xh7⟩) hS ?xr7
                      case xh7 => (intro wS hSw; (try dsimp only at hSw); go_split_ands; go_simp; try with_reducible rfl)
                      try simp only [Act.put, List.setIfInBounds_toArray, List.set_cons_zero, List.set_cons_succ]
                      refine wpAnyL_take (i := 8) (oi := { dst := some 66, op := Go.Op.fieldAddr 30 (Go.Operand.tmp 1) 0, type := 0, pos := "l10_worlds.go:15", after := #[], guard := none }) (v := ?xv8) rfl (by kernel_rfl) (by kernel_rfl) (by kernel_rfl) (by kernel_rfl) (fun _ _ _ h => h) (Or.inl ⟨by rfl, ?xh8⟩) hS ?xr8
                      case xh8 => (intro wS hSw; (try dsimp only at hSw); go_split_ands; go_simp; try with_reducible rfl)
                      try simp only [Act.put, List.setIfInBounds_toArray, List.set_cons_zero, List.set_cons_succ]
                      refine wpAnyL_take (i := 9) (oi := { dst := some 67, op := Go.Op.load 28 (Go.Operand.tmp 66), type := 28, pos := "l10_worlds.go:15", after := #[{ on := 8, ground := Go.Ground.data }], guard := none }) (v := ?xv9) rfl (by kernel_rfl) (by kernel_rfl) (by kernel_rfl) (by kernel_rfl) (fun _ _ _ h => h) (Or.inl ⟨by rfl, ?xh9⟩) hS ?xr9
                      case xh9 => (intro wS hSw; (try dsimp only at hSw); go_split_ands; go_simp; try with_reducible rfl)
                      try simp only [Act.put, List.setIfInBounds_toArray, List.set_cons_zero, List.set_cons_succ]
                      refine wpAnyL_take (i := 10) (oi := { dst := some 68, op := Go.Op.call { callee := Go.Callee.builtin Go.Builtin.len, args := #[Go.Operand.tmp 67], argTypes := #[28] }, type := 3, pos := "l10_worlds.go:15", after := #[{ on := 9, ground := Go.Ground.data }], guard := none }) (v := ?xv10) rfl (by kernel_rfl) (by kernel_rfl) (by kernel_rfl) (by kernel_rfl) (fun _ _ _ h => h) (Or.inl ⟨by rfl, ?xh10⟩) hS ?xr10
                      case xh10 => (intro wS hSw; (try dsimp only at hSw); go_split_ands; go_simp; try with_reducible rfl)
                      try simp only [Act.put, List.setIfInBounds_toArray, List.set_cons_zero, List.set_cons_succ]
                      refine wpAnyL_take (i := 11) (oi := { dst := some 69, op := Go.Op.binOp Go.BinOp.sub 3 (Go.Operand.tmp 68) (Go.Operand.const (Go.Value.int Go.IntKind.i64 1)) 3, type := 3, pos := "l10_worlds.go:15", after := #[{ on := 10, ground := Go.Ground.data }], guard := none }) (v := ?xv11) rfl (by kernel_rfl) (by kernel_rfl) (by kernel_rfl) (by kernel_rfl) (fun _ _ _ h => h) (Or.inl ⟨by rfl, ?xh11⟩) hS ?xr11
                      case xh11 => (intro wS hSw; (try dsimp only at hSw); go_split_ands; go_simp; try with_reducible rfl)
                      try simp only [Act.put, List.setIfInBounds_toArray, List.set_cons_zero, List.set_cons_succ]
                      refine wpAnyL_one (i := 12) (oi := { dst := some 70, op := Go.Op.call { callee := Go.Callee.value (Go.Operand.func 94), args := #[Go.Operand.tmp 65, Go.Operand.const (Go.Value.int Go.IntKind.i64 0), Go.Operand.tmp 69], argTypes := #[3, 3, 3] }, type := 4, pos := "l10_worlds.go:15", after := #[{ on := 7, ground := Go.Ground.data }, { on := 11, ground := Go.Ground.data }], guard := none }) (by kernel_rfl) rfl (fun Kx12 hKx12 => ?_)
                      refine step_call (by rfl) 94 #[.int .i64 ok[x], .int .i64 0, .int .i64 ((no : Int) - 1)] (by go_simp; try rfl) (CI.out _) ?_
                      rintro e w7 ⟨rfl, rfl⟩
                      refine ⟨_, rfl, ?_⟩
                      have hSs := hS
                      refine hKx12 _ _ (fun _ => hSs) ?_
                      clear hS
                      have hS := hSs
                      try simp only [Act.put, List.setIfInBounds_toArray, List.set_cons_zero, List.set_cons_succ]
                      refine wpAnyL_take (i := 13) (oi := { dst := some 71, op := Go.Op.unOp Go.UnOp.not 4 (Go.Operand.tmp 70), type := 4, pos := "l10_worlds.go:15", after := #[{ on := 12, ground := Go.Ground.data }], guard := none }) (v := ?xv13) rfl (by kernel_rfl) (by kernel_rfl) (by kernel_rfl) (by kernel_rfl) (fun _ _ _ h => h) (Or.inl ⟨by rfl, ?xh13⟩) hS ?xr13
                      case xh13 => (intro wS hSw; (try dsimp only at hSw); go_split_ands; go_simp; try with_reducible rfl)
                      try simp only [Act.put, List.setIfInBounds_toArray, List.set_cons_zero, List.set_cons_succ]
                      refine wpAnyL_done (by kernel_rfl) ?_ _
                      · skip
                        go_wp2_with fail
                        go_roundw
                        case rel => exact ⟨x + 1, by omega, by go_num, fun j hj hjk => by
                            rcases Nat.lt_or_ge j x with h | h
                            · exact HA2.out j hj h
                            · obtain rfl : j = x := by omega
                              exact I2.out, nd + 1, rfl⟩
                        case measure => simp [intOf]; omega
                  · obtain rfl : x = ok.length := by omega
                    have HY : Hid (M.worldB m k = true) := Lib.hid (HWY.out k (by rw [hwm.out]; exact I0.out) (by rw [hwm.out, hwo.out]; exact I1.out) (by simp only [hwo.out]; exact fun j hj => HA2.out j hj hj))
                    go_wp2_with fail
                    go_roundw
                    case rel => exact ⟨k + 1, by omega, by go_num, fun j hjk => by
                        rcases Nat.lt_or_ge j k with h | h
                        · exact HA.out j h
                        · obtain rfl : j = k := by omega
                          exact HY.out, HB2.out, Below.drawnN HN2.out nd⟩
                    case measure => simp [intOf]; omega
            · have hne1 : ((ok.length : Int) != mk.size) = true := by simpa using i1
              have HF : Hid (M.worldsB m = false) := Lib.hid (WN3.out k hkn (HW2.out k (by rw [hwm.out, hwo.out]; exact i1)))
              clear i1
              go_wp2_with fail
              refine wp_region_late2 (fun (wq : World) => (wq.cell? ⟨w.heap.size, 0, none⟩ = some (.slice (some ⟨mb, mo, none⟩) no c) ∧ wq.cell? ⟨w.heap.size, 1, none⟩ = some (.slice (some ⟨ob, oo, none⟩) no d)) ∧ wq.cell? ⟨mb, mo + k * 3, none⟩ = some (.int .i64 mk.size) ∧ wq.cell? ⟨mb, mo + k * 3 + 1, none⟩ = some (.slice x1 mk.doors.length x2) ∧ wq.cell? ⟨mb, mo + k * 3 + 2, none⟩ = some (.slice x3 mk.keys.length x4) ∧ wq.cell? ⟨ob, oo + k, none⟩ = some (.slice y1 ok.length y2)) [] 22 #[false, false, false, false, false, false, false, false, false, false, false, false, false, false, false, false, false, false, false, false, false, false] rfl rfl (by kernel_rfl) ?_
              have hS : (fun (wq : World) => (wq.cell? ⟨w.heap.size, 0, none⟩ = some (.slice (some ⟨mb, mo, none⟩) no c) ∧ wq.cell? ⟨w.heap.size, 1, none⟩ = some (.slice (some ⟨ob, oo, none⟩) no d)) ∧ wq.cell? ⟨mb, mo + k * 3, none⟩ = some (.int .i64 mk.size) ∧ wq.cell? ⟨mb, mo + k * 3 + 1, none⟩ = some (.slice x1 mk.doors.length x2) ∧ wq.cell? ⟨mb, mo + k * 3 + 2, none⟩ = some (.slice x3 mk.keys.length x4) ∧ wq.cell? ⟨ob, oo + k, none⟩ = some (.slice y1 ok.length y2)) wr.drew := FX.out _ (Below.refl _ _)
              refine wpAnyL_take (i := 0) (oi := { dst := some 26, op := Go.Op.fieldAddr 30 (Go.Operand.tmp 1) 0, type := 0, pos := "l10_worlds.go:11", after := #[], guard := none }) (v := ?uv0) rfl (by kernel_rfl) (by kernel_rfl) (by kernel_rfl) (by kernel_rfl) (fun _ _ _ h => h) (Or.inl ⟨by rfl, ?uh0⟩) hS ?ur0
              case uh0 => (intro wS hSw; (try dsimp only at hSw); go_split_ands; go_simp; try with_reducible rfl)
              try simp only [Act.put, List.setIfInBounds_toArray, List.set_cons_zero, List.set_cons_succ]
              refine wpAnyL_take (i := 1) (oi := { dst := some 27, op := Go.Op.load 28 (Go.Operand.tmp 26), type := 28, pos := "l10_worlds.go:11", after := #[{ on := 0, ground := Go.Ground.data }], guard := none }) (v := ?uv1) rfl (by kernel_rfl) (by kernel_rfl) (by kernel_rfl) (by kernel_rfl) (fun _ _ _ h => h) (Or.inl ⟨by rfl, ?uh1⟩) hS ?ur1
              case uh1 => (intro wS hSw; (try dsimp only at hSw); go_split_ands; go_simp; try with_reducible rfl)
              try simp only [Act.put, List.setIfInBounds_toArray, List.set_cons_zero, List.set_cons_succ]
              refine wpAnyL_take (i := 2) (oi := { dst := some 28, op := Go.Op.move (Go.Operand.tmp 3), type := 3, pos := "l10_worlds.go:11", after := #[], guard := none }) (v := ?uv2) rfl (by kernel_rfl) (by kernel_rfl) (by kernel_rfl) (by kernel_rfl) (fun _ _ _ h => h) (Or.inl ⟨by rfl, ?uh2⟩) hS ?ur2
              case uh2 => (intro wS hSw; (try dsimp only at hSw); go_split_ands; go_simp; try with_reducible rfl)
              try simp only [Act.put, List.setIfInBounds_toArray, List.set_cons_zero, List.set_cons_succ]
              refine wpAnyL_take (i := 3) (oi := { dst := some 29, op := Go.Op.indexAddr 28 (Go.Operand.tmp 27) (Go.Operand.tmp 28), type := 0, pos := "l10_worlds.go:11", after := #[{ on := 1, ground := Go.Ground.data }, { on := 2, ground := Go.Ground.data }], guard := none }) (v := ?uv3) rfl (by kernel_rfl) (by kernel_rfl) (by kernel_rfl) (by kernel_rfl) (fun _ _ _ h => h) (Or.inl ⟨by rfl, ?uh3⟩) hS ?ur3
              case uh3 => (intro wS hSw; (try dsimp only at hSw); go_split_ands; go_simp; try with_reducible rfl)
              try simp only [Act.put, List.setIfInBounds_toArray, List.set_cons_zero, List.set_cons_succ]
              refine wpAnyL_take (i := 4) (oi := { dst := some 30, op := Go.Op.load 55 (Go.Operand.tmp 29), type := 55, pos := "l10_worlds.go:11", after := #[{ on := 3, ground := Go.Ground.data }], guard := none }) (v := ?uv4) rfl (by kernel_rfl) (by kernel_rfl) (by kernel_rfl) (by kernel_rfl) (fun _ _ _ h => h) (Or.inl ⟨by rfl, ?uh4⟩) hS ?ur4
              case uh4 => (intro wS hSw; (try dsimp only at hSw); go_split_ands; go_simp; try with_reducible rfl)
              try simp only [Act.put, List.setIfInBounds_toArray, List.set_cons_zero, List.set_cons_succ]
              refine wpAnyL_one (i := 5) (oi := { dst := some 31, op := Go.Op.call { callee := Go.Callee.value (Go.Operand.func 84), args := #[Go.Operand.tmp 30], argTypes := #[55] }, type := 4, pos := "l10_worlds.go:11", after := #[{ on := 4, ground := Go.Ground.data }], guard := none }) (by kernel_rfl) rfl (fun Ku5 hKu5 => ?_)
              refine step_call (by rfl) 84 #[.agg #[.int .i64 mk.size, .slice x1 mk.doors.length x2, .slice x3 mk.keys.length x4]] (by go_simp; try rfl) (CM.out) ?_
              rintro e w2 ⟨rfl, hb2⟩
              refine ⟨_, rfl, ?_⟩
              have hSs : (fun (wq : World) => (wq.cell? ⟨w.heap.size, 0, none⟩ = some (.slice (some ⟨mb, mo, none⟩) no c) ∧ wq.cell? ⟨w.heap.size, 1, none⟩ = some (.slice (some ⟨ob, oo, none⟩) no d)) ∧ wq.cell? ⟨mb, mo + k * 3, none⟩ = some (.int .i64 mk.size) ∧ wq.cell? ⟨mb, mo + k * 3 + 1, none⟩ = some (.slice x1 mk.doors.length x2) ∧ wq.cell? ⟨mb, mo + k * 3 + 2, none⟩ = some (.slice x3 mk.keys.length x4) ∧ wq.cell? ⟨ob, oo + k, none⟩ = some (.slice y1 ok.length y2)) w2 := FX.out _ hb2
              refine hKu5 _ _ (fun _ => hSs) ?_
              clear hS
              have hS := hSs
              try simp only [Act.put, List.setIfInBounds_toArray, List.set_cons_zero, List.set_cons_succ]
              refine wpAnyL_take (i := 6) (oi := { dst := some 32, op := Go.Op.unOp Go.UnOp.not 4 (Go.Operand.tmp 31), type := 4, pos := "l10_worlds.go:11", after := #[{ on := 5, ground := Go.Ground.data }], guard := none }) (v := ?uv6) rfl (by kernel_rfl) (by kernel_rfl) (by kernel_rfl) (by kernel_rfl) (fun _ _ _ h => h) (Or.inl ⟨by rfl, ?uh6⟩) hS ?ur6
              case uh6 => (intro wS hSw; (try dsimp only at hSw); go_split_ands; go_simp; try with_reducible rfl)
              try simp only [Act.put, List.setIfInBounds_toArray, List.set_cons_zero, List.set_cons_succ]
              refine wpAnyL_take (i := 7) (oi := { dst := some 33, op := Go.Op.move (Go.Operand.tmp 32), type := 4, pos := "l10_worlds.go:11", after := #[{ on := 6, ground := Go.Ground.data }, { on := 5, ground := Go.Ground.chain }], guard := none }) (v := ?uv7) rfl (by kernel_rfl) (by kernel_rfl) (by kernel_rfl) (by kernel_rfl) (fun _ _ _ h => h) (Or.inl ⟨by rfl, ?uh7⟩) hS ?ur7
              case uh7 => (intro wS hSw; (try dsimp only at hSw); go_split_ands; go_simp; try with_reducible rfl)
              try simp only [Act.put, List.setIfInBounds_toArray, List.set_cons_zero, List.set_cons_succ]
              refine wpAnyL_take (i := 8) (oi := { dst := some 34, op := Go.Op.fieldAddr 30 (Go.Operand.tmp 1) 1, type := 0, pos := "l10_worlds.go:11", after := #[{ on := 7, ground := Go.Ground.guard }], guard := some (7, false) }) (v := ?uv8) rfl (by kernel_rfl) (by kernel_rfl) (by kernel_rfl) (by kernel_rfl) (fun _ _ _ h => h) (Or.inl ⟨by rfl, ?uh8⟩) hS ?ur8
              case uh8 => (intro wS hSw; (try dsimp only at hSw); go_split_ands; go_simp; try with_reducible rfl)
              try simp only [Act.put, List.setIfInBounds_toArray, List.set_cons_zero, List.set_cons_succ]
              refine wpAnyL_take (i := 9) (oi := { dst := some 35, op := Go.Op.load 23 (Go.Operand.tmp 34), type := 23, pos := "l10_worlds.go:11", after := #[{ on := 8, ground := Go.Ground.data }, { on := 7, ground := Go.Ground.guard }], guard := some (7, false) }) (v := ?uv9) rfl (by kernel_rfl) (by kernel_rfl) (by kernel_rfl) (by kernel_rfl) (fun _ _ _ h => h) (Or.inl ⟨by rfl, ?uh9⟩) hS ?ur9
              case uh9 => (intro wS hSw; (try dsimp only at hSw); go_split_ands; go_simp; try with_reducible rfl)
              try simp only [Act.put, List.setIfInBounds_toArray, List.set_cons_zero, List.set_cons_succ]
              refine wpAnyL_take (i := 10) (oi := { dst := some 36, op := Go.Op.move (Go.Operand.tmp 3), type := 3, pos := "l10_worlds.go:11", after := #[{ on := 7, ground := Go.Ground.guard }], guard := some (7, false) }) (v := ?uv10) rfl (by kernel_rfl) (by kernel_rfl) (by kernel_rfl) (by kernel_rfl) (fun _ _ _ h => h) (Or.inl ⟨by rfl, ?uh10⟩) hS ?ur10
              case uh10 => (intro wS hSw; (try dsimp only at hSw); go_split_ands; go_simp; try with_reducible rfl)
              try simp only [Act.put, List.setIfInBounds_toArray, List.set_cons_zero, List.set_cons_succ]
              refine wpAnyL_take (i := 11) (oi := { dst := some 37, op := Go.Op.indexAddr 23 (Go.Operand.tmp 35) (Go.Operand.tmp 36), type := 0, pos := "l10_worlds.go:11", after := #[{ on := 9, ground := Go.Ground.data }, { on := 10, ground := Go.Ground.data }, { on := 7, ground := Go.Ground.guard }], guard := some (7, false) }) (v := ?uv11) rfl (by kernel_rfl) (by kernel_rfl) (by kernel_rfl) (by kernel_rfl) (fun _ _ _ h => h) (Or.inl ⟨by rfl, ?uh11⟩) hS ?ur11
              case uh11 => (intro wS hSw; (try dsimp only at hSw); go_split_ands; go_simp; try with_reducible rfl)
              try simp only [Act.put, List.setIfInBounds_toArray, List.set_cons_zero, List.set_cons_succ]
              refine wpAnyL_take (i := 12) (oi := { dst := some 38, op := Go.Op.load 39 (Go.Operand.tmp 37), type := 39, pos := "l10_worlds.go:11", after := #[{ on := 11, ground := Go.Ground.data }, { on := 7, ground := Go.Ground.guard }], guard := some (7, false) }) (v := ?uv12) rfl (by kernel_rfl) (by kernel_rfl) (by kernel_rfl) (by kernel_rfl) (fun _ _ _ h => h) (Or.inl ⟨by rfl, ?uh12⟩) hS ?ur12
              case uh12 => (intro wS hSw; (try dsimp only at hSw); go_split_ands; go_simp; try with_reducible rfl)
              try simp only [Act.put, List.setIfInBounds_toArray, List.set_cons_zero, List.set_cons_succ]
              refine wpAnyL_take (i := 13) (oi := { dst := some 39, op := Go.Op.call { callee := Go.Callee.builtin Go.Builtin.len, args := #[Go.Operand.tmp 38], argTypes := #[39] }, type := 3, pos := "l10_worlds.go:11", after := #[{ on := 12, ground := Go.Ground.data }, { on := 7, ground := Go.Ground.guard }], guard := some (7, false) }) (v := ?uv13) rfl (by kernel_rfl) (by kernel_rfl) (by kernel_rfl) (by kernel_rfl) (fun _ _ _ h => h) (Or.inl ⟨by rfl, ?uh13⟩) hS ?ur13
              case uh13 => (intro wS hSw; (try dsimp only at hSw); go_split_ands; go_simp; try with_reducible rfl)
              try simp only [Act.put, List.setIfInBounds_toArray, List.set_cons_zero, List.set_cons_succ]
              refine wpAnyL_take (i := 14) (oi := { dst := some 40, op := Go.Op.fieldAddr 30 (Go.Operand.tmp 1) 0, type := 0, pos := "l10_worlds.go:11", after := #[{ on := 7, ground := Go.Ground.guard }], guard := some (7, false) }) (v := ?uv14) rfl (by kernel_rfl) (by kernel_rfl) (by kernel_rfl) (by kernel_rfl) (fun _ _ _ h => h) (Or.inl ⟨by rfl, ?uh14⟩) hS ?ur14
              case uh14 => (intro wS hSw; (try dsimp only at hSw); go_split_ands; go_simp; try with_reducible rfl)
              try simp only [Act.put, List.setIfInBounds_toArray, List.set_cons_zero, List.set_cons_succ]
              refine wpAnyL_take (i := 15) (oi := { dst := some 41, op := Go.Op.load 28 (Go.Operand.tmp 40), type := 28, pos := "l10_worlds.go:11", after := #[{ on := 14, ground := Go.Ground.data }, { on := 7, ground := Go.Ground.guard }], guard := some (7, false) }) (v := ?uv15) rfl (by kernel_rfl) (by kernel_rfl) (by kernel_rfl) (by kernel_rfl) (fun _ _ _ h => h) (Or.inl ⟨by rfl, ?uh15⟩) hS ?ur15
              case uh15 => (intro wS hSw; (try dsimp only at hSw); go_split_ands; go_simp; try with_reducible rfl)
              try simp only [Act.put, List.setIfInBounds_toArray, List.set_cons_zero, List.set_cons_succ]
              refine wpAnyL_take (i := 16) (oi := { dst := some 42, op := Go.Op.move (Go.Operand.tmp 3), type := 3, pos := "l10_worlds.go:11", after := #[{ on := 7, ground := Go.Ground.guard }], guard := some (7, false) }) (v := ?uv16) rfl (by kernel_rfl) (by kernel_rfl) (by kernel_rfl) (by kernel_rfl) (fun _ _ _ h => h) (Or.inl ⟨by rfl, ?uh16⟩) hS ?ur16
              case uh16 => (intro wS hSw; (try dsimp only at hSw); go_split_ands; go_simp; try with_reducible rfl)
              try simp only [Act.put, List.setIfInBounds_toArray, List.set_cons_zero, List.set_cons_succ]
              refine wpAnyL_take (i := 17) (oi := { dst := some 43, op := Go.Op.indexAddr 28 (Go.Operand.tmp 41) (Go.Operand.tmp 42), type := 0, pos := "l10_worlds.go:11", after := #[{ on := 15, ground := Go.Ground.data }, { on := 16, ground := Go.Ground.data }, { on := 7, ground := Go.Ground.guard }], guard := some (7, false) }) (v := ?uv17) rfl (by kernel_rfl) (by kernel_rfl) (by kernel_rfl) (by kernel_rfl) (fun _ _ _ h => h) (Or.inl ⟨by rfl, ?uh17⟩) hS ?ur17
              case uh17 => (intro wS hSw; (try dsimp only at hSw); go_split_ands; go_simp; try with_reducible rfl)
              try simp only [Act.put, List.setIfInBounds_toArray, List.set_cons_zero, List.set_cons_succ]
              refine wpAnyL_take (i := 18) (oi := { dst := some 44, op := Go.Op.fieldAddr 55 (Go.Operand.tmp 43) 0, type := 0, pos := "l10_worlds.go:11", after := #[{ on := 17, ground := Go.Ground.data }, { on := 7, ground := Go.Ground.guard }], guard := some (7, false) }) (v := ?uv18) rfl (by kernel_rfl) (by kernel_rfl) (by kernel_rfl) (by kernel_rfl) (fun _ _ _ h => h) (Or.inl ⟨by rfl, ?uh18⟩) hS ?ur18
              case uh18 => (intro wS hSw; (try dsimp only at hSw); go_split_ands; go_simp; try with_reducible rfl)
              try simp only [Act.put, List.setIfInBounds_toArray, List.set_cons_zero, List.set_cons_succ]
              refine wpAnyL_take (i := 19) (oi := { dst := some 45, op := Go.Op.load 3 (Go.Operand.tmp 44), type := 3, pos := "l10_worlds.go:11", after := #[{ on := 18, ground := Go.Ground.data }, { on := 7, ground := Go.Ground.guard }], guard := some (7, false) }) (v := ?uv19) rfl (by kernel_rfl) (by kernel_rfl) (by kernel_rfl) (by kernel_rfl) (fun _ _ _ h => h) (Or.inl ⟨by rfl, ?uh19⟩) hS ?ur19
              case uh19 => (intro wS hSw; (try dsimp only at hSw); go_split_ands; go_simp; try with_reducible rfl)
              try simp only [Act.put, List.setIfInBounds_toArray, List.set_cons_zero, List.set_cons_succ]
              refine wpAnyL_take (i := 20) (oi := { dst := some 46, op := Go.Op.binOp Go.BinOp.neq 3 (Go.Operand.tmp 39) (Go.Operand.tmp 45) 3, type := 4, pos := "l10_worlds.go:11", after := #[{ on := 13, ground := Go.Ground.data }, { on := 19, ground := Go.Ground.data }, { on := 7, ground := Go.Ground.guard }], guard := some (7, false) }) (v := ?uv20) rfl (by kernel_rfl) (by kernel_rfl) (by kernel_rfl) (by kernel_rfl) (fun _ _ _ h => h) (Or.inl ⟨by rfl, ?uh20⟩) hS ?ur20
              case uh20 => (intro wS hSw; (try dsimp only at hSw); go_split_ands; go_simp; try with_reducible rfl)
              try simp only [Act.put, List.setIfInBounds_toArray, List.set_cons_zero, List.set_cons_succ]
              refine wpAnyL_take (i := 21) (oi := { dst := some 47, op := Go.Op.pick (Go.Operand.tmp 33) (Go.Operand.const (Go.Value.bool true)) (Go.Operand.tmp 46), type := 4, pos := "l10_worlds.go:11", after := #[{ on := 7, ground := Go.Ground.data }, { on := 20, ground := Go.Ground.data }], guard := none }) (v := ?uv21) rfl (by kernel_rfl) (by kernel_rfl) (by kernel_rfl) (by kernel_rfl) (fun _ _ _ h => h) (Or.inl ⟨by rfl, ?uh21⟩) hS ?ur21
              case uh21 => (intro wS hSw; (try dsimp only at hSw); go_split_ands; go_simp; try with_reducible rfl)
              try simp only [Act.put, List.setIfInBounds_toArray, List.set_cons_zero, List.set_cons_succ]
              refine wpAnyL_done (by kernel_rfl) ?_ _
              · skip
                have HN2 := Lib.hid (HN.out.drew.trans (hb2.mono hzr))
                clear hb2
                go_wp2_with fail
                go_ret
                exact ⟨by rw [HF.out]; rfl, HN2.out⟩
        · obtain rfl : k = no := by omega
          have HF : Hid (M.worldsB m = true) := Lib.hid (WY.out s1 s12 (by first | rfl | trivial) HA.out)
          go_wp2_with fail
          go_ret
          exact ⟨by rw [HF.out]; rfl, HN.out⟩
    · have HF : Hid (M.worldsB m = false) := Lib.hid (WN2.out s2)
      have hne : ((no : Int) != (n : Int)) = true := by simp only [bne_iff_ne, ne_eq]; omega
      clear s2
      go_enter Try.func57, Try.ntmps57
      go_wp2_with fail
      refine (l1In_yes _ _ _ _ (by omega) (by omega)).mono ?_
      rintro e w' ⟨rfl, rfl⟩
      go_wp2_with fail
      go_ret
      exact ⟨by rw [HF.out]; rfl, below_alloc _ _⟩
  · have HF : Hid (M.worldsB m = false) := Lib.hid (WN1.out (by unfold M.inB; exact decide_eq_false (by omega)))
    go_enter Try.func57, Try.ntmps57
    go_wp2_with fail
    refine (l1In_no _ _ _ _ (by omega)).mono ?_
    rintro e w' ⟨rfl, rfl⟩
    go_wp2_with fail
    go_ret
    exact ⟨by rw [HF.out]; rfl, below_alloc _ _⟩
end C
end Go.Proofs.Ytbcobheiofajeaa
