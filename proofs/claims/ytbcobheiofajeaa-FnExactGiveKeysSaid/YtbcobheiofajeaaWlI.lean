/-
  CONTRACTS of impl.IsWorlds, its literal and hasWorld: they tell whether worlds are valid; what lay in memory stays. Condition: the worlds read so, at most 1048576 mazes, doors, keys and owners in all.
-/
import Derived.Test.YtbcobheiofajeaaWlS
import Derived.Test.YtbcobheiofajeaaWBReachMath
namespace Go.Proofs.Ytbcobheiofajeaa
open Go.RowKit
namespace C
set_option linter.unusedVariables false
set_option maxHeartbeats 3200000
set_option maxRecDepth 20000
theorem hasWorld_any (w : World) (a b : Option Addr) (c d n no : Nat) (x : Int) (hn : n ≤ 9223372036854775807) :
    Calls Try.prog 61 #[.agg #[.slice a n c, .slice b no d], .int .i64 x] w (BoolPost w (M.inB x 0 ((n : Int) - 1))) := by
  have hb : M.inB x 0 ((n : Int) - 1) = (decide (0 ≤ x) && decide (x < (n : Int))) := by
    unfold M.inB
    rw [show (decide (0 ≤ x) && decide (x < (n : Int))) = decide (0 ≤ x ∧ x < (n : Int)) by simp]
    congr 1; apply propext; omega
  by_cases h : 0 ≤ x
  · have e : M.inB x 0 ((n : Int) - 1) = decide (x < (n : Int)) := by rw [hb]; simp [h]
    rw [e]
    clear hb e
    go_enter Try.func61, Try.ntmps61
    go_wp2_with fail
    go_ret
    exact ⟨rfl, below_alloc _ _⟩
  · have e : M.inB x 0 ((n : Int) - 1) = false := by rw [hb]; simp [h]
    rw [e]
    clear hb e
    go_enter Try.func61, Try.ntmps61
    go_wp2_with fail
    go_ret
    exact ⟨rfl, below_alloc _ _⟩
theorem elsewhere_any (w : World) (g : Nat) (a b : Option Addr) (c d n no : Nat) (x : Int) (hn : n ≤ 9223372036854775807) (hb : Box2 w g 30 (.slice a n c) (.slice b no d)) :
    Calls Try.prog 60 #[.int .i64 x, .pointer (some ⟨g, 0, none⟩)] w (BoolPost w (!M.inB x 0 ((n : Int) - 1))) := by
  have CH := Lib.hid (fun W => hasWorld_any W a b c d n no x hn)
  obtain ⟨c0, c1⟩ := hb.cells
  have hl := hb.lt
  clear hb
  go_enter Try.func60, Try.ntmps60
  go_wp2_with fail
  refine (CH.out _).mono ?_
  rintro e w' ⟨rfl, hb2⟩
  have HB2 := Lib.hid hb2
  clear hb2
  go_wp2_with fail
  go_ret
  exact ⟨rfl, HB2.out⟩
theorem all_any {l : List Int} {n : Nat} : l.any (fun x => !M.inB x 0 ((n : Int) - 1)) = !(l.all fun o => M.inB o 0 ((n : Int) - 1)) := by
  induction l with
  | nil => rfl
  | cons x l ih => rw [List.any_cons, List.all_cons, ih, Bool.not_and]
theorem world_is {m : M.Wl} {i : Nat} (h1 : M.mazeB (M.wm m i) = true) (h2 : ((M.wo m i).length : Int) = (M.wm m i).size) {r : Bool} (h3 : (M.wo m i).any (fun x => !M.inB x 0 ((m.mazes.length : Int) - 1)) = r) : M.worldB m i = !r := by
  rw [all_any] at h3
  unfold M.worldB
  rw [h1, decide_eq_true h2, ← h3, Bool.not_not]
  rfl
theorem implWorlds_any (w : World) (lo hi : Nat) (m : M.Wl) (a b : Option Addr) (c d : Nat) (h : WlIn lo hi w m a c b d) (hz : hi ≤ w.heap.size) (h1 : M.szW m ≤ 1048576) :
    Calls Try.prog 18 #[.agg #[.slice a m.mazes.length c, .slice b m.owners.length d]] w (BoolPost w (M.worldsB m)) := by
  obtain ⟨⟨L, O, r⟩, q1, q2, q3, q4⟩ := h
  have hl1 := r.lenM
  have hl2 := r.lenO
  unfold M.szW at h1
  have R := Lib.hid r
  have HL1 := Lib.hid hl1
  have HL2 := Lib.hid hl2
  have hm9 : m.mazes.length ≤ 1048576 := by omega
  have ho9 : m.owners.length ≤ 1048576 := by omega
  have HOL := Lib.hid (fun k (hk : k < O.length) => show O[k].1.length ≤ 1048576 from by
    have := szOs_len (show O[k].1 ∈ m.owners from by rw [r.os]; exact List.mem_map_of_mem (List.getElem_mem hk))
    omega)
  have WN1 := Lib.hid (M.worlds_no1 (m := m))
  have WN2 := Lib.hid (M.worlds_no2 (m := m))
  have WN3 := Lib.hid (fun i => M.worlds_no3 (m := m) (i := i))
  have WY := Lib.hid (M.worlds_yes (m := m))
  have HW1 := Lib.hid (fun i => M.world_no1 (m := m) (i := i))
  have HW2 := Lib.hid (fun i => M.world_no2 (m := m) (i := i))
  have HWI := Lib.hid (fun i (h1 : M.mazeB (M.wm m i) = true) (h2 : ((M.wo m i).length : Int) = (M.wm m i).size) (r : Bool) (h3 : (M.wo m i).any (fun x => !M.inB x 0 ((m.mazes.length : Int) - 1)) = r) => world_is h1 h2 h3)
  clear r hl1 hl2 h1
  generalize hnm : m.mazes.length = n at *
  generalize hno : m.owners.length = no at *
  clear hnm hno
  by_cases s1 : 1 ≤ n
  · by_cases s12 : n ≤ 3
    · by_cases s2 : no = n
      · subst s2
        have hne : ((no : Int) != (no : Int)) = false := by simp
        go_enter Try.func18, Try.ntmps18
        go_wp2_with fail
        go_loopw [4, 5, 29] (fun _ _ v29 wr => ∃ (k : Nat), k ≤ no ∧ v29 = .int .i64 (k : Int) ∧ (∀ j, j < k → M.worldB m j = true) ∧ Box2 wr w.heap.size 30 (.slice a no c) (.slice b no d) ∧ Below w.heap.size w wr) (fun _ _ v29 _ => no - (intOf v29).toNat)
        case atStart => exact ⟨0, Nat.zero_le _, rfl, fun j h => by omega, Box2.new _ _ _ rfl, below_alloc _ _⟩
        case round =>
          obtain ⟨k, hk, rfl, hall, hbox, hnx⟩ := hrel
          have HA := Lib.hid hall
          have HN := Lib.hid hnx
          have HBX := Lib.hid hbox
          have hzr := hnx.size
          have hbl := hbox.lt
          obtain ⟨bx0, bx1⟩ := hbox.cells
          clear hall hnx hbox
          by_cases hkn : k < no
          · have hkl : k < L.length := by rw [HL1.out]; exact hkn
            have hkl' : k < O.length := by rw [HL2.out]; exact hkn
            obtain ⟨mb, mo, ea, _, hmb, hc0⟩ := (R.out.mazes.turned (Turned.of_below HN.out 0 0) hz (.inr (Nat.zero_le _))).at_ (k := k * 3) (by rw [encMs_len]; omega)
            obtain ⟨ob, oo, eb, _, hob, hd0⟩ := (R.out.owners.turned (Turned.of_below HN.out 0 0) hz (.inr (Nat.zero_le _))).at_ (k := k) (by rw [encOs_len]; omega)
            have c0 := hc0 _ _ (encMs_at0 hkl)
            have c1 : wr.cell? ⟨mb, mo + k * 3 + 1, none⟩ = some (.slice L[k].2.1 L[k].1.doors.length L[k].2.2.1) := hc0 _ _ (encMs_at1 hkl)
            have c2 : wr.cell? ⟨mb, mo + k * 3 + 2, none⟩ = some (.slice L[k].2.2.2.1 L[k].1.keys.length L[k].2.2.2.2) := hc0 _ _ (encMs_at2 hkl)
            have d0 := hd0 _ _ (encOs_at hkl')
            have hwm : Hid (M.wm m k = L[k].1) := Lib.hid (R.out.wm hkl)
            have hwo : Hid (M.wo m k = O[k].1) := Lib.hid (R.out.wo hkl')
            have CM := Lib.hid (fun W (hB : Below w.heap.size w W) => isMaze_any W lo hi L[k].1 L[k].2.1 L[k].2.2.2.1 L[k].2.2.1 L[k].2.2.2.2 ((R.out.maze _ (List.getElem_mem hkl)).turned (Turned.of_below hB 0 0) hz (.inr (Nat.zero_le _))) (Nat.le_trans hz hB.size))
            have hpred : ∀ (W : World), Box2 W w.heap.size 30 (.slice a no c) (.slice b no d) → PredOk 60 #[.pointer (some ⟨w.heap.size, 0, none⟩)] (fun x => !M.inB x 0 ((no : Int) - 1)) W := fun W hb W' x hB => elsewhere_any W' w.heap.size a b c d no no x (by omega) (hb.below hB)
            have CC := Lib.hid (fun W (hB : Below w.heap.size w W) (hb : Box2 W w.heap.size 30 (.slice a no c) (.slice b no d)) => containsFunc_any 60 #[.pointer (some ⟨w.heap.size, 0, none⟩)] (fun x => !M.inB x 0 ((no : Int) - 1)) (enters_of Try.func60 (by kernel_rfl) rfl) W lo hi O[k].2.1 O[k].2.2 O[k].1 (hpred W hb) ((R.out.owner _ (List.getElem_mem hkl')).turned (Turned.of_below hB 0 0) hz (.inr (Nat.zero_le _))).row (Nat.le_trans hz hB.size) (HOL.out k hkl'))
            have hmb2 : mb < w.heap.size := by omega
            have hob2 : ob < w.heap.size := by omega
            subst ea
            subst eb
            clear hc0 hd0 hpred
            generalize L[k].1 = mk at *
            generalize L[k].2.1 = x1 at *
            generalize L[k].2.2.1 = x2 at *
            generalize L[k].2.2.2.1 = x3 at *
            generalize L[k].2.2.2.2 = x4 at *
            generalize O[k].1 = ok at *
            generalize O[k].2.1 = y1 at *
            generalize O[k].2.2 = y2 at *
            go_upto_region 7 with fail
            refine wp_named ?_
            intro W hW
            have hbW : Below wr.heap.size wr W := by
              rw [hW]
              refine ⟨rfl, rfl, rfl, by simp, fun i hi => ?_⟩
              exact Below.heap_alloc wr _ i hi
            have y3 : Box3 W wr.heap.size 55 (.int .i64 mk.size) (.slice x1 mk.doors.length x2) (.slice x3 mk.keys.length x4) := by rw [hW]; exact Box3.new _ _ _ _ rfl
            clear hW
            have HBW := Lib.hid (HN.out.trans (hbW.mono hzr))
            have hbox2 := HBX.out.below hbW
            have d0' : W.cell? ⟨ob, oo + k, none⟩ = some (.slice y1 ok.length y2) := (hbW.cell (p := ⟨ob, oo + k, none⟩) (show ob < wr.heap.size by omega)).trans d0
            clear bx0 bx1 c0 c1 c2 d0 hbW
            have FX := Lib.hid (fun W2 (hB : Below W.drew.heap.size W.drew W2) => show (W2.cell? ⟨w.heap.size, 0, none⟩ = some (.slice (some ⟨mb, mo, none⟩) no c) ∧ W2.cell? ⟨w.heap.size, 1, none⟩ = some (.slice (some ⟨ob, oo, none⟩) no d)) ∧ (W2.cell? ⟨wr.heap.size, 0, none⟩ = some (.int .i64 mk.size) ∧ W2.cell? ⟨wr.heap.size, 1, none⟩ = some (.slice x1 mk.doors.length x2) ∧ W2.cell? ⟨wr.heap.size, 2, none⟩ = some (.slice x3 mk.keys.length x4)) ∧ W2.cell? ⟨ob, oo + k, none⟩ = some (.slice y1 ok.length y2) from
              ⟨(Box2.below (w := W.drew) hbox2 hB).cells, (Box3.below (w := W.drew) y3 hB).cells, (hB.cell (p := ⟨ob, oo + k, none⟩) (show ob < W.heap.size by have := HBW.out.size; omega)).trans d0'⟩)
            have HBB := Lib.hid (fun W2 (hB : Below W.drew.heap.size W.drew W2) => (Box2.below (w := W.drew) hbox2 hB))
            have hzW := HBW.out.size
            clear hbox2 y3 d0'
            cases i0 : M.mazeB mk with
            | false =>
              have CM2 := CM.out _ HBW.out.drew
              rw [i0] at CM2
              have HF : Hid (M.worldsB m = false) := Lib.hid (WN3.out k hkn (HW1.out k (by rw [hwm.out]; exact i0)))
              clear i0 CM CC
              refine wp_region_late2 (fun (W2 : World) => (W2.cell? ⟨w.heap.size, 0, none⟩ = some (.slice (some ⟨mb, mo, none⟩) no c) ∧ W2.cell? ⟨w.heap.size, 1, none⟩ = some (.slice (some ⟨ob, oo, none⟩) no d)) ∧ (W2.cell? ⟨wr.heap.size, 0, none⟩ = some (.int .i64 mk.size) ∧ W2.cell? ⟨wr.heap.size, 1, none⟩ = some (.slice x1 mk.doors.length x2) ∧ W2.cell? ⟨wr.heap.size, 2, none⟩ = some (.slice x3 mk.keys.length x4)) ∧ W2.cell? ⟨ob, oo + k, none⟩ = some (.slice y1 ok.length y2)) [] 23 #[false, false, false, false, false, false, false, false, false, false, false, false, false, false, false, false, false, false, false, false, false, false, false] rfl rfl (by kernel_rfl) ?_
              have hS : (fun (W2 : World) => (W2.cell? ⟨w.heap.size, 0, none⟩ = some (.slice (some ⟨mb, mo, none⟩) no c) ∧ W2.cell? ⟨w.heap.size, 1, none⟩ = some (.slice (some ⟨ob, oo, none⟩) no d)) ∧ (W2.cell? ⟨wr.heap.size, 0, none⟩ = some (.int .i64 mk.size) ∧ W2.cell? ⟨wr.heap.size, 1, none⟩ = some (.slice x1 mk.doors.length x2) ∧ W2.cell? ⟨wr.heap.size, 2, none⟩ = some (.slice x3 mk.keys.length x4)) ∧ W2.cell? ⟨ob, oo + k, none⟩ = some (.slice y1 ok.length y2)) W.drew := FX.out _ (Below.refl _ _)
              refine wpAnyL_take (i := 0) (oi := { dst := some 34, op := Go.Op.load 55 (Go.Operand.tmp 5), type := 55, pos := "l10_worlds.go:26", after := #[], guard := none }) (v := ?fv0) rfl (by kernel_rfl) (by kernel_rfl) (by kernel_rfl) (by kernel_rfl) (fun _ _ _ h => h) (Or.inl ⟨by rfl, ?fh0⟩) hS ?fr0
              case fh0 => (intro wS hSw; (try dsimp only at hSw); go_split_ands; go_simp; try with_reducible rfl)
              try simp only [Act.put, List.setIfInBounds_toArray, List.set_cons_zero, List.set_cons_succ]
              refine wpAnyL_one (i := 1) (oi := { dst := some 35, op := Go.Op.call { callee := Go.Callee.value (Go.Operand.func 62), args := #[Go.Operand.tmp 34], argTypes := #[55] }, type := 4, pos := "l10_worlds.go:26", after := #[{ on := 0, ground := Go.Ground.data }], guard := none }) (by kernel_rfl) rfl (fun Kf1 hKf1 => ?_)
              refine step_call (by rfl) 62 #[.agg #[.int .i64 mk.size, .slice x1 mk.doors.length x2, .slice x3 mk.keys.length x4]] (by go_simp; try rfl) (CM2) ?_
              rintro e w2 ⟨rfl, hb2⟩
              refine ⟨_, rfl, ?_⟩
              have hSs : (fun (W2 : World) => (W2.cell? ⟨w.heap.size, 0, none⟩ = some (.slice (some ⟨mb, mo, none⟩) no c) ∧ W2.cell? ⟨w.heap.size, 1, none⟩ = some (.slice (some ⟨ob, oo, none⟩) no d)) ∧ (W2.cell? ⟨wr.heap.size, 0, none⟩ = some (.int .i64 mk.size) ∧ W2.cell? ⟨wr.heap.size, 1, none⟩ = some (.slice x1 mk.doors.length x2) ∧ W2.cell? ⟨wr.heap.size, 2, none⟩ = some (.slice x3 mk.keys.length x4)) ∧ W2.cell? ⟨ob, oo + k, none⟩ = some (.slice y1 ok.length y2)) w2 := FX.out _ hb2
              refine hKf1 _ _ (fun _ => hSs) ?_
              clear hS
              have hS := hSs
              try simp only [Act.put, List.setIfInBounds_toArray, List.set_cons_zero, List.set_cons_succ]
              refine wpAnyL_take (i := 2) (oi := { dst := some 36, op := Go.Op.unOp Go.UnOp.not 4 (Go.Operand.tmp 35), type := 4, pos := "l10_worlds.go:26", after := #[{ on := 1, ground := Go.Ground.data }], guard := none }) (v := ?fv2) rfl (by kernel_rfl) (by kernel_rfl) (by kernel_rfl) (by kernel_rfl) (fun _ _ _ h => h) (Or.inl ⟨by rfl, ?fh2⟩) hS ?fr2
              case fh2 => (intro wS hSw; (try dsimp only at hSw); go_split_ands; go_simp; try with_reducible rfl)
              try simp only [Act.put, List.setIfInBounds_toArray, List.set_cons_zero, List.set_cons_succ]
              refine wpAnyL_take (i := 3) (oi := { dst := some 37, op := Go.Op.move (Go.Operand.tmp 36), type := 4, pos := "l10_worlds.go:26", after := #[{ on := 2, ground := Go.Ground.data }, { on := 1, ground := Go.Ground.chain }], guard := none }) (v := ?fv3) rfl (by kernel_rfl) (by kernel_rfl) (by kernel_rfl) (by kernel_rfl) (fun _ _ _ h => h) (Or.inl ⟨by rfl, ?fh3⟩) hS ?fr3
              case fh3 => (intro wS hSw; (try dsimp only at hSw); go_split_ands; go_simp; try with_reducible rfl)
              try simp only [Act.put, List.setIfInBounds_toArray, List.set_cons_zero, List.set_cons_succ]
              refine wpAnyL_take (i := 4) (oi := { dst := some 38, op := Go.Op.fieldAddr 30 (Go.Operand.tmp 1) 1, type := 0, pos := "l10_worlds.go:26", after := #[{ on := 3, ground := Go.Ground.guard }], guard := some (3, false) }) (v := undef) rfl (by kernel_rfl) (by kernel_rfl) (by kernel_rfl) (by kernel_rfl) (fun _ _ _ h => h) (Or.inr ⟨by rfl, rfl⟩) hS ?fr4
              try simp only [Act.put, List.setIfInBounds_toArray, List.set_cons_zero, List.set_cons_succ]
              refine wpAnyL_take (i := 5) (oi := { dst := some 39, op := Go.Op.load 23 (Go.Operand.tmp 38), type := 23, pos := "l10_worlds.go:26", after := #[{ on := 4, ground := Go.Ground.data }, { on := 3, ground := Go.Ground.guard }], guard := some (3, false) }) (v := undef) rfl (by kernel_rfl) (by kernel_rfl) (by kernel_rfl) (by kernel_rfl) (fun _ _ _ h => h) (Or.inr ⟨by rfl, rfl⟩) hS ?fr5
              try simp only [Act.put, List.setIfInBounds_toArray, List.set_cons_zero, List.set_cons_succ]
              refine wpAnyL_take (i := 6) (oi := { dst := some 40, op := Go.Op.move (Go.Operand.tmp 4), type := 3, pos := "l10_worlds.go:26", after := #[{ on := 3, ground := Go.Ground.guard }], guard := some (3, false) }) (v := undef) rfl (by kernel_rfl) (by kernel_rfl) (by kernel_rfl) (by kernel_rfl) (fun _ _ _ h => h) (Or.inr ⟨by rfl, rfl⟩) hS ?fr6
              try simp only [Act.put, List.setIfInBounds_toArray, List.set_cons_zero, List.set_cons_succ]
              refine wpAnyL_take (i := 7) (oi := { dst := some 41, op := Go.Op.indexAddr 23 (Go.Operand.tmp 39) (Go.Operand.tmp 40), type := 0, pos := "l10_worlds.go:26", after := #[{ on := 5, ground := Go.Ground.data }, { on := 6, ground := Go.Ground.data }, { on := 3, ground := Go.Ground.guard }], guard := some (3, false) }) (v := undef) rfl (by kernel_rfl) (by kernel_rfl) (by kernel_rfl) (by kernel_rfl) (fun _ _ _ h => h) (Or.inr ⟨by rfl, rfl⟩) hS ?fr7
              try simp only [Act.put, List.setIfInBounds_toArray, List.set_cons_zero, List.set_cons_succ]
              refine wpAnyL_take (i := 8) (oi := { dst := some 42, op := Go.Op.load 39 (Go.Operand.tmp 41), type := 39, pos := "l10_worlds.go:26", after := #[{ on := 7, ground := Go.Ground.data }, { on := 3, ground := Go.Ground.guard }], guard := some (3, false) }) (v := undef) rfl (by kernel_rfl) (by kernel_rfl) (by kernel_rfl) (by kernel_rfl) (fun _ _ _ h => h) (Or.inr ⟨by rfl, rfl⟩) hS ?fr8
              try simp only [Act.put, List.setIfInBounds_toArray, List.set_cons_zero, List.set_cons_succ]
              refine wpAnyL_take (i := 9) (oi := { dst := some 43, op := Go.Op.call { callee := Go.Callee.builtin Go.Builtin.len, args := #[Go.Operand.tmp 42], argTypes := #[39] }, type := 3, pos := "l10_worlds.go:26", after := #[{ on := 8, ground := Go.Ground.data }, { on := 3, ground := Go.Ground.guard }], guard := some (3, false) }) (v := undef) rfl (by kernel_rfl) (by kernel_rfl) (by kernel_rfl) (by kernel_rfl) (fun _ _ _ h => h) (Or.inr ⟨by rfl, rfl⟩) hS ?fr9
              try simp only [Act.put, List.setIfInBounds_toArray, List.set_cons_zero, List.set_cons_succ]
              refine wpAnyL_take (i := 10) (oi := { dst := some 44, op := Go.Op.fieldAddr 55 (Go.Operand.tmp 5) 0, type := 0, pos := "l10_worlds.go:26", after := #[{ on := 3, ground := Go.Ground.guard }], guard := some (3, false) }) (v := undef) rfl (by kernel_rfl) (by kernel_rfl) (by kernel_rfl) (by kernel_rfl) (fun _ _ _ h => h) (Or.inr ⟨by rfl, rfl⟩) hS ?fr10
              try simp only [Act.put, List.setIfInBounds_toArray, List.set_cons_zero, List.set_cons_succ]
              refine wpAnyL_take (i := 11) (oi := { dst := some 45, op := Go.Op.load 3 (Go.Operand.tmp 44), type := 3, pos := "l10_worlds.go:26", after := #[{ on := 10, ground := Go.Ground.data }, { on := 3, ground := Go.Ground.guard }], guard := some (3, false) }) (v := undef) rfl (by kernel_rfl) (by kernel_rfl) (by kernel_rfl) (by kernel_rfl) (fun _ _ _ h => h) (Or.inr ⟨by rfl, rfl⟩) hS ?fr11
              try simp only [Act.put, List.setIfInBounds_toArray, List.set_cons_zero, List.set_cons_succ]
              refine wpAnyL_take (i := 12) (oi := { dst := some 46, op := Go.Op.binOp Go.BinOp.neq 3 (Go.Operand.tmp 43) (Go.Operand.tmp 45) 3, type := 4, pos := "l10_worlds.go:26", after := #[{ on := 9, ground := Go.Ground.data }, { on := 11, ground := Go.Ground.data }, { on := 3, ground := Go.Ground.guard }], guard := some (3, false) }) (v := undef) rfl (by kernel_rfl) (by kernel_rfl) (by kernel_rfl) (by kernel_rfl) (fun _ _ _ h => h) (Or.inr ⟨by rfl, rfl⟩) hS ?fr12
              try simp only [Act.put, List.setIfInBounds_toArray, List.set_cons_zero, List.set_cons_succ]
              refine wpAnyL_take (i := 13) (oi := { dst := some 47, op := Go.Op.pick (Go.Operand.tmp 37) (Go.Operand.const (Go.Value.bool true)) (Go.Operand.tmp 46), type := 4, pos := "l10_worlds.go:26", after := #[{ on := 3, ground := Go.Ground.data }, { on := 12, ground := Go.Ground.data }], guard := none }) (v := ?fv13) rfl (by kernel_rfl) (by kernel_rfl) (by kernel_rfl) (by kernel_rfl) (fun _ _ _ h => h) (Or.inl ⟨by rfl, ?fh13⟩) hS ?fr13
              case fh13 => (intro wS hSw; (try dsimp only at hSw); go_split_ands; go_simp; try with_reducible rfl)
              try simp only [Act.put, List.setIfInBounds_toArray, List.set_cons_zero, List.set_cons_succ]
              refine wpAnyL_take (i := 14) (oi := { dst := some 48, op := Go.Op.move (Go.Operand.tmp 47), type := 4, pos := "l10_worlds.go:26", after := #[{ on := 13, ground := Go.Ground.data }, { on := 3, ground := Go.Ground.chain }], guard := none }) (v := ?fv14) rfl (by kernel_rfl) (by kernel_rfl) (by kernel_rfl) (by kernel_rfl) (fun _ _ _ h => h) (Or.inl ⟨by rfl, ?fh14⟩) hS ?fr14
              case fh14 => (intro wS hSw; (try dsimp only at hSw); go_split_ands; go_simp; try with_reducible rfl)
              try simp only [Act.put, List.setIfInBounds_toArray, List.set_cons_zero, List.set_cons_succ]
              refine wpAnyL_take (i := 15) (oi := { dst := some 49, op := Go.Op.fieldAddr 30 (Go.Operand.tmp 1) 1, type := 0, pos := "l10_worlds.go:26", after := #[{ on := 14, ground := Go.Ground.guard }], guard := some (14, false) }) (v := undef) rfl (by kernel_rfl) (by kernel_rfl) (by kernel_rfl) (by kernel_rfl) (fun _ _ _ h => h) (Or.inr ⟨by rfl, rfl⟩) hS ?fr15
              try simp only [Act.put, List.setIfInBounds_toArray, List.set_cons_zero, List.set_cons_succ]
              refine wpAnyL_take (i := 16) (oi := { dst := some 50, op := Go.Op.load 23 (Go.Operand.tmp 49), type := 23, pos := "l10_worlds.go:26", after := #[{ on := 15, ground := Go.Ground.data }, { on := 14, ground := Go.Ground.guard }], guard := some (14, false) }) (v := undef) rfl (by kernel_rfl) (by kernel_rfl) (by kernel_rfl) (by kernel_rfl) (fun _ _ _ h => h) (Or.inr ⟨by rfl, rfl⟩) hS ?fr16
              try simp only [Act.put, List.setIfInBounds_toArray, List.set_cons_zero, List.set_cons_succ]
              refine wpAnyL_take (i := 17) (oi := { dst := some 51, op := Go.Op.move (Go.Operand.tmp 4), type := 3, pos := "l10_worlds.go:26", after := #[{ on := 14, ground := Go.Ground.guard }], guard := some (14, false) }) (v := undef) rfl (by kernel_rfl) (by kernel_rfl) (by kernel_rfl) (by kernel_rfl) (fun _ _ _ h => h) (Or.inr ⟨by rfl, rfl⟩) hS ?fr17
              try simp only [Act.put, List.setIfInBounds_toArray, List.set_cons_zero, List.set_cons_succ]
              refine wpAnyL_take (i := 18) (oi := { dst := some 52, op := Go.Op.indexAddr 23 (Go.Operand.tmp 50) (Go.Operand.tmp 51), type := 0, pos := "l10_worlds.go:26", after := #[{ on := 16, ground := Go.Ground.data }, { on := 17, ground := Go.Ground.data }, { on := 14, ground := Go.Ground.guard }], guard := some (14, false) }) (v := undef) rfl (by kernel_rfl) (by kernel_rfl) (by kernel_rfl) (by kernel_rfl) (fun _ _ _ h => h) (Or.inr ⟨by rfl, rfl⟩) hS ?fr18
              try simp only [Act.put, List.setIfInBounds_toArray, List.set_cons_zero, List.set_cons_succ]
              refine wpAnyL_take (i := 19) (oi := { dst := some 53, op := Go.Op.load 39 (Go.Operand.tmp 52), type := 39, pos := "l10_worlds.go:26", after := #[{ on := 18, ground := Go.Ground.data }, { on := 14, ground := Go.Ground.guard }], guard := some (14, false) }) (v := undef) rfl (by kernel_rfl) (by kernel_rfl) (by kernel_rfl) (by kernel_rfl) (fun _ _ _ h => h) (Or.inr ⟨by rfl, rfl⟩) hS ?fr19
              try simp only [Act.put, List.setIfInBounds_toArray, List.set_cons_zero, List.set_cons_succ]
              refine wpAnyL_take (i := 20) (oi := { dst := some 54, op := Go.Op.move (Go.Operand.tmp 3), type := 68, pos := "l10_worlds.go:26", after := #[{ on := 14, ground := Go.Ground.guard }], guard := some (14, false) }) (v := undef) rfl (by kernel_rfl) (by kernel_rfl) (by kernel_rfl) (by kernel_rfl) (fun _ _ _ h => h) (Or.inr ⟨by rfl, rfl⟩) hS ?fr20
              try simp only [Act.put, List.setIfInBounds_toArray, List.set_cons_zero, List.set_cons_succ]
              refine wpAnyL_take (i := 21) (oi := { dst := some 55, op := Go.Op.call { callee := Go.Callee.value (Go.Operand.func 63), args := #[Go.Operand.tmp 53, Go.Operand.tmp 54], argTypes := #[39, 68] }, type := 4, pos := "l10_worlds.go:26", after := #[{ on := 19, ground := Go.Ground.data }, { on := 20, ground := Go.Ground.data }, { on := 14, ground := Go.Ground.chain }, { on := 14, ground := Go.Ground.guard }], guard := some (14, false) }) (v := undef) rfl (by kernel_rfl) (by kernel_rfl) (by kernel_rfl) (by kernel_rfl) (fun _ _ _ h => h) (Or.inr ⟨by rfl, rfl⟩) hS ?fr21
              try simp only [Act.put, List.setIfInBounds_toArray, List.set_cons_zero, List.set_cons_succ]
              refine wpAnyL_take (i := 22) (oi := { dst := some 56, op := Go.Op.pick (Go.Operand.tmp 48) (Go.Operand.const (Go.Value.bool true)) (Go.Operand.tmp 55), type := 4, pos := "l10_worlds.go:26", after := #[{ on := 14, ground := Go.Ground.data }, { on := 21, ground := Go.Ground.data }], guard := none }) (v := ?fv22) rfl (by kernel_rfl) (by kernel_rfl) (by kernel_rfl) (by kernel_rfl) (fun _ _ _ h => h) (Or.inl ⟨by rfl, ?fh22⟩) hS ?fr22
              case fh22 => (intro wS hSw; (try dsimp only at hSw); go_split_ands; go_simp; try with_reducible rfl)
              try simp only [Act.put, List.setIfInBounds_toArray, List.set_cons_zero, List.set_cons_succ]
              refine wpAnyL_done (by kernel_rfl) ?_ _
              · have HN2 := Lib.hid (HBW.out.drew.trans (hb2.mono hzW))
                clear hb2
                go_wp2_with fail
                go_ret
                exact ⟨by rw [HF.out]; rfl, HN2.out⟩
            | true =>
              have CM2 := CM.out _ HBW.out.drew
              rw [i0] at CM2
              have I0 := Lib.hid i0
              clear i0 CM
              by_cases i1 : (ok.length : Int) = mk.size
              · have hne1 : ((ok.length : Int) != mk.size) = false := by simpa using i1
                have I1 := Lib.hid i1
                clear i1
                cases i2 : ok.any (fun x => !M.inB x 0 ((no : Int) - 1)) with
                | true =>
                  have HF : Hid (M.worldsB m = false) := Lib.hid (WN3.out k hkn (HWI.out k (by rw [hwm.out]; exact I0.out) (by rw [hwm.out, hwo.out]; exact I1.out) true (by rw [hwo.out]; exact i2)))
                  rw [i2] at CC
                  clear i2
                  refine wp_region_late2 (fun (W2 : World) => (W2.cell? ⟨w.heap.size, 0, none⟩ = some (.slice (some ⟨mb, mo, none⟩) no c) ∧ W2.cell? ⟨w.heap.size, 1, none⟩ = some (.slice (some ⟨ob, oo, none⟩) no d)) ∧ (W2.cell? ⟨wr.heap.size, 0, none⟩ = some (.int .i64 mk.size) ∧ W2.cell? ⟨wr.heap.size, 1, none⟩ = some (.slice x1 mk.doors.length x2) ∧ W2.cell? ⟨wr.heap.size, 2, none⟩ = some (.slice x3 mk.keys.length x4)) ∧ W2.cell? ⟨ob, oo + k, none⟩ = some (.slice y1 ok.length y2)) [] 23 #[false, false, false, false, false, false, false, false, false, false, false, false, false, false, false, false, false, false, false, false, false, false, false] rfl rfl (by kernel_rfl) ?_
                  have hS : (fun (W2 : World) => (W2.cell? ⟨w.heap.size, 0, none⟩ = some (.slice (some ⟨mb, mo, none⟩) no c) ∧ W2.cell? ⟨w.heap.size, 1, none⟩ = some (.slice (some ⟨ob, oo, none⟩) no d)) ∧ (W2.cell? ⟨wr.heap.size, 0, none⟩ = some (.int .i64 mk.size) ∧ W2.cell? ⟨wr.heap.size, 1, none⟩ = some (.slice x1 mk.doors.length x2) ∧ W2.cell? ⟨wr.heap.size, 2, none⟩ = some (.slice x3 mk.keys.length x4)) ∧ W2.cell? ⟨ob, oo + k, none⟩ = some (.slice y1 ok.length y2)) W.drew := FX.out _ (Below.refl _ _)
                  refine wpAnyL_take (i := 0) (oi := { dst := some 34, op := Go.Op.load 55 (Go.Operand.tmp 5), type := 55, pos := "l10_worlds.go:26", after := #[], guard := none }) (v := ?tv0) rfl (by kernel_rfl) (by kernel_rfl) (by kernel_rfl) (by kernel_rfl) (fun _ _ _ h => h) (Or.inl ⟨by rfl, ?th0⟩) hS ?tr0
                  case th0 => (intro wS hSw; (try dsimp only at hSw); go_split_ands; go_simp; try with_reducible rfl)
                  try simp only [Act.put, List.setIfInBounds_toArray, List.set_cons_zero, List.set_cons_succ]
                  refine wpAnyL_one (i := 1) (oi := { dst := some 35, op := Go.Op.call { callee := Go.Callee.value (Go.Operand.func 62), args := #[Go.Operand.tmp 34], argTypes := #[55] }, type := 4, pos := "l10_worlds.go:26", after := #[{ on := 0, ground := Go.Ground.data }], guard := none }) (by kernel_rfl) rfl (fun Kt1 hKt1 => ?_)
                  refine step_call (by rfl) 62 #[.agg #[.int .i64 mk.size, .slice x1 mk.doors.length x2, .slice x3 mk.keys.length x4]] (by go_simp; try rfl) (CM2) ?_
                  rintro e w2 ⟨rfl, hb2⟩
                  refine ⟨_, rfl, ?_⟩
                  have hSs : (fun (W2 : World) => (W2.cell? ⟨w.heap.size, 0, none⟩ = some (.slice (some ⟨mb, mo, none⟩) no c) ∧ W2.cell? ⟨w.heap.size, 1, none⟩ = some (.slice (some ⟨ob, oo, none⟩) no d)) ∧ (W2.cell? ⟨wr.heap.size, 0, none⟩ = some (.int .i64 mk.size) ∧ W2.cell? ⟨wr.heap.size, 1, none⟩ = some (.slice x1 mk.doors.length x2) ∧ W2.cell? ⟨wr.heap.size, 2, none⟩ = some (.slice x3 mk.keys.length x4)) ∧ W2.cell? ⟨ob, oo + k, none⟩ = some (.slice y1 ok.length y2)) w2 := FX.out _ hb2
                  refine hKt1 _ _ (fun _ => hSs) ?_
                  clear hS
                  have hS := hSs
                  try simp only [Act.put, List.setIfInBounds_toArray, List.set_cons_zero, List.set_cons_succ]
                  refine wpAnyL_take (i := 2) (oi := { dst := some 36, op := Go.Op.unOp Go.UnOp.not 4 (Go.Operand.tmp 35), type := 4, pos := "l10_worlds.go:26", after := #[{ on := 1, ground := Go.Ground.data }], guard := none }) (v := ?tv2) rfl (by kernel_rfl) (by kernel_rfl) (by kernel_rfl) (by kernel_rfl) (fun _ _ _ h => h) (Or.inl ⟨by rfl, ?th2⟩) hS ?tr2
                  case th2 => (intro wS hSw; (try dsimp only at hSw); go_split_ands; go_simp; try with_reducible rfl)
                  try simp only [Act.put, List.setIfInBounds_toArray, List.set_cons_zero, List.set_cons_succ]
                  refine wpAnyL_take (i := 3) (oi := { dst := some 37, op := Go.Op.move (Go.Operand.tmp 36), type := 4, pos := "l10_worlds.go:26", after := #[{ on := 2, ground := Go.Ground.data }, { on := 1, ground := Go.Ground.chain }], guard := none }) (v := ?tv3) rfl (by kernel_rfl) (by kernel_rfl) (by kernel_rfl) (by kernel_rfl) (fun _ _ _ h => h) (Or.inl ⟨by rfl, ?th3⟩) hS ?tr3
                  case th3 => (intro wS hSw; (try dsimp only at hSw); go_split_ands; go_simp; try with_reducible rfl)
                  try simp only [Act.put, List.setIfInBounds_toArray, List.set_cons_zero, List.set_cons_succ]
                  refine wpAnyL_take (i := 4) (oi := { dst := some 38, op := Go.Op.fieldAddr 30 (Go.Operand.tmp 1) 1, type := 0, pos := "l10_worlds.go:26", after := #[{ on := 3, ground := Go.Ground.guard }], guard := some (3, false) }) (v := ?tv4) rfl (by kernel_rfl) (by kernel_rfl) (by kernel_rfl) (by kernel_rfl) (fun _ _ _ h => h) (Or.inl ⟨by rfl, ?th4⟩) hS ?tr4
                  case th4 => (intro wS hSw; (try dsimp only at hSw); go_split_ands; go_simp; try with_reducible rfl)
                  try simp only [Act.put, List.setIfInBounds_toArray, List.set_cons_zero, List.set_cons_succ]
                  refine wpAnyL_take (i := 5) (oi := { dst := some 39, op := Go.Op.load 23 (Go.Operand.tmp 38), type := 23, pos := "l10_worlds.go:26", after := #[{ on := 4, ground := Go.Ground.data }, { on := 3, ground := Go.Ground.guard }], guard := some (3, false) }) (v := ?tv5) rfl (by kernel_rfl) (by kernel_rfl) (by kernel_rfl) (by kernel_rfl) (fun _ _ _ h => h) (Or.inl ⟨by rfl, ?th5⟩) hS ?tr5
                  case th5 => (intro wS hSw; (try dsimp only at hSw); go_split_ands; go_simp; try with_reducible rfl)
                  try simp only [Act.put, List.setIfInBounds_toArray, List.set_cons_zero, List.set_cons_succ]
                  refine wpAnyL_take (i := 6) (oi := { dst := some 40, op := Go.Op.move (Go.Operand.tmp 4), type := 3, pos := "l10_worlds.go:26", after := #[{ on := 3, ground := Go.Ground.guard }], guard := some (3, false) }) (v := ?tv6) rfl (by kernel_rfl) (by kernel_rfl) (by kernel_rfl) (by kernel_rfl) (fun _ _ _ h => h) (Or.inl ⟨by rfl, ?th6⟩) hS ?tr6
                  case th6 => (intro wS hSw; (try dsimp only at hSw); go_split_ands; go_simp; try with_reducible rfl)
                  try simp only [Act.put, List.setIfInBounds_toArray, List.set_cons_zero, List.set_cons_succ]
                  refine wpAnyL_take (i := 7) (oi := { dst := some 41, op := Go.Op.indexAddr 23 (Go.Operand.tmp 39) (Go.Operand.tmp 40), type := 0, pos := "l10_worlds.go:26", after := #[{ on := 5, ground := Go.Ground.data }, { on := 6, ground := Go.Ground.data }, { on := 3, ground := Go.Ground.guard }], guard := some (3, false) }) (v := ?tv7) rfl (by kernel_rfl) (by kernel_rfl) (by kernel_rfl) (by kernel_rfl) (fun _ _ _ h => h) (Or.inl ⟨by rfl, ?th7⟩) hS ?tr7
                  case th7 => (intro wS hSw; (try dsimp only at hSw); go_split_ands; go_simp; try with_reducible rfl)
                  try simp only [Act.put, List.setIfInBounds_toArray, List.set_cons_zero, List.set_cons_succ]
                  refine wpAnyL_take (i := 8) (oi := { dst := some 42, op := Go.Op.load 39 (Go.Operand.tmp 41), type := 39, pos := "l10_worlds.go:26", after := #[{ on := 7, ground := Go.Ground.data }, { on := 3, ground := Go.Ground.guard }], guard := some (3, false) }) (v := ?tv8) rfl (by kernel_rfl) (by kernel_rfl) (by kernel_rfl) (by kernel_rfl) (fun _ _ _ h => h) (Or.inl ⟨by rfl, ?th8⟩) hS ?tr8
                  case th8 => (intro wS hSw; (try dsimp only at hSw); go_split_ands; go_simp; try with_reducible rfl)
                  try simp only [Act.put, List.setIfInBounds_toArray, List.set_cons_zero, List.set_cons_succ]
                  refine wpAnyL_take (i := 9) (oi := { dst := some 43, op := Go.Op.call { callee := Go.Callee.builtin Go.Builtin.len, args := #[Go.Operand.tmp 42], argTypes := #[39] }, type := 3, pos := "l10_worlds.go:26", after := #[{ on := 8, ground := Go.Ground.data }, { on := 3, ground := Go.Ground.guard }], guard := some (3, false) }) (v := ?tv9) rfl (by kernel_rfl) (by kernel_rfl) (by kernel_rfl) (by kernel_rfl) (fun _ _ _ h => h) (Or.inl ⟨by rfl, ?th9⟩) hS ?tr9
                  case th9 => (intro wS hSw; (try dsimp only at hSw); go_split_ands; go_simp; try with_reducible rfl)
                  try simp only [Act.put, List.setIfInBounds_toArray, List.set_cons_zero, List.set_cons_succ]
                  refine wpAnyL_take (i := 10) (oi := { dst := some 44, op := Go.Op.fieldAddr 55 (Go.Operand.tmp 5) 0, type := 0, pos := "l10_worlds.go:26", after := #[{ on := 3, ground := Go.Ground.guard }], guard := some (3, false) }) (v := ?tv10) rfl (by kernel_rfl) (by kernel_rfl) (by kernel_rfl) (by kernel_rfl) (fun _ _ _ h => h) (Or.inl ⟨by rfl, ?th10⟩) hS ?tr10
                  case th10 => (intro wS hSw; (try dsimp only at hSw); go_split_ands; go_simp; try with_reducible rfl)
                  try simp only [Act.put, List.setIfInBounds_toArray, List.set_cons_zero, List.set_cons_succ]
                  refine wpAnyL_take (i := 11) (oi := { dst := some 45, op := Go.Op.load 3 (Go.Operand.tmp 44), type := 3, pos := "l10_worlds.go:26", after := #[{ on := 10, ground := Go.Ground.data }, { on := 3, ground := Go.Ground.guard }], guard := some (3, false) }) (v := ?tv11) rfl (by kernel_rfl) (by kernel_rfl) (by kernel_rfl) (by kernel_rfl) (fun _ _ _ h => h) (Or.inl ⟨by rfl, ?th11⟩) hS ?tr11
                  case th11 => (intro wS hSw; (try dsimp only at hSw); go_split_ands; go_simp; try with_reducible rfl)
                  try simp only [Act.put, List.setIfInBounds_toArray, List.set_cons_zero, List.set_cons_succ]
                  refine wpAnyL_take (i := 12) (oi := { dst := some 46, op := Go.Op.binOp Go.BinOp.neq 3 (Go.Operand.tmp 43) (Go.Operand.tmp 45) 3, type := 4, pos := "l10_worlds.go:26", after := #[{ on := 9, ground := Go.Ground.data }, { on := 11, ground := Go.Ground.data }, { on := 3, ground := Go.Ground.guard }], guard := some (3, false) }) (v := ?tv12) rfl (by kernel_rfl) (by kernel_rfl) (by kernel_rfl) (by kernel_rfl) (fun _ _ _ h => h) (Or.inl ⟨by rfl, ?th12⟩) hS ?tr12
                  case th12 => (intro wS hSw; (try dsimp only at hSw); go_split_ands; go_simp; try with_reducible rfl)
                  try simp only [Act.put, List.setIfInBounds_toArray, List.set_cons_zero, List.set_cons_succ]
                  refine wpAnyL_take (i := 13) (oi := { dst := some 47, op := Go.Op.pick (Go.Operand.tmp 37) (Go.Operand.const (Go.Value.bool true)) (Go.Operand.tmp 46), type := 4, pos := "l10_worlds.go:26", after := #[{ on := 3, ground := Go.Ground.data }, { on := 12, ground := Go.Ground.data }], guard := none }) (v := ?tv13) rfl (by kernel_rfl) (by kernel_rfl) (by kernel_rfl) (by kernel_rfl) (fun _ _ _ h => h) (Or.inl ⟨by rfl, ?th13⟩) hS ?tr13
                  case th13 => (intro wS hSw; (try dsimp only at hSw); go_split_ands; go_simp; try with_reducible rfl)
                  try simp only [Act.put, List.setIfInBounds_toArray, List.set_cons_zero, List.set_cons_succ]
                  refine wpAnyL_take (i := 14) (oi := { dst := some 48, op := Go.Op.move (Go.Operand.tmp 47), type := 4, pos := "l10_worlds.go:26", after := #[{ on := 13, ground := Go.Ground.data }, { on := 3, ground := Go.Ground.chain }], guard := none }) (v := ?tv14) rfl (by kernel_rfl) (by kernel_rfl) (by kernel_rfl) (by kernel_rfl) (fun _ _ _ h => h) (Or.inl ⟨by rfl, ?th14⟩) hS ?tr14
                  case th14 => (intro wS hSw; (try dsimp only at hSw); go_split_ands; go_simp; try with_reducible rfl)
                  try simp only [Act.put, List.setIfInBounds_toArray, List.set_cons_zero, List.set_cons_succ]
                  refine wpAnyL_take (i := 15) (oi := { dst := some 49, op := Go.Op.fieldAddr 30 (Go.Operand.tmp 1) 1, type := 0, pos := "l10_worlds.go:26", after := #[{ on := 14, ground := Go.Ground.guard }], guard := some (14, false) }) (v := ?tv15) rfl (by kernel_rfl) (by kernel_rfl) (by kernel_rfl) (by kernel_rfl) (fun _ _ _ h => h) (Or.inl ⟨by rfl, ?th15⟩) hS ?tr15
                  case th15 => (intro wS hSw; (try dsimp only at hSw); go_split_ands; go_simp; try with_reducible rfl)
                  try simp only [Act.put, List.setIfInBounds_toArray, List.set_cons_zero, List.set_cons_succ]
                  refine wpAnyL_take (i := 16) (oi := { dst := some 50, op := Go.Op.load 23 (Go.Operand.tmp 49), type := 23, pos := "l10_worlds.go:26", after := #[{ on := 15, ground := Go.Ground.data }, { on := 14, ground := Go.Ground.guard }], guard := some (14, false) }) (v := ?tv16) rfl (by kernel_rfl) (by kernel_rfl) (by kernel_rfl) (by kernel_rfl) (fun _ _ _ h => h) (Or.inl ⟨by rfl, ?th16⟩) hS ?tr16
                  case th16 => (intro wS hSw; (try dsimp only at hSw); go_split_ands; go_simp; try with_reducible rfl)
                  try simp only [Act.put, List.setIfInBounds_toArray, List.set_cons_zero, List.set_cons_succ]
                  refine wpAnyL_take (i := 17) (oi := { dst := some 51, op := Go.Op.move (Go.Operand.tmp 4), type := 3, pos := "l10_worlds.go:26", after := #[{ on := 14, ground := Go.Ground.guard }], guard := some (14, false) }) (v := ?tv17) rfl (by kernel_rfl) (by kernel_rfl) (by kernel_rfl) (by kernel_rfl) (fun _ _ _ h => h) (Or.inl ⟨by rfl, ?th17⟩) hS ?tr17
                  case th17 => (intro wS hSw; (try dsimp only at hSw); go_split_ands; go_simp; try with_reducible rfl)
                  try simp only [Act.put, List.setIfInBounds_toArray, List.set_cons_zero, List.set_cons_succ]
                  refine wpAnyL_take (i := 18) (oi := { dst := some 52, op := Go.Op.indexAddr 23 (Go.Operand.tmp 50) (Go.Operand.tmp 51), type := 0, pos := "l10_worlds.go:26", after := #[{ on := 16, ground := Go.Ground.data }, { on := 17, ground := Go.Ground.data }, { on := 14, ground := Go.Ground.guard }], guard := some (14, false) }) (v := ?tv18) rfl (by kernel_rfl) (by kernel_rfl) (by kernel_rfl) (by kernel_rfl) (fun _ _ _ h => h) (Or.inl ⟨by rfl, ?th18⟩) hS ?tr18
                  case th18 => (intro wS hSw; (try dsimp only at hSw); go_split_ands; go_simp; try with_reducible rfl)
                  try simp only [Act.put, List.setIfInBounds_toArray, List.set_cons_zero, List.set_cons_succ]
                  refine wpAnyL_take (i := 19) (oi := { dst := some 53, op := Go.Op.load 39 (Go.Operand.tmp 52), type := 39, pos := "l10_worlds.go:26", after := #[{ on := 18, ground := Go.Ground.data }, { on := 14, ground := Go.Ground.guard }], guard := some (14, false) }) (v := ?tv19) rfl (by kernel_rfl) (by kernel_rfl) (by kernel_rfl) (by kernel_rfl) (fun _ _ _ h => h) (Or.inl ⟨by rfl, ?th19⟩) hS ?tr19
                  case th19 => (intro wS hSw; (try dsimp only at hSw); go_split_ands; go_simp; try with_reducible rfl)
                  try simp only [Act.put, List.setIfInBounds_toArray, List.set_cons_zero, List.set_cons_succ]
                  refine wpAnyL_take (i := 20) (oi := { dst := some 54, op := Go.Op.move (Go.Operand.tmp 3), type := 68, pos := "l10_worlds.go:26", after := #[{ on := 14, ground := Go.Ground.guard }], guard := some (14, false) }) (v := ?tv20) rfl (by kernel_rfl) (by kernel_rfl) (by kernel_rfl) (by kernel_rfl) (fun _ _ _ h => h) (Or.inl ⟨by rfl, ?th20⟩) hS ?tr20
                  case th20 => (intro wS hSw; (try dsimp only at hSw); go_split_ands; go_simp; try with_reducible rfl)
                  try simp only [Act.put, List.setIfInBounds_toArray, List.set_cons_zero, List.set_cons_succ]
                  refine wpAnyL_one (i := 21) (oi := { dst := some 55, op := Go.Op.call { callee := Go.Callee.value (Go.Operand.func 63), args := #[Go.Operand.tmp 53, Go.Operand.tmp 54], argTypes := #[39, 68] }, type := 4, pos := "l10_worlds.go:26", after := #[{ on := 19, ground := Go.Ground.data }, { on := 20, ground := Go.Ground.data }, { on := 14, ground := Go.Ground.chain }, { on := 14, ground := Go.Ground.guard }], guard := some (14, false) }) (by kernel_rfl) rfl (fun Kt21 hKt21 => ?_)
                  refine step_callG (by rfl) 63 #[.slice y1 ok.length y2, .func (.func 60) #[] #[.pointer (some ⟨w.heap.size, 0, none⟩)]] (by go_simp; try rfl) (CC.out _ (HBW.out.drew.trans (hb2.mono hzW)) (HBB.out _ hb2)) ?_
                  rintro e w3 ⟨rfl, hb3⟩
                  refine ⟨_, rfl, ?_⟩
                  have hSs : (fun (W2 : World) => (W2.cell? ⟨w.heap.size, 0, none⟩ = some (.slice (some ⟨mb, mo, none⟩) no c) ∧ W2.cell? ⟨w.heap.size, 1, none⟩ = some (.slice (some ⟨ob, oo, none⟩) no d)) ∧ (W2.cell? ⟨wr.heap.size, 0, none⟩ = some (.int .i64 mk.size) ∧ W2.cell? ⟨wr.heap.size, 1, none⟩ = some (.slice x1 mk.doors.length x2) ∧ W2.cell? ⟨wr.heap.size, 2, none⟩ = some (.slice x3 mk.keys.length x4)) ∧ W2.cell? ⟨ob, oo + k, none⟩ = some (.slice y1 ok.length y2)) w3 := FX.out _ (hb2.trans (hb3.mono hb2.size))
                  refine hKt21 _ _ (fun _ => hSs) ?_
                  clear hS
                  have hS := hSs
                  try simp only [Act.put, List.setIfInBounds_toArray, List.set_cons_zero, List.set_cons_succ]
                  refine wpAnyL_take (i := 22) (oi := { dst := some 56, op := Go.Op.pick (Go.Operand.tmp 48) (Go.Operand.const (Go.Value.bool true)) (Go.Operand.tmp 55), type := 4, pos := "l10_worlds.go:26", after := #[{ on := 14, ground := Go.Ground.data }, { on := 21, ground := Go.Ground.data }], guard := none }) (v := ?tv22) rfl (by kernel_rfl) (by kernel_rfl) (by kernel_rfl) (by kernel_rfl) (fun _ _ _ h => h) (Or.inl ⟨by rfl, ?th22⟩) hS ?tr22
                  case th22 => (intro wS hSw; (try dsimp only at hSw); go_split_ands; go_simp; try with_reducible rfl)
                  try simp only [Act.put, List.setIfInBounds_toArray, List.set_cons_zero, List.set_cons_succ]
                  refine wpAnyL_done (by kernel_rfl) ?_ _
                  · have HN2 := Lib.hid ((HBW.out.drew.trans (hb2.mono hzW)).trans (hb3.mono (Nat.le_trans hzW hb2.size)))
                    clear hb2 hb3
                    go_wp2_with fail
                    go_ret
                    exact ⟨by rw [HF.out]; rfl, HN2.out⟩
                | false =>
                  have HY : Hid (M.worldB m k = true) := Lib.hid (HWI.out k (by rw [hwm.out]; exact I0.out) (by rw [hwm.out, hwo.out]; exact I1.out) false (by rw [hwo.out]; exact i2))
                  rw [i2] at CC
                  clear i2
                  refine wp_region_late2 (fun (W2 : World) => (W2.cell? ⟨w.heap.size, 0, none⟩ = some (.slice (some ⟨mb, mo, none⟩) no c) ∧ W2.cell? ⟨w.heap.size, 1, none⟩ = some (.slice (some ⟨ob, oo, none⟩) no d)) ∧ (W2.cell? ⟨wr.heap.size, 0, none⟩ = some (.int .i64 mk.size) ∧ W2.cell? ⟨wr.heap.size, 1, none⟩ = some (.slice x1 mk.doors.length x2) ∧ W2.cell? ⟨wr.heap.size, 2, none⟩ = some (.slice x3 mk.keys.length x4)) ∧ W2.cell? ⟨ob, oo + k, none⟩ = some (.slice y1 ok.length y2)) [] 23 #[false, false, false, false, false, false, false, false, false, false, false, false, false, false, false, false, false, false, false, false, false, false, false] rfl rfl (by kernel_rfl) ?_
                  have hS : (fun (W2 : World) => (W2.cell? ⟨w.heap.size, 0, none⟩ = some (.slice (some ⟨mb, mo, none⟩) no c) ∧ W2.cell? ⟨w.heap.size, 1, none⟩ = some (.slice (some ⟨ob, oo, none⟩) no d)) ∧ (W2.cell? ⟨wr.heap.size, 0, none⟩ = some (.int .i64 mk.size) ∧ W2.cell? ⟨wr.heap.size, 1, none⟩ = some (.slice x1 mk.doors.length x2) ∧ W2.cell? ⟨wr.heap.size, 2, none⟩ = some (.slice x3 mk.keys.length x4)) ∧ W2.cell? ⟨ob, oo + k, none⟩ = some (.slice y1 ok.length y2)) W.drew := FX.out _ (Below.refl _ _)
                  refine wpAnyL_take (i := 0) (oi := { dst := some 34, op := Go.Op.load 55 (Go.Operand.tmp 5), type := 55, pos := "l10_worlds.go:26", after := #[], guard := none }) (v := ?uv0) rfl (by kernel_rfl) (by kernel_rfl) (by kernel_rfl) (by kernel_rfl) (fun _ _ _ h => h) (Or.inl ⟨by rfl, ?uh0⟩) hS ?ur0
                  case uh0 => (intro wS hSw; (try dsimp only at hSw); go_split_ands; go_simp; try with_reducible rfl)
                  try simp only [Act.put, List.setIfInBounds_toArray, List.set_cons_zero, List.set_cons_succ]
                  refine wpAnyL_one (i := 1) (oi := { dst := some 35, op := Go.Op.call { callee := Go.Callee.value (Go.Operand.func 62), args := #[Go.Operand.tmp 34], argTypes := #[55] }, type := 4, pos := "l10_worlds.go:26", after := #[{ on := 0, ground := Go.Ground.data }], guard := none }) (by kernel_rfl) rfl (fun Ku1 hKu1 => ?_)
                  refine step_call (by rfl) 62 #[.agg #[.int .i64 mk.size, .slice x1 mk.doors.length x2, .slice x3 mk.keys.length x4]] (by go_simp; try rfl) (CM2) ?_
                  rintro e w2 ⟨rfl, hb2⟩
                  refine ⟨_, rfl, ?_⟩
                  have hSs : (fun (W2 : World) => (W2.cell? ⟨w.heap.size, 0, none⟩ = some (.slice (some ⟨mb, mo, none⟩) no c) ∧ W2.cell? ⟨w.heap.size, 1, none⟩ = some (.slice (some ⟨ob, oo, none⟩) no d)) ∧ (W2.cell? ⟨wr.heap.size, 0, none⟩ = some (.int .i64 mk.size) ∧ W2.cell? ⟨wr.heap.size, 1, none⟩ = some (.slice x1 mk.doors.length x2) ∧ W2.cell? ⟨wr.heap.size, 2, none⟩ = some (.slice x3 mk.keys.length x4)) ∧ W2.cell? ⟨ob, oo + k, none⟩ = some (.slice y1 ok.length y2)) w2 := FX.out _ hb2
                  refine hKu1 _ _ (fun _ => hSs) ?_
                  clear hS
                  have hS := hSs
                  try simp only [Act.put, List.setIfInBounds_toArray, List.set_cons_zero, List.set_cons_succ]
                  refine wpAnyL_take (i := 2) (oi := { dst := some 36, op := Go.Op.unOp Go.UnOp.not 4 (Go.Operand.tmp 35), type := 4, pos := "l10_worlds.go:26", after := #[{ on := 1, ground := Go.Ground.data }], guard := none }) (v := ?uv2) rfl (by kernel_rfl) (by kernel_rfl) (by kernel_rfl) (by kernel_rfl) (fun _ _ _ h => h) (Or.inl ⟨by rfl, ?uh2⟩) hS ?ur2
                  case uh2 => (intro wS hSw; (try dsimp only at hSw); go_split_ands; go_simp; try with_reducible rfl)
                  try simp only [Act.put, List.setIfInBounds_toArray, List.set_cons_zero, List.set_cons_succ]
                  refine wpAnyL_take (i := 3) (oi := { dst := some 37, op := Go.Op.move (Go.Operand.tmp 36), type := 4, pos := "l10_worlds.go:26", after := #[{ on := 2, ground := Go.Ground.data }, { on := 1, ground := Go.Ground.chain }], guard := none }) (v := ?uv3) rfl (by kernel_rfl) (by kernel_rfl) (by kernel_rfl) (by kernel_rfl) (fun _ _ _ h => h) (Or.inl ⟨by rfl, ?uh3⟩) hS ?ur3
                  case uh3 => (intro wS hSw; (try dsimp only at hSw); go_split_ands; go_simp; try with_reducible rfl)
                  try simp only [Act.put, List.setIfInBounds_toArray, List.set_cons_zero, List.set_cons_succ]
                  refine wpAnyL_take (i := 4) (oi := { dst := some 38, op := Go.Op.fieldAddr 30 (Go.Operand.tmp 1) 1, type := 0, pos := "l10_worlds.go:26", after := #[{ on := 3, ground := Go.Ground.guard }], guard := some (3, false) }) (v := ?uv4) rfl (by kernel_rfl) (by kernel_rfl) (by kernel_rfl) (by kernel_rfl) (fun _ _ _ h => h) (Or.inl ⟨by rfl, ?uh4⟩) hS ?ur4
                  case uh4 => (intro wS hSw; (try dsimp only at hSw); go_split_ands; go_simp; try with_reducible rfl)
                  try simp only [Act.put, List.setIfInBounds_toArray, List.set_cons_zero, List.set_cons_succ]
                  refine wpAnyL_take (i := 5) (oi := { dst := some 39, op := Go.Op.load 23 (Go.Operand.tmp 38), type := 23, pos := "l10_worlds.go:26", after := #[{ on := 4, ground := Go.Ground.data }, { on := 3, ground := Go.Ground.guard }], guard := some (3, false) }) (v := ?uv5) rfl (by kernel_rfl) (by kernel_rfl) (by kernel_rfl) (by kernel_rfl) (fun _ _ _ h => h) (Or.inl ⟨by rfl, ?uh5⟩) hS ?ur5
                  case uh5 => (intro wS hSw; (try dsimp only at hSw); go_split_ands; go_simp; try with_reducible rfl)
                  try simp only [Act.put, List.setIfInBounds_toArray, List.set_cons_zero, List.set_cons_succ]
                  refine wpAnyL_take (i := 6) (oi := { dst := some 40, op := Go.Op.move (Go.Operand.tmp 4), type := 3, pos := "l10_worlds.go:26", after := #[{ on := 3, ground := Go.Ground.guard }], guard := some (3, false) }) (v := ?uv6) rfl (by kernel_rfl) (by kernel_rfl) (by kernel_rfl) (by kernel_rfl) (fun _ _ _ h => h) (Or.inl ⟨by rfl, ?uh6⟩) hS ?ur6
                  case uh6 => (intro wS hSw; (try dsimp only at hSw); go_split_ands; go_simp; try with_reducible rfl)
                  try simp only [Act.put, List.setIfInBounds_toArray, List.set_cons_zero, List.set_cons_succ]
                  refine wpAnyL_take (i := 7) (oi := { dst := some 41, op := Go.Op.indexAddr 23 (Go.Operand.tmp 39) (Go.Operand.tmp 40), type := 0, pos := "l10_worlds.go:26", after := #[{ on := 5, ground := Go.Ground.data }, { on := 6, ground := Go.Ground.data }, { on := 3, ground := Go.Ground.guard }], guard := some (3, false) }) (v := ?uv7) rfl (by kernel_rfl) (by kernel_rfl) (by kernel_rfl) (by kernel_rfl) (fun _ _ _ h => h) (Or.inl ⟨by rfl, ?uh7⟩) hS ?ur7
                  case uh7 => (intro wS hSw; (try dsimp only at hSw); go_split_ands; go_simp; try with_reducible rfl)
                  try simp only [Act.put, List.setIfInBounds_toArray, List.set_cons_zero, List.set_cons_succ]
                  refine wpAnyL_take (i := 8) (oi := { dst := some 42, op := Go.Op.load 39 (Go.Operand.tmp 41), type := 39, pos := "l10_worlds.go:26", after := #[{ on := 7, ground := Go.Ground.data }, { on := 3, ground := Go.Ground.guard }], guard := some (3, false) }) (v := ?uv8) rfl (by kernel_rfl) (by kernel_rfl) (by kernel_rfl) (by kernel_rfl) (fun _ _ _ h => h) (Or.inl ⟨by rfl, ?uh8⟩) hS ?ur8
                  case uh8 => (intro wS hSw; (try dsimp only at hSw); go_split_ands; go_simp; try with_reducible rfl)
                  try simp only [Act.put, List.setIfInBounds_toArray, List.set_cons_zero, List.set_cons_succ]
                  refine wpAnyL_take (i := 9) (oi := { dst := some 43, op := Go.Op.call { callee := Go.Callee.builtin Go.Builtin.len, args := #[Go.Operand.tmp 42], argTypes := #[39] }, type := 3, pos := "l10_worlds.go:26", after := #[{ on := 8, ground := Go.Ground.data }, { on := 3, ground := Go.Ground.guard }], guard := some (3, false) }) (v := ?uv9) rfl (by kernel_rfl) (by kernel_rfl) (by kernel_rfl) (by kernel_rfl) (fun _ _ _ h => h) (Or.inl ⟨by rfl, ?uh9⟩) hS ?ur9
                  case uh9 => (intro wS hSw; (try dsimp only at hSw); go_split_ands; go_simp; try with_reducible rfl)
                  try simp only [Act.put, List.setIfInBounds_toArray, List.set_cons_zero, List.set_cons_succ]
                  refine wpAnyL_take (i := 10) (oi := { dst := some 44, op := Go.Op.fieldAddr 55 (Go.Operand.tmp 5) 0, type := 0, pos := "l10_worlds.go:26", after := #[{ on := 3, ground := Go.Ground.guard }], guard := some (3, false) }) (v := ?uv10) rfl (by kernel_rfl) (by kernel_rfl) (by kernel_rfl) (by kernel_rfl) (fun _ _ _ h => h) (Or.inl ⟨by rfl, ?uh10⟩) hS ?ur10
                  case uh10 => (intro wS hSw; (try dsimp only at hSw); go_split_ands; go_simp; try with_reducible rfl)
                  try simp only [Act.put, List.setIfInBounds_toArray, List.set_cons_zero, List.set_cons_succ]
                  refine wpAnyL_take (i := 11) (oi := { dst := some 45, op := Go.Op.load 3 (Go.Operand.tmp 44), type := 3, pos := "l10_worlds.go:26", after := #[{ on := 10, ground := Go.Ground.data }, { on := 3, ground := Go.Ground.guard }], guard := some (3, false) }) (v := ?uv11) rfl (by kernel_rfl) (by kernel_rfl) (by kernel_rfl) (by kernel_rfl) (fun _ _ _ h => h) (Or.inl ⟨by rfl, ?uh11⟩) hS ?ur11
                  case uh11 => (intro wS hSw; (try dsimp only at hSw); go_split_ands; go_simp; try with_reducible rfl)
                  try simp only [Act.put, List.setIfInBounds_toArray, List.set_cons_zero, List.set_cons_succ]
                  refine wpAnyL_take (i := 12) (oi := { dst := some 46, op := Go.Op.binOp Go.BinOp.neq 3 (Go.Operand.tmp 43) (Go.Operand.tmp 45) 3, type := 4, pos := "l10_worlds.go:26", after := #[{ on := 9, ground := Go.Ground.data }, { on := 11, ground := Go.Ground.data }, { on := 3, ground := Go.Ground.guard }], guard := some (3, false) }) (v := ?uv12) rfl (by kernel_rfl) (by kernel_rfl) (by kernel_rfl) (by kernel_rfl) (fun _ _ _ h => h) (Or.inl ⟨by rfl, ?uh12⟩) hS ?ur12
                  case uh12 => (intro wS hSw; (try dsimp only at hSw); go_split_ands; go_simp; try with_reducible rfl)
                  try simp only [Act.put, List.setIfInBounds_toArray, List.set_cons_zero, List.set_cons_succ]
                  refine wpAnyL_take (i := 13) (oi := { dst := some 47, op := Go.Op.pick (Go.Operand.tmp 37) (Go.Operand.const (Go.Value.bool true)) (Go.Operand.tmp 46), type := 4, pos := "l10_worlds.go:26", after := #[{ on := 3, ground := Go.Ground.data }, { on := 12, ground := Go.Ground.data }], guard := none }) (v := ?uv13) rfl (by kernel_rfl) (by kernel_rfl) (by kernel_rfl) (by kernel_rfl) (fun _ _ _ h => h) (Or.inl ⟨by rfl, ?uh13⟩) hS ?ur13
                  case uh13 => (intro wS hSw; (try dsimp only at hSw); go_split_ands; go_simp; try with_reducible rfl)
                  try simp only [Act.put, List.setIfInBounds_toArray, List.set_cons_zero, List.set_cons_succ]
                  refine wpAnyL_take (i := 14) (oi := { dst := some 48, op := Go.Op.move (Go.Operand.tmp 47), type := 4, pos := "l10_worlds.go:26", after := #[{ on := 13, ground := Go.Ground.data }, { on := 3, ground := Go.Ground.chain }], guard := none }) (v := ?uv14) rfl (by kernel_rfl) (by kernel_rfl) (by kernel_rfl) (by kernel_rfl) (fun _ _ _ h => h) (Or.inl ⟨by rfl, ?uh14⟩) hS ?ur14
                  case uh14 => (intro wS hSw; (try dsimp only at hSw); go_split_ands; go_simp; try with_reducible rfl)
                  try simp only [Act.put, List.setIfInBounds_toArray, List.set_cons_zero, List.set_cons_succ]
                  refine wpAnyL_take (i := 15) (oi := { dst := some 49, op := Go.Op.fieldAddr 30 (Go.Operand.tmp 1) 1, type := 0, pos := "l10_worlds.go:26", after := #[{ on := 14, ground := Go.Ground.guard }], guard := some (14, false) }) (v := ?uv15) rfl (by kernel_rfl) (by kernel_rfl) (by kernel_rfl) (by kernel_rfl) (fun _ _ _ h => h) (Or.inl ⟨by rfl, ?uh15⟩) hS ?ur15
                  case uh15 => (intro wS hSw; (try dsimp only at hSw); go_split_ands; go_simp; try with_reducible rfl)
                  try simp only [Act.put, List.setIfInBounds_toArray, List.set_cons_zero, List.set_cons_succ]
                  refine wpAnyL_take (i := 16) (oi := { dst := some 50, op := Go.Op.load 23 (Go.Operand.tmp 49), type := 23, pos := "l10_worlds.go:26", after := #[{ on := 15, ground := Go.Ground.data }, { on := 14, ground := Go.Ground.guard }], guard := some (14, false) }) (v := ?uv16) rfl (by kernel_rfl) (by kernel_rfl) (by kernel_rfl) (by kernel_rfl) (fun _ _ _ h => h) (Or.inl ⟨by rfl, ?uh16⟩) hS ?ur16
                  case uh16 => (intro wS hSw; (try dsimp only at hSw); go_split_ands; go_simp; try with_reducible rfl)
                  try simp only [Act.put, List.setIfInBounds_toArray, List.set_cons_zero, List.set_cons_succ]
                  refine wpAnyL_take (i := 17) (oi := { dst := some 51, op := Go.Op.move (Go.Operand.tmp 4), type := 3, pos := "l10_worlds.go:26", after := #[{ on := 14, ground := Go.Ground.guard }], guard := some (14, false) }) (v := ?uv17) rfl (by kernel_rfl) (by kernel_rfl) (by kernel_rfl) (by kernel_rfl) (fun _ _ _ h => h) (Or.inl ⟨by rfl, ?uh17⟩) hS ?ur17
                  case uh17 => (intro wS hSw; (try dsimp only at hSw); go_split_ands; go_simp; try with_reducible rfl)
                  try simp only [Act.put, List.setIfInBounds_toArray, List.set_cons_zero, List.set_cons_succ]
                  refine wpAnyL_take (i := 18) (oi := { dst := some 52, op := Go.Op.indexAddr 23 (Go.Operand.tmp 50) (Go.Operand.tmp 51), type := 0, pos := "l10_worlds.go:26", after := #[{ on := 16, ground := Go.Ground.data }, { on := 17, ground := Go.Ground.data }, { on := 14, ground := Go.Ground.guard }], guard := some (14, false) }) (v := ?uv18) rfl (by kernel_rfl) (by kernel_rfl) (by kernel_rfl) (by kernel_rfl) (fun _ _ _ h => h) (Or.inl ⟨by rfl, ?uh18⟩) hS ?ur18
                  case uh18 => (intro wS hSw; (try dsimp only at hSw); go_split_ands; go_simp; try with_reducible rfl)
                  try simp only [Act.put, List.setIfInBounds_toArray, List.set_cons_zero, List.set_cons_succ]
                  refine wpAnyL_take (i := 19) (oi := { dst := some 53, op := Go.Op.load 39 (Go.Operand.tmp 52), type := 39, pos := "l10_worlds.go:26", after := #[{ on := 18, ground := Go.Ground.data }, { on := 14, ground := Go.Ground.guard }], guard := some (14, false) }) (v := ?uv19) rfl (by kernel_rfl) (by kernel_rfl) (by kernel_rfl) (by kernel_rfl) (fun _ _ _ h => h) (Or.inl ⟨by rfl, ?uh19⟩) hS ?ur19
                  case uh19 => (intro wS hSw; (try dsimp only at hSw); go_split_ands; go_simp; try with_reducible rfl)
                  try simp only [Act.put, List.setIfInBounds_toArray, List.set_cons_zero, List.set_cons_succ]
                  refine wpAnyL_take (i := 20) (oi := { dst := some 54, op := Go.Op.move (Go.Operand.tmp 3), type := 68, pos := "l10_worlds.go:26", after := #[{ on := 14, ground := Go.Ground.guard }], guard := some (14, false) }) (v := ?uv20) rfl (by kernel_rfl) (by kernel_rfl) (by kernel_rfl) (by kernel_rfl) (fun _ _ _ h => h) (Or.inl ⟨by rfl, ?uh20⟩) hS ?ur20
                  case uh20 => (intro wS hSw; (try dsimp only at hSw); go_split_ands; go_simp; try with_reducible rfl)
                  try simp only [Act.put, List.setIfInBounds_toArray, List.set_cons_zero, List.set_cons_succ]
                  refine wpAnyL_one (i := 21) (oi := { dst := some 55, op := Go.Op.call { callee := Go.Callee.value (Go.Operand.func 63), args := #[Go.Operand.tmp 53, Go.Operand.tmp 54], argTypes := #[39, 68] }, type := 4, pos := "l10_worlds.go:26", after := #[{ on := 19, ground := Go.Ground.data }, { on := 20, ground := Go.Ground.data }, { on := 14, ground := Go.Ground.chain }, { on := 14, ground := Go.Ground.guard }], guard := some (14, false) }) (by kernel_rfl) rfl (fun Ku21 hKu21 => ?_)
                  refine step_callG (by rfl) 63 #[.slice y1 ok.length y2, .func (.func 60) #[] #[.pointer (some ⟨w.heap.size, 0, none⟩)]] (by go_simp; try rfl) (CC.out _ (HBW.out.drew.trans (hb2.mono hzW)) (HBB.out _ hb2)) ?_
                  rintro e w3 ⟨rfl, hb3⟩
                  refine ⟨_, rfl, ?_⟩
                  have hSs : (fun (W2 : World) => (W2.cell? ⟨w.heap.size, 0, none⟩ = some (.slice (some ⟨mb, mo, none⟩) no c) ∧ W2.cell? ⟨w.heap.size, 1, none⟩ = some (.slice (some ⟨ob, oo, none⟩) no d)) ∧ (W2.cell? ⟨wr.heap.size, 0, none⟩ = some (.int .i64 mk.size) ∧ W2.cell? ⟨wr.heap.size, 1, none⟩ = some (.slice x1 mk.doors.length x2) ∧ W2.cell? ⟨wr.heap.size, 2, none⟩ = some (.slice x3 mk.keys.length x4)) ∧ W2.cell? ⟨ob, oo + k, none⟩ = some (.slice y1 ok.length y2)) w3 := FX.out _ (hb2.trans (hb3.mono hb2.size))
                  refine hKu21 _ _ (fun _ => hSs) ?_
                  clear hS
                  have hS := hSs
                  try simp only [Act.put, List.setIfInBounds_toArray, List.set_cons_zero, List.set_cons_succ]
                  refine wpAnyL_take (i := 22) (oi := { dst := some 56, op := Go.Op.pick (Go.Operand.tmp 48) (Go.Operand.const (Go.Value.bool true)) (Go.Operand.tmp 55), type := 4, pos := "l10_worlds.go:26", after := #[{ on := 14, ground := Go.Ground.data }, { on := 21, ground := Go.Ground.data }], guard := none }) (v := ?uv22) rfl (by kernel_rfl) (by kernel_rfl) (by kernel_rfl) (by kernel_rfl) (fun _ _ _ h => h) (Or.inl ⟨by rfl, ?uh22⟩) hS ?ur22
                  case uh22 => (intro wS hSw; (try dsimp only at hSw); go_split_ands; go_simp; try with_reducible rfl)
                  try simp only [Act.put, List.setIfInBounds_toArray, List.set_cons_zero, List.set_cons_succ]
                  refine wpAnyL_done (by kernel_rfl) ?_ _
                  · have HN2 := Lib.hid ((HBW.out.drew.trans (hb2.mono hzW)).trans (hb3.mono (Nat.le_trans hzW hb2.size)))
                    have HB3 := Lib.hid (HBB.out _ ((hb2.trans (hb3.mono hb2.size))))
                    clear hb2 hb3
                    go_wp2_with fail
                    go_roundw
                    case rel => exact ⟨k + 1, by omega, by go_num, fun j hjk => by
                        rcases Nat.lt_or_ge j k with h | h
                        · exact HA.out j h
                        · obtain rfl : j = k := by omega
                          exact HY.out, HB3.out, HN2.out⟩
                    case measure => simp [intOf]; omega
              · have hne1 : ((ok.length : Int) != mk.size) = true := by simpa using i1
                have HF : Hid (M.worldsB m = false) := Lib.hid (WN3.out k hkn (HW2.out k (by rw [hwm.out, hwo.out]; exact i1)))
                clear i1 CC
                refine wp_region_late2 (fun (W2 : World) => (W2.cell? ⟨w.heap.size, 0, none⟩ = some (.slice (some ⟨mb, mo, none⟩) no c) ∧ W2.cell? ⟨w.heap.size, 1, none⟩ = some (.slice (some ⟨ob, oo, none⟩) no d)) ∧ (W2.cell? ⟨wr.heap.size, 0, none⟩ = some (.int .i64 mk.size) ∧ W2.cell? ⟨wr.heap.size, 1, none⟩ = some (.slice x1 mk.doors.length x2) ∧ W2.cell? ⟨wr.heap.size, 2, none⟩ = some (.slice x3 mk.keys.length x4)) ∧ W2.cell? ⟨ob, oo + k, none⟩ = some (.slice y1 ok.length y2)) [] 23 #[false, false, false, false, false, false, false, false, false, false, false, false, false, false, false, false, false, false, false, false, false, false, false] rfl rfl (by kernel_rfl) ?_
                have hS : (fun (W2 : World) => (W2.cell? ⟨w.heap.size, 0, none⟩ = some (.slice (some ⟨mb, mo, none⟩) no c) ∧ W2.cell? ⟨w.heap.size, 1, none⟩ = some (.slice (some ⟨ob, oo, none⟩) no d)) ∧ (W2.cell? ⟨wr.heap.size, 0, none⟩ = some (.int .i64 mk.size) ∧ W2.cell? ⟨wr.heap.size, 1, none⟩ = some (.slice x1 mk.doors.length x2) ∧ W2.cell? ⟨wr.heap.size, 2, none⟩ = some (.slice x3 mk.keys.length x4)) ∧ W2.cell? ⟨ob, oo + k, none⟩ = some (.slice y1 ok.length y2)) W.drew := FX.out _ (Below.refl _ _)
                refine wpAnyL_take (i := 0) (oi := { dst := some 34, op := Go.Op.load 55 (Go.Operand.tmp 5), type := 55, pos := "l10_worlds.go:26", after := #[], guard := none }) (v := ?vv0) rfl (by kernel_rfl) (by kernel_rfl) (by kernel_rfl) (by kernel_rfl) (fun _ _ _ h => h) (Or.inl ⟨by rfl, ?vh0⟩) hS ?vr0
                case vh0 => (intro wS hSw; (try dsimp only at hSw); go_split_ands; go_simp; try with_reducible rfl)
                try simp only [Act.put, List.setIfInBounds_toArray, List.set_cons_zero, List.set_cons_succ]
                refine wpAnyL_one (i := 1) (oi := { dst := some 35, op := Go.Op.call { callee := Go.Callee.value (Go.Operand.func 62), args := #[Go.Operand.tmp 34], argTypes := #[55] }, type := 4, pos := "l10_worlds.go:26", after := #[{ on := 0, ground := Go.Ground.data }], guard := none }) (by kernel_rfl) rfl (fun Kv1 hKv1 => ?_)
                refine step_call (by rfl) 62 #[.agg #[.int .i64 mk.size, .slice x1 mk.doors.length x2, .slice x3 mk.keys.length x4]] (by go_simp; try rfl) (CM2) ?_
                rintro e w2 ⟨rfl, hb2⟩
                refine ⟨_, rfl, ?_⟩
                have hSs : (fun (W2 : World) => (W2.cell? ⟨w.heap.size, 0, none⟩ = some (.slice (some ⟨mb, mo, none⟩) no c) ∧ W2.cell? ⟨w.heap.size, 1, none⟩ = some (.slice (some ⟨ob, oo, none⟩) no d)) ∧ (W2.cell? ⟨wr.heap.size, 0, none⟩ = some (.int .i64 mk.size) ∧ W2.cell? ⟨wr.heap.size, 1, none⟩ = some (.slice x1 mk.doors.length x2) ∧ W2.cell? ⟨wr.heap.size, 2, none⟩ = some (.slice x3 mk.keys.length x4)) ∧ W2.cell? ⟨ob, oo + k, none⟩ = some (.slice y1 ok.length y2)) w2 := FX.out _ hb2
                refine hKv1 _ _ (fun _ => hSs) ?_
                clear hS
                have hS := hSs
                try simp only [Act.put, List.setIfInBounds_toArray, List.set_cons_zero, List.set_cons_succ]
                refine wpAnyL_take (i := 2) (oi := { dst := some 36, op := Go.Op.unOp Go.UnOp.not 4 (Go.Operand.tmp 35), type := 4, pos := "l10_worlds.go:26", after := #[{ on := 1, ground := Go.Ground.data }], guard := none }) (v := ?vv2) rfl (by kernel_rfl) (by kernel_rfl) (by kernel_rfl) (by kernel_rfl) (fun _ _ _ h => h) (Or.inl ⟨by rfl, ?vh2⟩) hS ?vr2
                case vh2 => (intro wS hSw; (try dsimp only at hSw); go_split_ands; go_simp; try with_reducible rfl)
                try simp only [Act.put, List.setIfInBounds_toArray, List.set_cons_zero, List.set_cons_succ]
                refine wpAnyL_take (i := 3) (oi := { dst := some 37, op := Go.Op.move (Go.Operand.tmp 36), type := 4, pos := "l10_worlds.go:26", after := #[{ on := 2, ground := Go.Ground.data }, { on := 1, ground := Go.Ground.chain }], guard := none }) (v := ?vv3) rfl (by kernel_rfl) (by kernel_rfl) (by kernel_rfl) (by kernel_rfl) (fun _ _ _ h => h) (Or.inl ⟨by rfl, ?vh3⟩) hS ?vr3
                case vh3 => (intro wS hSw; (try dsimp only at hSw); go_split_ands; go_simp; try with_reducible rfl)
                try simp only [Act.put, List.setIfInBounds_toArray, List.set_cons_zero, List.set_cons_succ]
                refine wpAnyL_take (i := 4) (oi := { dst := some 38, op := Go.Op.fieldAddr 30 (Go.Operand.tmp 1) 1, type := 0, pos := "l10_worlds.go:26", after := #[{ on := 3, ground := Go.Ground.guard }], guard := some (3, false) }) (v := ?vv4) rfl (by kernel_rfl) (by kernel_rfl) (by kernel_rfl) (by kernel_rfl) (fun _ _ _ h => h) (Or.inl ⟨by rfl, ?vh4⟩) hS ?vr4
                case vh4 => (intro wS hSw; (try dsimp only at hSw); go_split_ands; go_simp; try with_reducible rfl)
                try simp only [Act.put, List.setIfInBounds_toArray, List.set_cons_zero, List.set_cons_succ]
                refine wpAnyL_take (i := 5) (oi := { dst := some 39, op := Go.Op.load 23 (Go.Operand.tmp 38), type := 23, pos := "l10_worlds.go:26", after := #[{ on := 4, ground := Go.Ground.data }, { on := 3, ground := Go.Ground.guard }], guard := some (3, false) }) (v := ?vv5) rfl (by kernel_rfl) (by kernel_rfl) (by kernel_rfl) (by kernel_rfl) (fun _ _ _ h => h) (Or.inl ⟨by rfl, ?vh5⟩) hS ?vr5
                case vh5 => (intro wS hSw; (try dsimp only at hSw); go_split_ands; go_simp; try with_reducible rfl)
                try simp only [Act.put, List.setIfInBounds_toArray, List.set_cons_zero, List.set_cons_succ]
                refine wpAnyL_take (i := 6) (oi := { dst := some 40, op := Go.Op.move (Go.Operand.tmp 4), type := 3, pos := "l10_worlds.go:26", after := #[{ on := 3, ground := Go.Ground.guard }], guard := some (3, false) }) (v := ?vv6) rfl (by kernel_rfl) (by kernel_rfl) (by kernel_rfl) (by kernel_rfl) (fun _ _ _ h => h) (Or.inl ⟨by rfl, ?vh6⟩) hS ?vr6
                case vh6 => (intro wS hSw; (try dsimp only at hSw); go_split_ands; go_simp; try with_reducible rfl)
                try simp only [Act.put, List.setIfInBounds_toArray, List.set_cons_zero, List.set_cons_succ]
                refine wpAnyL_take (i := 7) (oi := { dst := some 41, op := Go.Op.indexAddr 23 (Go.Operand.tmp 39) (Go.Operand.tmp 40), type := 0, pos := "l10_worlds.go:26", after := #[{ on := 5, ground := Go.Ground.data }, { on := 6, ground := Go.Ground.data }, { on := 3, ground := Go.Ground.guard }], guard := some (3, false) }) (v := ?vv7) rfl (by kernel_rfl) (by kernel_rfl) (by kernel_rfl) (by kernel_rfl) (fun _ _ _ h => h) (Or.inl ⟨by rfl, ?vh7⟩) hS ?vr7
                case vh7 => (intro wS hSw; (try dsimp only at hSw); go_split_ands; go_simp; try with_reducible rfl)
                try simp only [Act.put, List.setIfInBounds_toArray, List.set_cons_zero, List.set_cons_succ]
                refine wpAnyL_take (i := 8) (oi := { dst := some 42, op := Go.Op.load 39 (Go.Operand.tmp 41), type := 39, pos := "l10_worlds.go:26", after := #[{ on := 7, ground := Go.Ground.data }, { on := 3, ground := Go.Ground.guard }], guard := some (3, false) }) (v := ?vv8) rfl (by kernel_rfl) (by kernel_rfl) (by kernel_rfl) (by kernel_rfl) (fun _ _ _ h => h) (Or.inl ⟨by rfl, ?vh8⟩) hS ?vr8
                case vh8 => (intro wS hSw; (try dsimp only at hSw); go_split_ands; go_simp; try with_reducible rfl)
                try simp only [Act.put, List.setIfInBounds_toArray, List.set_cons_zero, List.set_cons_succ]
                refine wpAnyL_take (i := 9) (oi := { dst := some 43, op := Go.Op.call { callee := Go.Callee.builtin Go.Builtin.len, args := #[Go.Operand.tmp 42], argTypes := #[39] }, type := 3, pos := "l10_worlds.go:26", after := #[{ on := 8, ground := Go.Ground.data }, { on := 3, ground := Go.Ground.guard }], guard := some (3, false) }) (v := ?vv9) rfl (by kernel_rfl) (by kernel_rfl) (by kernel_rfl) (by kernel_rfl) (fun _ _ _ h => h) (Or.inl ⟨by rfl, ?vh9⟩) hS ?vr9
                case vh9 => (intro wS hSw; (try dsimp only at hSw); go_split_ands; go_simp; try with_reducible rfl)
                try simp only [Act.put, List.setIfInBounds_toArray, List.set_cons_zero, List.set_cons_succ]
                refine wpAnyL_take (i := 10) (oi := { dst := some 44, op := Go.Op.fieldAddr 55 (Go.Operand.tmp 5) 0, type := 0, pos := "l10_worlds.go:26", after := #[{ on := 3, ground := Go.Ground.guard }], guard := some (3, false) }) (v := ?vv10) rfl (by kernel_rfl) (by kernel_rfl) (by kernel_rfl) (by kernel_rfl) (fun _ _ _ h => h) (Or.inl ⟨by rfl, ?vh10⟩) hS ?vr10
                case vh10 => (intro wS hSw; (try dsimp only at hSw); go_split_ands; go_simp; try with_reducible rfl)
                try simp only [Act.put, List.setIfInBounds_toArray, List.set_cons_zero, List.set_cons_succ]
                refine wpAnyL_take (i := 11) (oi := { dst := some 45, op := Go.Op.load 3 (Go.Operand.tmp 44), type := 3, pos := "l10_worlds.go:26", after := #[{ on := 10, ground := Go.Ground.data }, { on := 3, ground := Go.Ground.guard }], guard := some (3, false) }) (v := ?vv11) rfl (by kernel_rfl) (by kernel_rfl) (by kernel_rfl) (by kernel_rfl) (fun _ _ _ h => h) (Or.inl ⟨by rfl, ?vh11⟩) hS ?vr11
                case vh11 => (intro wS hSw; (try dsimp only at hSw); go_split_ands; go_simp; try with_reducible rfl)
                try simp only [Act.put, List.setIfInBounds_toArray, List.set_cons_zero, List.set_cons_succ]
                refine wpAnyL_take (i := 12) (oi := { dst := some 46, op := Go.Op.binOp Go.BinOp.neq 3 (Go.Operand.tmp 43) (Go.Operand.tmp 45) 3, type := 4, pos := "l10_worlds.go:26", after := #[{ on := 9, ground := Go.Ground.data }, { on := 11, ground := Go.Ground.data }, { on := 3, ground := Go.Ground.guard }], guard := some (3, false) }) (v := ?vv12) rfl (by kernel_rfl) (by kernel_rfl) (by kernel_rfl) (by kernel_rfl) (fun _ _ _ h => h) (Or.inl ⟨by rfl, ?vh12⟩) hS ?vr12
                case vh12 => (intro wS hSw; (try dsimp only at hSw); go_split_ands; go_simp; try with_reducible rfl)
                try simp only [Act.put, List.setIfInBounds_toArray, List.set_cons_zero, List.set_cons_succ]
                refine wpAnyL_take (i := 13) (oi := { dst := some 47, op := Go.Op.pick (Go.Operand.tmp 37) (Go.Operand.const (Go.Value.bool true)) (Go.Operand.tmp 46), type := 4, pos := "l10_worlds.go:26", after := #[{ on := 3, ground := Go.Ground.data }, { on := 12, ground := Go.Ground.data }], guard := none }) (v := ?vv13) rfl (by kernel_rfl) (by kernel_rfl) (by kernel_rfl) (by kernel_rfl) (fun _ _ _ h => h) (Or.inl ⟨by rfl, ?vh13⟩) hS ?vr13
                case vh13 => (intro wS hSw; (try dsimp only at hSw); go_split_ands; go_simp; try with_reducible rfl)
                try simp only [Act.put, List.setIfInBounds_toArray, List.set_cons_zero, List.set_cons_succ]
                refine wpAnyL_take (i := 14) (oi := { dst := some 48, op := Go.Op.move (Go.Operand.tmp 47), type := 4, pos := "l10_worlds.go:26", after := #[{ on := 13, ground := Go.Ground.data }, { on := 3, ground := Go.Ground.chain }], guard := none }) (v := ?vv14) rfl (by kernel_rfl) (by kernel_rfl) (by kernel_rfl) (by kernel_rfl) (fun _ _ _ h => h) (Or.inl ⟨by rfl, ?vh14⟩) hS ?vr14
                case vh14 => (intro wS hSw; (try dsimp only at hSw); go_split_ands; go_simp; try with_reducible rfl)
                try simp only [Act.put, List.setIfInBounds_toArray, List.set_cons_zero, List.set_cons_succ]
                refine wpAnyL_take (i := 15) (oi := { dst := some 49, op := Go.Op.fieldAddr 30 (Go.Operand.tmp 1) 1, type := 0, pos := "l10_worlds.go:26", after := #[{ on := 14, ground := Go.Ground.guard }], guard := some (14, false) }) (v := undef) rfl (by kernel_rfl) (by kernel_rfl) (by kernel_rfl) (by kernel_rfl) (fun _ _ _ h => h) (Or.inr ⟨by rfl, rfl⟩) hS ?vr15
                try simp only [Act.put, List.setIfInBounds_toArray, List.set_cons_zero, List.set_cons_succ]
                refine wpAnyL_take (i := 16) (oi := { dst := some 50, op := Go.Op.load 23 (Go.Operand.tmp 49), type := 23, pos := "l10_worlds.go:26", after := #[{ on := 15, ground := Go.Ground.data }, { on := 14, ground := Go.Ground.guard }], guard := some (14, false) }) (v := undef) rfl (by kernel_rfl) (by kernel_rfl) (by kernel_rfl) (by kernel_rfl) (fun _ _ _ h => h) (Or.inr ⟨by rfl, rfl⟩) hS ?vr16
                try simp only [Act.put, List.setIfInBounds_toArray, List.set_cons_zero, List.set_cons_succ]
                refine wpAnyL_take (i := 17) (oi := { dst := some 51, op := Go.Op.move (Go.Operand.tmp 4), type := 3, pos := "l10_worlds.go:26", after := #[{ on := 14, ground := Go.Ground.guard }], guard := some (14, false) }) (v := undef) rfl (by kernel_rfl) (by kernel_rfl) (by kernel_rfl) (by kernel_rfl) (fun _ _ _ h => h) (Or.inr ⟨by rfl, rfl⟩) hS ?vr17
                try simp only [Act.put, List.setIfInBounds_toArray, List.set_cons_zero, List.set_cons_succ]
                refine wpAnyL_take (i := 18) (oi := { dst := some 52, op := Go.Op.indexAddr 23 (Go.Operand.tmp 50) (Go.Operand.tmp 51), type := 0, pos := "l10_worlds.go:26", after := #[{ on := 16, ground := Go.Ground.data }, { on := 17, ground := Go.Ground.data }, { on := 14, ground := Go.Ground.guard }], guard := some (14, false) }) (v := undef) rfl (by kernel_rfl) (by kernel_rfl) (by kernel_rfl) (by kernel_rfl) (fun _ _ _ h => h) (Or.inr ⟨by rfl, rfl⟩) hS ?vr18
                try simp only [Act.put, List.setIfInBounds_toArray, List.set_cons_zero, List.set_cons_succ]
                refine wpAnyL_take (i := 19) (oi := { dst := some 53, op := Go.Op.load 39 (Go.Operand.tmp 52), type := 39, pos := "l10_worlds.go:26", after := #[{ on := 18, ground := Go.Ground.data }, { on := 14, ground := Go.Ground.guard }], guard := some (14, false) }) (v := undef) rfl (by kernel_rfl) (by kernel_rfl) (by kernel_rfl) (by kernel_rfl) (fun _ _ _ h => h) (Or.inr ⟨by rfl, rfl⟩) hS ?vr19
                try simp only [Act.put, List.setIfInBounds_toArray, List.set_cons_zero, List.set_cons_succ]
                refine wpAnyL_take (i := 20) (oi := { dst := some 54, op := Go.Op.move (Go.Operand.tmp 3), type := 68, pos := "l10_worlds.go:26", after := #[{ on := 14, ground := Go.Ground.guard }], guard := some (14, false) }) (v := undef) rfl (by kernel_rfl) (by kernel_rfl) (by kernel_rfl) (by kernel_rfl) (fun _ _ _ h => h) (Or.inr ⟨by rfl, rfl⟩) hS ?vr20
                try simp only [Act.put, List.setIfInBounds_toArray, List.set_cons_zero, List.set_cons_succ]
                refine wpAnyL_take (i := 21) (oi := { dst := some 55, op := Go.Op.call { callee := Go.Callee.value (Go.Operand.func 63), args := #[Go.Operand.tmp 53, Go.Operand.tmp 54], argTypes := #[39, 68] }, type := 4, pos := "l10_worlds.go:26", after := #[{ on := 19, ground := Go.Ground.data }, { on := 20, ground := Go.Ground.data }, { on := 14, ground := Go.Ground.chain }, { on := 14, ground := Go.Ground.guard }], guard := some (14, false) }) (v := undef) rfl (by kernel_rfl) (by kernel_rfl) (by kernel_rfl) (by kernel_rfl) (fun _ _ _ h => h) (Or.inr ⟨by rfl, rfl⟩) hS ?vr21
                try simp only [Act.put, List.setIfInBounds_toArray, List.set_cons_zero, List.set_cons_succ]
                refine wpAnyL_take (i := 22) (oi := { dst := some 56, op := Go.Op.pick (Go.Operand.tmp 48) (Go.Operand.const (Go.Value.bool true)) (Go.Operand.tmp 55), type := 4, pos := "l10_worlds.go:26", after := #[{ on := 14, ground := Go.Ground.data }, { on := 21, ground := Go.Ground.data }], guard := none }) (v := ?vv22) rfl (by kernel_rfl) (by kernel_rfl) (by kernel_rfl) (by kernel_rfl) (fun _ _ _ h => h) (Or.inl ⟨by rfl, ?vh22⟩) hS ?vr22
                case vh22 => (intro wS hSw; (try dsimp only at hSw); go_split_ands; go_simp; try with_reducible rfl)
                try simp only [Act.put, List.setIfInBounds_toArray, List.set_cons_zero, List.set_cons_succ]
                refine wpAnyL_done (by kernel_rfl) ?_ _
                · have HN2 := Lib.hid (HBW.out.drew.trans (hb2.mono hzW))
                  clear hb2
                  go_wp2_with fail
                  go_ret
                  exact ⟨by rw [HF.out]; rfl, HN2.out⟩
          · obtain rfl : k = no := by omega
            have HF : Hid (M.worldsB m = true) := Lib.hid (WY.out s1 s12 (by first | rfl | trivial) HA.out)
            go_wp2_with fail
            go_ret
            exact ⟨by rw [HF.out]; rfl, HN.out⟩
      · have HF : Hid (M.worldsB m = false) := Lib.hid (WN2.out s2)
        have hne : ((no : Int) != (n : Int)) = true := by simp only [bne_iff_ne, ne_eq]; omega
        clear s2
        go_enter Try.func18, Try.ntmps18
        go_wp2_with fail
        go_ret
        exact ⟨by rw [HF.out]; rfl, below_alloc _ _⟩
    · have HF : Hid (M.worldsB m = false) := Lib.hid (WN1.out (by unfold M.inB; exact decide_eq_false (by omega)))
      go_enter Try.func18, Try.ntmps18
      go_wp2_with fail
      go_ret
      exact ⟨by rw [HF.out]; rfl, below_alloc _ _⟩
  · have HF : Hid (M.worldsB m = false) := Lib.hid (WN1.out (by unfold M.inB; exact decide_eq_false (by omega)))
    go_enter Try.func18, Try.ntmps18
    go_wp2_with fail
    go_ret
    exact ⟨by rw [HF.out]; rfl, below_alloc _ _⟩
end C
end Go.Proofs.Ytbcobheiofajeaa
