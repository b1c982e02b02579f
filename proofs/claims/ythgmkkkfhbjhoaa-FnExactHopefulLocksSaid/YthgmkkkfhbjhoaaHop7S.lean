/-
  CONTRACT of spec.HopefulLocks: the locks behind which one can still win; what lay in memory stays. Condition: none.
-/
import Derived.Test.YthgmkkkfhbjhoaaVSrch
import Derived.Test.YthgmkkkfhbjhoaaVSpec
namespace Go.Proofs.Ythgmkkkfhbjhoaa
open Go.RowKit
namespace M
noncomputable def hopTo (m : Mz) (l nx : List Int) (j : Nat) : List Int := (nx.take j).filter fun k => hopeB m (l ++ [k])
theorem hopTo_yes {m : Mz} {l nx : List Int} {j : Nat} (hj : j < nx.length) (h : hopeB m (l ++ [nx[j]]) = true) : hopTo m l nx (j + 1) = hopTo m l nx j ++ [nx[j]] := by
  unfold hopTo
  rw [List.take_succ_eq_append_getElem hj, List.filter_append]
  congr 1
  simp [h]
theorem hopTo_no {m : Mz} {l nx : List Int} {j : Nat} (hj : j < nx.length) (h : hopeB m (l ++ [nx[j]]) = false) : hopTo m l nx (j + 1) = hopTo m l nx j := by
  unfold hopTo
  rw [List.take_succ_eq_append_getElem hj, List.filter_append]
  simp [h]
theorem hopTo_len (m : Mz) (l nx : List Int) (j : Nat) : (hopTo m l nx j).length ≤ nx.length := by
  unfold hopTo
  have h1 := List.length_filter_le (fun k => hopeB m (l ++ [k])) (nx.take j)
  rw [List.length_take] at h1
  omega
theorem hop_no {m : Mz} {l : List Int} (h : hopB m l = false) : hopV m l = [] := by unfold hopV; rw [h]; rfl
theorem hop_yes {m : Mz} {l : List Int} (h : hopB m l = true) : hopV m l = hopTo m l (nextO m (behO m l)) (nextO m (behO m l)).length := by
  unfold hopV hopTo
  rw [if_pos h, List.take_of_length_le (Nat.le_refl _)]
theorem hopV_len (m : Mz) (l : List Int) : (hopV m l).length ≤ 1048576 := by
  cases h : hopB m l with
  | false => rw [hop_no h]; simp
  | true =>
    rw [hop_yes h]
    have h1 := hopTo_len m l (nextO m (behO m l)) (nextO m (behO m l)).length
    have h2 := nextO_len m (behO m l)
    have ha : askB m l = true := by unfold hopB at h; rw [Bool.and_eq_true] at h; exact h.1
    have h3 := (valid_of (good_maze (ask_good7 ha))).few
    omega
end M
namespace C
set_option maxHeartbeats 6400000
set_option maxRecDepth 40000
theorem box3_of7 {w w' : World} {g B : Nat} {T : TypeId} {x y z : Value} (h : Box3 w g T x y z) (t : Below B w w') (hg : g < B) : Box3 w' g T x y z := (t.block g hg).trans h
theorem specHop_lw (w : World) (lo hi : Nat) (m : M.Mz) (a b : Option Addr) (c d : Nat) (h : MzIn lo hi w m a c b d) (hz : hi ≤ w.heap.size) (_h1 : m.doors.length ≤ 1048576) (_h2 : m.keys.length ≤ 1048576) (lo' hi' : Nat) (wa : Option Addr) (wcap : Nat) (walk : List Int) (hw : RowIn lo' hi' w wa (M.encIs walk)) (hz' : hi' ≤ w.heap.size) (hl : walk.length ≤ 1048576) (hcap : walk.length ≤ wcap) (_u2 : wcap ≤ 9223372036854775807) (_u3 : ∀ z ∈ walk, -9223372036854775808 ≤ z ∧ z ≤ 9223372036854775807) :
    Calls Try.prog 44 #[.agg #[.int .i64 m.size, .slice a m.doors.length c, .slice b m.keys.length d], .slice wa walk.length wcap] w (IntsOkPost w (M.hopV m walk) (M.hopB m walk)) := by
  obtain ⟨i0, hi0, iz0, iz1, iz2⟩ := info_parts infoI
  have H := Lib.hid h
  have HW := Lib.hid hw
  have HHB : Hid (M.hopB m walk = (M.askB m walk && !M.winsB m walk)) := Lib.hid rfl
  have HNO := Lib.hid (fun h => M.hop_no (m := m) (l := walk) h)
  have HYES := Lib.hid (fun h => M.hop_yes (m := m) (l := walk) h)
  generalize M.hopV m walk = hv at *
  generalize M.hopB m walk = hb at *
  clear h hw _u3
  go_enter Try.func44, Try.ntmps44
  go_upto_region 2 with fail
  refine wp_named ?_
  intro W hW
  have X1 := Lib.hid (show Box3 W w.heap.size 29 (.int .i64 m.size) (.slice a m.doors.length c) (.slice b m.keys.length d) by rw [hW]; exact (Box3.new _ _ _ _ rfl).alloc _)
  have HB := Lib.hid (show Below w.heap.size w W by rw [hW]; exact (below_alloc _ _).alloc (by simp) _)
  have OE := Lib.hid (show W.ownsRow (w.heap.size + 1) 3 1 (.slice (some ⟨w.heap.size + 1, 0, none⟩) 0 0) 0 [] by
    rw [hW]
    have := ownsRow_empty (w.alloc (.cells #[.int .i64 m.size, .slice a m.doors.length c, .slice b m.keys.length d] 29)) (w.heap.size + 1) 3 1 (by simp)
    simpa using this)
  have hzw : w.heap.size + 2 ≤ W.heap.size := by rw [hW]; simp
  clear hW
  obtain ⟨c0, c1, c2⟩ := X1.out.cells
  go_wp2_with fail
  refine (ask7_any W lo hi m a b c d (H.out.below HB.out hz) (by omega) lo' hi' wa wcap walk (HW.out.below HB.out hz') (by omega) hl hcap).mono ?_
  rintro e w1 ⟨rfl, hb1⟩
  have X2 := Lib.hid (X1.out.below hb1)
  have B2 := Lib.hid (HB.out.trans (hb1.mono (by omega)))
  have OE2 := Lib.hid (own_below OE.out hb1)
  have hz1 := hb1.size
  clear hb1 c0 c1 c2
  cases q0 : M.askB m walk with
  | false =>
    have HA := Lib.hid (show hb = false by rw [HHB.out, q0]; rfl)
    clear q0
    go_wp2_with fail
    go_ret2
    rw [HA.out, HNO.out HA.out]
    exact intsOk_end (l := []) (own_weaken OE2.out (by omega)) B2.out
  | true =>
    have HV := Lib.hid (M.valid_of (M.good_maze (M.ask_good7 q0)))
    have HIO := Lib.hid (M.ask_isO7 q0)
    have hf := M.good_few (M.ask_good7 q0)
    have hl30 : walk.length ≤ 10 := by have h1 := M.isO_len HV.out (M.ask_isO7 q0); omega
    have HA := Lib.hid (show hb = !M.winsB m walk by rw [HHB.out, q0]; rfl)
    obtain ⟨c0, c1, c2⟩ := X2.out.cells
    clear q0
    go_wp2_with fail
    refine (wins7_any w1 lo hi m a b c d (H.out.below B2.out hz) (by omega) HV.out lo' hi' wa wcap walk (HW.out.below B2.out hz') (by omega) hl hcap).mono ?_
    rintro e w2 ⟨rfl, hb2⟩
    have X3 := Lib.hid (X2.out.below hb2)
    have B3 := Lib.hid (B2.out.trans (hb2.mono (by omega)))
    have OE3 := Lib.hid (own_below OE2.out hb2)
    have hz2' := hb2.size
    clear hb2 c0 c1 c2
    cases q1 : M.winsB m walk with
    | true =>
      have HA2 := Lib.hid (show hb = false by rw [HA.out, q1]; rfl)
      clear q1
      go_wp2_with fail
      go_ret2
      rw [HA2.out, HNO.out HA2.out]
      exact intsOk_end (l := []) (own_weaken OE3.out (by omega)) B3.out
    | false =>
      have HA2 := Lib.hid (show hb = true by rw [HA.out, q1]; rfl)
      clear q1
      obtain ⟨c0, c1, c2⟩ := X3.out.cells
      go_wp2_with fail
      refine (next7_any w2 lo hi m a b c d (H.out.below B3.out hz) (by omega) HV.out lo' hi' wa wcap walk (HW.out.below B3.out hz') (by omega) (by omega) HIO.out).mono ?_
      rintro e w3 ⟨na, nc, rfl, hr, hr1, hr2, hb3⟩
      have X4 := Lib.hid (X3.out.below hb3)
      have B4 := Lib.hid (B3.out.trans (hb3.mono (by omega)))
      have OE4 := Lib.hid (own_below OE3.out hb3)
      have hz3 := hb3.size
      have hnx := M.nextO_len m (M.behO m walk)
      have hv30 := HV.out.few
      have NR : Hid (RowM 0 w3 (fun b => (Value.slice (some ⟨w.heap.size + 1, 0, none⟩) 0 0).ownBlock = some b) na (M.encIs (M.nextO m (M.behO m walk)))) := Lib.hid (by
        rcases hr with hr | ⟨g, o', cur, e1, h1, h2, h3, h4⟩
        · exact .inl hr
        · refine .inr ⟨g, o', e1, h2, fun hm => ?_, fun i' u' hu' => (cell_of_row w3 g (o' + i') cur 3 (0, 0) h3).trans (h4 i' u' hu'), fun _ => ⟨cur, h3, h4⟩⟩
          have h5 : w.heap.size + 1 = g := by simpa [Value.ownBlock] using hm
          omega)
      have HISO := Lib.hid (fun z (hz : z ∈ M.nextO m (M.behO m walk)) => show M.isO m (walk ++ [z]) = true by rw [M.isO_snoc, HIO.out, Bool.true_and, List.contains_iff_mem]; exact hz)
      obtain ⟨nx, hnxe⟩ : ∃ nx, nx = M.nextO m (M.behO m walk) := ⟨_, rfl⟩
      have HY := Lib.hid (HYES.out HA2.out)
      rw [← hnxe] at hnx NR HISO HY hr1
      rw [← hnxe]
      have OE5 : Hid (w3.ownsRow (w.heap.size + 1) 3 1 (.slice (some ⟨w.heap.size + 1, 0, none⟩) 0 0) (M.hopTo m walk nx 0).length (M.encIs (M.hopTo m walk nx 0))) := Lib.hid OE4.out
      clear hr hb3 hnxe c0 c1 c2 OE OE2 OE3 OE4
      go_wp2_with fail
      go_loopw [6, 8] (fun v6 v8 wr => ∃ (j : Nat), j ≤ nx.length ∧ v8 = .int .i64 (j : Int) ∧ wr.ownsRow (w.heap.size + 1) 3 1 v6 (M.hopTo m walk nx j).length (M.encIs (M.hopTo m walk nx j)) ∧ RowM 0 wr (fun b => v6.ownBlock = some b) na (M.encIs nx) ∧ Below (w.heap.size + 1) w3 wr) (fun _ v8 _ => nx.length - (intOf v8).toNat)
      case atStart => exact ⟨0, Nat.zero_le _, rfl, OE5.out, NR.out, Below.refl _ _⟩
      case round =>
        obtain ⟨j, hj, rfl, how, hnr, hbb⟩ := hrel
        have OW := Lib.hid how
        have NR5 := Lib.hid hnr
        have BB := Lib.hid hbb
        have hzr := hbb.size
        have BW := Lib.hid (B4.out.trans (hbb.mono (by omega)))
        have X5 := Lib.hid ((show Box3 wr w.heap.size 29 (.int .i64 m.size) (.slice a m.doors.length c) (.slice b m.keys.length d) from box3_of7 X4.out hbb (Nat.lt_succ_self _)))
        have hol := M.hopTo_len m walk nx j
        clear how hnr hbb
        by_cases hjl : j < nx.length
        · obtain ⟨nb, noff, rfl, _, hnb, hnc⟩ := NR5.out.row.at_ (k := j) (by rw [M.encIs_len]; exact hjl)
          have p1 := hnc _ _ (M.encIs_at hjl)
          have HIK := Lib.hid (HISO.out _ (List.getElem_mem hjl))
          have HTY := Lib.hid (fun h => M.hopTo_yes (m := m) (l := walk) hjl h)
          have HTN := Lib.hid (fun h => M.hopTo_no (m := m) (l := walk) hjl h)
          generalize nx[j] = k at *
          have hlen3 : (walk ++ [k]).length = walk.length + 1 := by rw [List.length_append]; rfl
          obtain ⟨c0, c1, c2⟩ := X5.out.cells
          clear hnc
          go_upto_region 8 with fail
          go_cut [38] (fun s38 wx => s38 = .bool (M.hopeB m (walk ++ [k])) ∧ Below wr.heap.size wr wx)
          case first =>
            refine wp_region_late2 (fun (wq : World) => wq.cell? ⟨w.heap.size, 0, none⟩ = some (.int .i64 m.size) ∧ wq.cell? ⟨w.heap.size, 1, none⟩ = some (.slice a m.doors.length c) ∧ wq.cell? ⟨w.heap.size, 2, none⟩ = some (.slice b m.keys.length d) ∧ wq.cell? ⟨nb, noff + j, none⟩ = some (.int .i64 k)) [] 10 #[false, false, false, false, false, false, false, false, false, false] rfl rfl (by kernel_rfl) ?_
            have hS : (fun (wq : World) => wq.cell? ⟨w.heap.size, 0, none⟩ = some (.int .i64 m.size) ∧ wq.cell? ⟨w.heap.size, 1, none⟩ = some (.slice a m.doors.length c) ∧ wq.cell? ⟨w.heap.size, 2, none⟩ = some (.slice b m.keys.length d) ∧ wq.cell? ⟨nb, noff + j, none⟩ = some (.int .i64 k)) wr.drew := ⟨c0, c1, c2, p1⟩
            refine wpAnyL_take (i := 0) (oi := { dst := some 29, op := Go.Op.load 29 (Go.Operand.tmp 2), type := 29, pos := "l7_spent.go:225", after := #[], guard := none }) (v := ?qv0) rfl (by kernel_rfl) (by kernel_rfl) (by kernel_rfl) (by kernel_rfl) (fun _ _ _ h => h) (Or.inl ⟨by rfl, ?qh0⟩) hS ?qr0
            case qh0 => (intro wS hSw; (try dsimp only at hSw); go_split_ands; go_simp; try with_reducible rfl)
            try simp only [Act.put, List.setIfInBounds_toArray, List.set_cons_zero, List.set_cons_succ]
            refine wpAnyL_take (i := 1) (oi := { dst := some 30, op := Go.Op.move (Go.Operand.tmp 1), type := 23, pos := "l7_spent.go:225", after := #[], guard := none }) (v := ?qv1) rfl (by kernel_rfl) (by kernel_rfl) (by kernel_rfl) (by kernel_rfl) (fun _ _ _ h => h) (Or.inl ⟨by rfl, ?qh1⟩) hS ?qr1
            case qh1 => (intro wS hSw; (try dsimp only at hSw); go_split_ands; go_simp; try with_reducible rfl)
            try simp only [Act.put, List.setIfInBounds_toArray, List.set_cons_zero, List.set_cons_succ]
            refine wpAnyL_take (i := 3) (oi := { dst := some 32, op := Go.Op.move (Go.Operand.tmp 7), type := 23, pos := "l7_spent.go:225", after := #[], guard := none }) (v := ?qv3) rfl (by kernel_rfl) (by kernel_rfl) (by kernel_rfl) (by kernel_rfl) (fun _ _ _ h => h) (Or.inl ⟨by rfl, ?qh3⟩) hS ?qr3
            case qh3 => (intro wS hSw; (try dsimp only at hSw); go_split_ands; go_simp; try with_reducible rfl)
            try simp only [Act.put, List.setIfInBounds_toArray, List.set_cons_zero, List.set_cons_succ]
            refine wpAnyL_take (i := 4) (oi := { dst := some 33, op := Go.Op.move (Go.Operand.tmp 8), type := 3, pos := "l7_spent.go:225", after := #[], guard := none }) (v := ?qv4) rfl (by kernel_rfl) (by kernel_rfl) (by kernel_rfl) (by kernel_rfl) (fun _ _ _ h => h) (Or.inl ⟨by rfl, ?qh4⟩) hS ?qr4
            case qh4 => (intro wS hSw; (try dsimp only at hSw); go_split_ands; go_simp; try with_reducible rfl)
            try simp only [Act.put, List.setIfInBounds_toArray, List.set_cons_zero, List.set_cons_succ]
            refine wpAnyL_take (i := 5) (oi := { dst := some 34, op := Go.Op.indexAddr 23 (Go.Operand.tmp 32) (Go.Operand.tmp 33), type := 0, pos := "l7_spent.go:225", after := #[{ on := 3, ground := Go.Ground.data }, { on := 4, ground := Go.Ground.data }], guard := none }) (v := ?qv5) rfl (by kernel_rfl) (by kernel_rfl) (by kernel_rfl) (by kernel_rfl) (fun _ _ _ h => h) (Or.inl ⟨by rfl, ?qh5⟩) hS ?qr5
            case qh5 => (intro wS hSw; (try dsimp only at hSw); go_split_ands; go_simp; try with_reducible rfl)
            try simp only [Act.put, List.setIfInBounds_toArray, List.set_cons_zero, List.set_cons_succ]
            refine wpAnyL_take (i := 6) (oi := { dst := some 35, op := Go.Op.load 3 (Go.Operand.tmp 34), type := 3, pos := "l7_spent.go:225", after := #[{ on := 5, ground := Go.Ground.data }], guard := none }) (v := ?qv6) rfl (by kernel_rfl) (by kernel_rfl) (by kernel_rfl) (by kernel_rfl) (fun _ _ _ h => h) (Or.inl ⟨by rfl, ?qh6⟩) hS ?qr6
            case qh6 => (intro wS hSw; (try dsimp only at hSw); go_split_ands; go_simp; try with_reducible rfl)
            try simp only [Act.put, List.setIfInBounds_toArray, List.set_cons_zero, List.set_cons_succ]
            refine wpAnyL_two (i := 2) (j := 7) (oi := { dst := some 31, op := Go.Op.call { callee := Go.Callee.value (Go.Operand.func 78), args := #[Go.Operand.tmp 30], argTypes := #[23] }, type := 23, pos := "l7_spent.go:225", after := #[{ on := 1, ground := Go.Ground.data }], guard := none }) (oj := { dst := some 36, op := Go.Op.buildSlice 23 1 #[(0, Go.Operand.tmp 35)], type := 23, pos := "l7_spent.go:225", after := #[{ on := 6, ground := Go.Ground.data }], guard := none }) (by kernel_rfl) rfl rfl (fun KA hKA => ?_) (fun KA hKA => ?_)
            · refine step_call (by rfl) 78 #[.slice wa walk.length wcap] (by go_simp; try rfl) (l1Own_own wr.drew lo' hi' wa wcap walk (HW.out.below (BW.out.drew) hz') (by first | omega | (simp; omega)) (by omega)) ?_
              rintro e w5 ⟨pa, pc, rfl, hp, hbw5⟩
              refine ⟨_, rfl, ?_⟩
              have hbw5x : Below wr.heap.size wr w5 := (Below.refl wr.heap.size wr).drew.trans hbw5
              have hsw5 : (fun (wq : World) => wq.cell? ⟨w.heap.size, 0, none⟩ = some (.int .i64 m.size) ∧ wq.cell? ⟨w.heap.size, 1, none⟩ = some (.slice a m.doors.length c) ∧ wq.cell? ⟨w.heap.size, 2, none⟩ = some (.slice b m.keys.length d) ∧ wq.cell? ⟨nb, noff + j, none⟩ = some (.int .i64 k)) w5 := ⟨(X5.out.below hbw5x).cells.1, (X5.out.below hbw5x).cells.2.1, (X5.out.below hbw5x).cells.2.2, (hbw5x.cell (p := ⟨nb, noff + j, none⟩) (show nb < _ by omega)).trans p1⟩
              refine hKA _ _ (fun _ => hsw5) ?_
              clear hS
              have hS := hsw5
              try simp only [Act.put, List.setIfInBounds_toArray, List.set_cons_zero, List.set_cons_succ]
              refine wpAnyL_one (i := 7) (oi := { dst := some 36, op := Go.Op.buildSlice 23 1 #[(0, Go.Operand.tmp 35)], type := 23, pos := "l7_spent.go:225", after := #[{ on := 6, ground := Go.Ground.data }], guard := none }) (by kernel_rfl) rfl (fun KB hKB => ?_)
              go_simp
              have hbw6x : Below wr.heap.size wr (w5.alloc (.cells #[.int .i64 k] 3)) := hbw5x.alloc (by have := hbw5x.size; omega) _
              have hsw6 : (fun (wq : World) => wq.cell? ⟨w.heap.size, 0, none⟩ = some (.int .i64 m.size) ∧ wq.cell? ⟨w.heap.size, 1, none⟩ = some (.slice a m.doors.length c) ∧ wq.cell? ⟨w.heap.size, 2, none⟩ = some (.slice b m.keys.length d) ∧ wq.cell? ⟨nb, noff + j, none⟩ = some (.int .i64 k)) (w5.alloc (.cells #[.int .i64 k] 3)) := ⟨(X5.out.below hbw6x).cells.1, (X5.out.below hbw6x).cells.2.1, (X5.out.below hbw6x).cells.2.2, (hbw6x.cell (p := ⟨nb, noff + j, none⟩) (show nb < _ by omega)).trans p1⟩
              have hsz5 := hbw5x.size
              refine hKB _ _ (fun _ => hsw6) ?_
              clear hS
              have hS := hsw6
              try simp only [List.setIfInBounds_toArray, List.set_cons_zero, List.set_cons_succ]
              refine wpAnyL_one (i := 8) (oi := { dst := some 37, op := Go.Op.call { callee := Go.Callee.builtin Go.Builtin.append, args := #[Go.Operand.tmp 31, Go.Operand.tmp 36], argTypes := #[23, 23] }, type := 23, pos := "l7_spent.go:225", after := #[{ on := 2, ground := Go.Ground.data }, { on := 7, ground := Go.Ground.data }, { on := 2, ground := Go.Ground.chain }], guard := none }) (by kernel_rfl) rfl (fun KC hKC => ?_)
              refine step_append_own rfl (.tmp 31) (.tmp 36) 23 rfl wr.heap.size 3 i0 (.int .i64 0) 1 8 Try.underlying23 hi0 iz0 iz1 iz2 rfl (by decide) _ _ _ ((show w5.ownsRow wr.heap.size 3 1 (.slice pa walk.length pc) walk.length (M.encIs walk) from hp).alloc _) (by first | (simp [Act.eval]; done) | simp [Act.eval, Act.put]) ⟨w5.heap.size, 0, none⟩ 1 1 [.int .i64 k] (by first | (simp [Act.eval]; done) | simp [Act.eval, Act.put]) rfl (cell_one_new w5 _ _) (fun x hx => by simp at hx; subst hx; rfl) (by unfold maxLen; omega) (by omega) (by first | omega | (simp; omega)) ?_
              intro v7 w7 hown7 hgrow7 hnil7
              obtain ⟨ga, gc, hv7, hg1, hg2, hgo⟩ := own_slice hown7
              subst hv7
              have hbw7x : Below wr.heap.size wr w7 := (hbw6x).grown hgrow7 (by first | omega | (simp; omega)) (own_base (show w5.ownsRow wr.heap.size 3 1 (.slice pa walk.length pc) walk.length (M.encIs walk) from hp))
              have hsw7 : (fun (wq : World) => wq.cell? ⟨w.heap.size, 0, none⟩ = some (.int .i64 m.size) ∧ wq.cell? ⟨w.heap.size, 1, none⟩ = some (.slice a m.doors.length c) ∧ wq.cell? ⟨w.heap.size, 2, none⟩ = some (.slice b m.keys.length d) ∧ wq.cell? ⟨nb, noff + j, none⟩ = some (.int .i64 k)) w7 := ⟨(X5.out.below hbw7x).cells.1, (X5.out.below hbw7x).cells.2.1, (X5.out.below hbw7x).cells.2.2, (hbw7x.cell (p := ⟨nb, noff + j, none⟩) (show nb < _ by omega)).trans p1⟩
              have hsz7 := hbw7x.size
              refine hKC _ _ (fun _ => hsw7) ?_
              clear hS
              have hS := hsw7
              try simp only [Act.put, List.setIfInBounds_toArray, List.set_cons_zero, List.set_cons_succ]
              have hgr : RowIn 0 w7.heap.size w7 ga (M.encIs (walk ++ [k])) := by rw [M.encIs_append]; exact hgo.row.mono (Nat.zero_le _) (Nat.le_refl _)
              have hh7 := hope7_any w7 lo hi m a b c d (H.out.below (BW.out.trans (hbw7x.mono (by omega))) hz) (by omega) HV.out hf 0 w7.heap.size ga gc (walk ++ [k]) hgr (Nat.le_refl _) HIK.out (by rw [hlen3]; exact hg1) hg2
              rw [hlen3] at hh7
              refine wpAnyL_one (i := 9) (oi := { dst := some 38, op := Go.Op.call { callee := Go.Callee.value (Go.Operand.func 77), args := #[Go.Operand.tmp 29, Go.Operand.tmp 37], argTypes := #[29, 23] }, type := 4, pos := "l7_spent.go:225", after := #[{ on := 0, ground := Go.Ground.data }, { on := 8, ground := Go.Ground.data }, { on := 8, ground := Go.Ground.chain }], guard := none }) (by kernel_rfl) rfl (fun KD hKD => ?_)
              refine step_call (by rfl) 77 #[.agg #[.int .i64 m.size, .slice a m.doors.length c, .slice b m.keys.length d], .slice ga (walk.length + 1) gc] (by go_simp; try rfl) hh7 ?_
              rintro e w8 ⟨rfl, hb8⟩
              refine ⟨_, rfl, ?_⟩
              have hbw8x : Below wr.heap.size wr w8 := hbw7x.trans (hb8.mono hsz7)
              have hsw8 : (fun (wq : World) => wq.cell? ⟨w.heap.size, 0, none⟩ = some (.int .i64 m.size) ∧ wq.cell? ⟨w.heap.size, 1, none⟩ = some (.slice a m.doors.length c) ∧ wq.cell? ⟨w.heap.size, 2, none⟩ = some (.slice b m.keys.length d) ∧ wq.cell? ⟨nb, noff + j, none⟩ = some (.int .i64 k)) w8 := ⟨(X5.out.below hbw8x).cells.1, (X5.out.below hbw8x).cells.2.1, (X5.out.below hbw8x).cells.2.2, (hbw8x.cell (p := ⟨nb, noff + j, none⟩) (show nb < _ by omega)).trans p1⟩
              refine hKD _ _ (fun _ => hsw8) ?_
              clear hS
              have hS := hsw8
              try simp only [Act.put, List.setIfInBounds_toArray, List.set_cons_zero, List.set_cons_succ]
              refine wpAnyL_done (by kernel_rfl) ?_ _
              go_wp2_with fail
              go_meet
              exact ⟨rfl, hbw8x⟩
            · go_simp
              have hbw6x : Below wr.heap.size wr (wr.drew.alloc (.cells #[.int .i64 k] 3)) := (Below.refl wr.heap.size wr).drew.alloc (Nat.le_refl _) _
              have hsw6 : (fun (wq : World) => wq.cell? ⟨w.heap.size, 0, none⟩ = some (.int .i64 m.size) ∧ wq.cell? ⟨w.heap.size, 1, none⟩ = some (.slice a m.doors.length c) ∧ wq.cell? ⟨w.heap.size, 2, none⟩ = some (.slice b m.keys.length d) ∧ wq.cell? ⟨nb, noff + j, none⟩ = some (.int .i64 k)) (wr.drew.alloc (.cells #[.int .i64 k] 3)) := ⟨(X5.out.below hbw6x).cells.1, (X5.out.below hbw6x).cells.2.1, (X5.out.below hbw6x).cells.2.2, (hbw6x.cell (p := ⟨nb, noff + j, none⟩) (show nb < _ by omega)).trans p1⟩
              refine hKA _ _ (fun _ => hsw6) ?_
              clear hS
              have hS := hsw6
              try simp only [List.setIfInBounds_toArray, List.set_cons_zero, List.set_cons_succ]
              refine wpAnyL_one (i := 2) (oi := { dst := some 31, op := Go.Op.call { callee := Go.Callee.value (Go.Operand.func 78), args := #[Go.Operand.tmp 30], argTypes := #[23] }, type := 23, pos := "l7_spent.go:225", after := #[{ on := 1, ground := Go.Ground.data }], guard := none }) (by kernel_rfl) rfl (fun KB hKB => ?_)
              refine step_call (by rfl) 78 #[.slice wa walk.length wcap] (by go_simp; try rfl) (l1Own_own (wr.drew.alloc (.cells #[.int .i64 k] 3)) lo' hi' wa wcap walk (HW.out.below (BW.out.trans (hbw6x.mono (by omega))) hz') (by first | omega | (simp; omega)) (by omega)) ?_
              rintro e w5 ⟨pa, pc, rfl, hp, hbw5⟩
              refine ⟨_, rfl, ?_⟩
              have hbw5x : Below wr.heap.size wr w5 := hbw6x.trans (hbw5.mono (by simp))
              have hsw5 : (fun (wq : World) => wq.cell? ⟨w.heap.size, 0, none⟩ = some (.int .i64 m.size) ∧ wq.cell? ⟨w.heap.size, 1, none⟩ = some (.slice a m.doors.length c) ∧ wq.cell? ⟨w.heap.size, 2, none⟩ = some (.slice b m.keys.length d) ∧ wq.cell? ⟨nb, noff + j, none⟩ = some (.int .i64 k)) w5 := ⟨(X5.out.below hbw5x).cells.1, (X5.out.below hbw5x).cells.2.1, (X5.out.below hbw5x).cells.2.2, (hbw5x.cell (p := ⟨nb, noff + j, none⟩) (show nb < _ by omega)).trans p1⟩
              refine hKB _ _ (fun _ => hsw5) ?_
              clear hS
              have hS := hsw5
              try simp only [Act.put, List.setIfInBounds_toArray, List.set_cons_zero, List.set_cons_succ]
              have hsz5 := hbw5x.size
              have hcn : ∀ j u, ([Value.int .i64 k])[j]? = some u → w5.cell? ((⟨wr.heap.size, 0, none⟩ : Addr).add j) = some u := (fun j u hu => by have h1 := cell_one_new wr.drew (.int .i64 k) 3 j u hu; have h2 : ((⟨wr.heap.size, 0, none⟩ : Addr).add j).block = wr.heap.size := (by unfold Addr.add; split <;> rfl); exact (hbw5.cell (p := (⟨wr.heap.size, 0, none⟩ : Addr).add j) (by rw [h2]; simp)).trans h1)
              refine wpAnyL_one (i := 8) (oi := { dst := some 37, op := Go.Op.call { callee := Go.Callee.builtin Go.Builtin.append, args := #[Go.Operand.tmp 31, Go.Operand.tmp 36], argTypes := #[23, 23] }, type := 23, pos := "l7_spent.go:225", after := #[{ on := 2, ground := Go.Ground.data }, { on := 7, ground := Go.Ground.data }, { on := 2, ground := Go.Ground.chain }], guard := none }) (by kernel_rfl) rfl (fun KC hKC => ?_)
              refine step_append_own rfl (.tmp 31) (.tmp 36) 23 rfl wr.heap.size 3 i0 (.int .i64 0) 1 8 Try.underlying23 hi0 iz0 iz1 iz2 rfl (by decide) _ _ _ (own_weaken (show w5.ownsRow (wr.heap.size + 1) 3 1 (.slice pa walk.length pc) walk.length (M.encIs walk) from by simpa using hp) (Nat.le_succ _)) (by first | (simp [Act.eval]; done) | simp [Act.eval, Act.put]) ⟨wr.heap.size, 0, none⟩ 1 1 [.int .i64 k] (by first | (simp [Act.eval]; done) | simp [Act.eval, Act.put]) rfl (hcn) (fun x hx => by simp at hx; subst hx; rfl) (by unfold maxLen; omega) (by omega) (by first | omega | (simp; omega)) ?_
              intro v7 w7 hown7 hgrow7 hnil7
              obtain ⟨ga, gc, hv7, hg1, hg2, hgo⟩ := own_slice hown7
              subst hv7
              have hbw7x : Below wr.heap.size wr w7 := (hbw5x).grown hgrow7 (by first | omega | (simp; omega)) (own_base (own_weaken (show w5.ownsRow (wr.heap.size + 1) 3 1 (.slice pa walk.length pc) walk.length (M.encIs walk) from by simpa using hp) (Nat.le_succ _)))
              have hsw7 : (fun (wq : World) => wq.cell? ⟨w.heap.size, 0, none⟩ = some (.int .i64 m.size) ∧ wq.cell? ⟨w.heap.size, 1, none⟩ = some (.slice a m.doors.length c) ∧ wq.cell? ⟨w.heap.size, 2, none⟩ = some (.slice b m.keys.length d) ∧ wq.cell? ⟨nb, noff + j, none⟩ = some (.int .i64 k)) w7 := ⟨(X5.out.below hbw7x).cells.1, (X5.out.below hbw7x).cells.2.1, (X5.out.below hbw7x).cells.2.2, (hbw7x.cell (p := ⟨nb, noff + j, none⟩) (show nb < _ by omega)).trans p1⟩
              have hsz7 := hbw7x.size
              refine hKC _ _ (fun _ => hsw7) ?_
              clear hS
              have hS := hsw7
              try simp only [Act.put, List.setIfInBounds_toArray, List.set_cons_zero, List.set_cons_succ]
              have hgr : RowIn 0 w7.heap.size w7 ga (M.encIs (walk ++ [k])) := by rw [M.encIs_append]; exact hgo.row.mono (Nat.zero_le _) (Nat.le_refl _)
              have hh7 := hope7_any w7 lo hi m a b c d (H.out.below (BW.out.trans (hbw7x.mono (by omega))) hz) (by omega) HV.out hf 0 w7.heap.size ga gc (walk ++ [k]) hgr (Nat.le_refl _) HIK.out (by rw [hlen3]; exact hg1) hg2
              rw [hlen3] at hh7
              refine wpAnyL_one (i := 9) (oi := { dst := some 38, op := Go.Op.call { callee := Go.Callee.value (Go.Operand.func 77), args := #[Go.Operand.tmp 29, Go.Operand.tmp 37], argTypes := #[29, 23] }, type := 4, pos := "l7_spent.go:225", after := #[{ on := 0, ground := Go.Ground.data }, { on := 8, ground := Go.Ground.data }, { on := 8, ground := Go.Ground.chain }], guard := none }) (by kernel_rfl) rfl (fun KD hKD => ?_)
              refine step_call (by rfl) 77 #[.agg #[.int .i64 m.size, .slice a m.doors.length c, .slice b m.keys.length d], .slice ga (walk.length + 1) gc] (by go_simp; try rfl) hh7 ?_
              rintro e w8 ⟨rfl, hb8⟩
              refine ⟨_, rfl, ?_⟩
              have hbw8x : Below wr.heap.size wr w8 := hbw7x.trans (hb8.mono hsz7)
              have hsw8 : (fun (wq : World) => wq.cell? ⟨w.heap.size, 0, none⟩ = some (.int .i64 m.size) ∧ wq.cell? ⟨w.heap.size, 1, none⟩ = some (.slice a m.doors.length c) ∧ wq.cell? ⟨w.heap.size, 2, none⟩ = some (.slice b m.keys.length d) ∧ wq.cell? ⟨nb, noff + j, none⟩ = some (.int .i64 k)) w8 := ⟨(X5.out.below hbw8x).cells.1, (X5.out.below hbw8x).cells.2.1, (X5.out.below hbw8x).cells.2.2, (hbw8x.cell (p := ⟨nb, noff + j, none⟩) (show nb < _ by omega)).trans p1⟩
              refine hKD _ _ (fun _ => hsw8) ?_
              clear hS
              have hS := hsw8
              try simp only [Act.put, List.setIfInBounds_toArray, List.set_cons_zero, List.set_cons_succ]
              refine wpAnyL_done (by kernel_rfl) ?_ _
              go_wp2_with fail
              go_meet
              exact ⟨rfl, hbw8x⟩
          case rest =>
            obtain ⟨rfl, hbc⟩ := hcut
            have OW2 := Lib.hid (own_below OW.out hbc)
            have NR6 := Lib.hid (NR5.out.step hbc.size (fun b' hb' _ => hbc.block b' hb') fun _ _ h => h)
            have BB2 := Lib.hid (BB.out.trans (hbc.mono (by omega)))
            have p2 := (hbc.cell (p := ⟨nb, noff + j, none⟩) (show nb < _ by omega)).trans p1
            have hzc := hbc.size
            clear hbc p1 c0 c1 c2
            cases q2 : M.hopeB m (walk ++ [k]) with
            | false =>
              have HE := Lib.hid (HTN.out q2)
              clear q2
              go_wp2_with fail
              go_roundw
              case rel => exact ⟨j + 1, by omega, by go_num, by rw [HE.out]; exact OW2.out, NR6.out, BB2.out⟩
              case measure => simp [intOf]; omega
            | true =>
              have HE := Lib.hid (HTY.out q2)
              clear q2
              have hown := OW2.out
              have hcn := cell_one_new wc (.int .i64 k) 3
              go_wp2_with (at_builtin; refine wpList_append_own_at _ rfl _ _ 23 rfl (w.heap.size + 1) 3 i0 (.int .i64 0) 1 8 Try.underlying23 hi0 iz0 iz1 iz2 rfl (by decide) _ _ _ rfl (hown.alloc _) ⟨wc.heap.size, 0, none⟩ 1 1 [.int .i64 k] rfl rfl hcn (fun x hx => by simp at hx; subst hx; rfl) (by unfold maxLen; omega) (by omega) (by simp; omega) ?_; intro v8 w8 hown8 hgrow8 hnil8 hat8)
              go_roundw
              case rel =>
                have hg0 : wc.grownBy w8 _ := (World.grownBy_alloc wc (.cells #[.int .i64 k] 3) _).trans hgrow8
                refine ⟨j + 1, by omega, by go_num, ?_, NR6.out.step hg0.size (fun b' hb' hm => hg0.block b' hb' fun e => hm e.symm) (fun b' hb' hm e => ?_), ?_⟩
                · rw [HE.out, List.length_append, M.encIs_append]; exact hown8
                · rcases hat8 with h | h
                  · exact hm (h.symm.trans e)
                  · have e2 := h.symm.trans e; rw [World.size_alloc] at e2; injection e2 with e2; omega
                · exact BB2.out.trans ((⟨hg0.os, hg0.tape, hg0.output, hg0.size, fun b' hb' => hg0.block b' (by omega) fun e => by have := (OW2.out.lt b' e.symm).1; omega⟩ : Below (w.heap.size + 1) wc w8))
              case measure => simp [intOf]; omega
        · obtain rfl : j = nx.length := by omega
          go_wp2_with fail
          go_ret2
          rw [HA2.out, HY.out]
          exact intsOk_end (own_weaken OW.out (by omega)) BW.out
end C
end Go.Proofs.Ythgmkkkfhbjhoaa
