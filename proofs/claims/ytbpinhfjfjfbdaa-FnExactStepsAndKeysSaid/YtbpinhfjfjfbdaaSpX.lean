/-
  CONTRACTS of the model's StepsTable, StepsAndKeys, FewestKeys; what lay in memory stays. No condition but that the maze reads so.
-/
import Derived.Test.YtbpinhfjfjfbdaaSpW
namespace Go.Proofs.Ytbpinhfjfjfbdaa
open Go.RowKit
namespace C
set_option maxHeartbeats 3200000
set_option maxRecDepth 20000
theorem specTab_lw (w : World) (lo hi : Nat) (m : M.Mz) (a b : Option Addr) (c d : Nat) (h : MzIn lo hi w m a c b d) (hz : hi ≤ w.heap.size) (_h1 : m.doors.length ≤ 1048576) (_h2 : m.keys.length ≤ 1048576) :
    Calls Try.prog 20 #[.agg #[.int .i64 m.size, .slice a m.doors.length c, .slice b m.keys.length d]] w (IntsOkPost w (M.tabV m) (M.mazeB m)) := by
  obtain ⟨ii0, hi0, hz0, hzz1, hz2⟩ := info_parts infoI
  have H := Lib.hid h
  clear h
  go_enter Try.func20, Try.ntmps20
  go_upto_region 2 with fail
  refine wp_named ?_
  intro W hW
  have hb : Below w.heap.size w W := by rw [hW]; exact (below_alloc _ _).alloc (by simp) _
  have x1 : Box3 W w.heap.size 29 (.int .i64 m.size) (.slice a m.doors.length c) (.slice b m.keys.length d) := by rw [hW]; exact (Box3.new _ _ _ _ rfl).alloc _
  have o1 : W.ownsRow (w.heap.size + 1) 3 1 (.slice (some ⟨w.heap.size + 1, 0, none⟩) 0 0) 0 [] := by
    rw [hW]
    have := ownsRow_empty (w.alloc (.cells #[.int .i64 m.size, .slice a m.doors.length c, .slice b m.keys.length d] 29)) (w.heap.size + 1) 3 1 (by simp)
    rw [World.size_alloc] at this
    exact this
  clear hW
  have hzw := hb.size
  have O1 := Lib.hid o1
  have hol : w.heap.size + 1 < W.heap.size := (o1.lt _ rfl).2
  obtain ⟨c0, c1, c2⟩ := x1.cells
  have HIM := Lib.hid (specMaze_any W lo hi m a b c d (H.out.below hb hz) (by omega))
  go_wp2_with fail
  refine (HIM.out).mono ?_
  rintro e w1 ⟨rfl, hb1⟩
  have X1 := Lib.hid (x1.below hb1)
  have HB1 := Lib.hid (hb.trans (hb1.mono hzw))
  have O2 := Lib.hid (own_below O1.out hb1)
  have hz1 := hb1.size
  clear hb hb1 x1 c0 c1 c2 o1
  cases q0 : M.mazeB m with
  | false =>
    have HF : Hid (M.tabV m = []) := Lib.hid (by unfold M.tabV; rw [q0]; rfl)
    have HM := Lib.hid q0
    clear q0
    go_wp2_with fail
    go_ret2
    rw [HF.out, HM.out]
    exact intsOk_end (l := []) (own_weak O2.out (by omega)) HB1.out
  | true =>
    have HVA := Lib.hid (M.valid_of q0)
    have HM := Lib.hid q0
    have v1 := HVA.out.size1
    have v12 := HVA.out.size12
    obtain ⟨n, hn'⟩ : ∃ n : Nat, (n : Int) = m.size := ⟨m.size.toNat, by omega⟩
    have hn12 : n ≤ 12 := by omega
    have HF : Hid (M.tabV m = M.stepsTo m M.nodeP n) := Lib.hid (by unfold M.tabV; rw [if_pos q0]; congr 1; omega)
    have HN := Lib.hid hn'
    clear hn'
    clear q0
    have HWY := Lib.hid (fun k : Nat => M.way_same HVA.out (M.st0_ok HVA.out) (p := M.leastB (k : Int) 0 6) (q := M.nodeP (k : Int)) fun t ht => M.leastB_node ht (k : Int))
    have CF := Lib.hid (l4First_any w1 lo hi m a b c d (H.out.below HB1.out hz) (by have := HB1.out.size; omega) HVA.out)
    obtain ⟨c0, c1, c2⟩ := X1.out.cells
    go_wp2_with fail
    refine (CF.out).mono ?_
    rintro e w2 ⟨ra, rc, rfl, ho2, hb2⟩
    have X2 := Lib.hid (X1.out.below hb2)
    have HB2 := Lib.hid (HB1.out.trans (hb2.mono HB1.out.size))
    have O3 := Lib.hid (own_below O2.out hb2)
    have R2 : Hid (RowIn w1.heap.size w2.heap.size w2 ra (M.encIs (M.tblL (M.size64 m) (M.dst (M.nexts m) [M.st0 m])))) := Lib.hid ho2.row
    have hz2' := hb2.size
    have h0l : w.heap.size + 1 < w1.heap.size := by omega
    clear hb2 ho2 c0 c1 c2
    generalize w1.heap.size = glo at *
    have hzg := HB2.out.size
    go_wp2_with fail
    go_loopw [4, 6] (fun v4 v6 wr => ∃ (k g4 c4 : Nat), k ≤ n ∧ v6 = .int .i64 (k : Int) ∧ v4 = .slice (some ⟨g4, 0, none⟩) k c4 ∧ wr.ownsRow (w.heap.size + 1) 3 1 v4 k (M.encIs (M.stepsTo m M.nodeP k)) ∧ (g4 < glo ∨ w2.heap.size ≤ g4) ∧ Box3 wr w.heap.size 29 (.int .i64 m.size) (.slice a m.doors.length c) (.slice b m.keys.length d) ∧
      RowIn glo w2.heap.size wr ra (M.encIs (M.tblL (M.size64 m) (M.dst (M.nexts m) [M.st0 m]))) ∧ Below w.heap.size w wr ∧ w2.heap.size ≤ wr.heap.size) (fun _ v6 _ => n - (intOf v6).toNat)
    case atStart => exact ⟨0, _, _, Nat.zero_le _, rfl, rfl, O3.out, .inl h0l, X2.out, R2.out, HB2.out, Nat.le_refl _⟩
    case round =>
      obtain ⟨k, g4, c4, hk, rfl, rfl, hso, hzone, hx, hrow, hlow, hsw⟩ := hrel
      have SO := Lib.hid hso
      have X7 := Lib.hid hx
      have R7 := Lib.hid hrow
      have LO := Lib.hid hlow
      have hzr := hlow.size
      have hxl := hx.lt
      obtain ⟨x0, x1, x2⟩ := hx.cells
      rw [← HN.out] at x0
      clear hso hx hrow hlow
      by_cases hkl : k < n
      · have CL := l4Least_any wr glo w2.heap.size m HVA.out ra rc _ R7.out hsw (k : Int) 0 6 (by omega) (by have := HN.out; omega) (fun t n => M.dst_ok HVA.out (M.st0_ok HVA.out))
        rw [HWY.out k] at CL
        have CL1 := Lib.hid CL
        have HS8 := Lib.hid (M.stepsTo_succ m M.nodeP k)
        clear CL
        generalize M.wayO m (M.st0 m) (M.nodeP (k : Int)) = r at *
        go_wp2_with fail
        refine (CL1.out).mono ?_
        rintro e w4 ⟨rfl, rfl⟩
        go_wp2_with (at_builtin; refine wpList_append_lies _ rfl _ _ 23 rfl (w.heap.size + 1) 3 ii0 (.int .i64 0) 1 8 Try.underlying23 hi0 hz0 hzz1 hz2 rfl (by decide) (.slice (some ⟨g4, 0, none⟩) k c4) _ _ rfl (SO.out.alloc _) ⟨wr.heap.size, 0, none⟩ 1 1 [.int .i64 (M.optI r)] rfl rfl (cell_one_new _ _ _) (fun x hx => by simp at hx; subst hx; rfl) (by decide) (by unfold maxLen; omega) (by omega) (by simp; omega) _ rfl ?_; intro g7 c7 w7 hown7 hgrow7 hat7 hlt7)
        go_roundw
        case rel =>
          have hsz7 := hgrow7.size
          rw [World.size_alloc] at hsz7 hat7
          have hob7 : (Value.slice (some ⟨g4, 0, none⟩) k c4).ownBlock = some g4 := rfl
          have hb4 := (SO.out.lt _ rfl).1
          have hb4' : w.heap.size + 1 ≤ g4 := hb4
          rw [hob7] at hgrow7 hat7
          refine ⟨k + 1, g7, c7, by omega, by go_num, rfl, ?_, ?_, (X7.out.alloc _).grown hgrow7 (by simp; omega), ?_, (LO.out.alloc (by omega) _).grown hgrow7 (by simp; omega) (fun z hz => by injection hz with hz; omega), by omega⟩
          · rw [HS8.out, M.encIs_append]
            exact hown7
          · rcases hat7 with e | e
            · injection e with e; omega
            · omega
          · exact (R7.out.turned (Turned.of_below (below_alloc _ _) 0 0) (by omega) (.inr (Nat.zero_le _))).grown hgrow7 (by rw [World.size_alloc]; omega) (fun z hz => by injection hz with hz; omega)
        case measure => simp [intOf]; omega
      · obtain rfl : k = n := by omega
        have HLN := Lib.hid (M.stepsTo_len m M.nodeP k)
        go_wp2_with fail
        go_ret2
        rw [HF.out, HM.out]
        exact intsOk_end (by rw [HLN.out]; exact own_weak SO.out (by omega)) LO.out
theorem specSak_lw (w : World) (lo hi : Nat) (m : M.Mz) (a b : Option Addr) (c d : Nat) (h : MzIn lo hi w m a c b d) (hz : hi ≤ w.heap.size) (_h1 : m.doors.length ≤ 1048576) (_h2 : m.keys.length ≤ 1048576) :
    Calls Try.prog 43 #[.agg #[.int .i64 m.size, .slice a m.doors.length c, .slice b m.keys.length d]] w (IntsOkPost w (M.sakV m) (M.mazeB m)) := by
  obtain ⟨ii0, hi0, hz0, hzz1, hz2⟩ := info_parts infoI
  have H := Lib.hid h
  clear h
  go_enter Try.func43, Try.ntmps43
  go_upto_region 2 with fail
  refine wp_named ?_
  intro W hW
  have hb : Below w.heap.size w W := by rw [hW]; exact (below_alloc _ _).alloc (by simp) _
  have x1 : Box3 W w.heap.size 29 (.int .i64 m.size) (.slice a m.doors.length c) (.slice b m.keys.length d) := by rw [hW]; exact (Box3.new _ _ _ _ rfl).alloc _
  have o1 : W.ownsRow (w.heap.size + 1) 3 1 (.slice (some ⟨w.heap.size + 1, 0, none⟩) 0 0) 0 [] := by
    rw [hW]
    have := ownsRow_empty (w.alloc (.cells #[.int .i64 m.size, .slice a m.doors.length c, .slice b m.keys.length d] 29)) (w.heap.size + 1) 3 1 (by simp)
    rw [World.size_alloc] at this
    exact this
  clear hW
  have hzw := hb.size
  have O1 := Lib.hid o1
  have hol : w.heap.size + 1 < W.heap.size := (o1.lt _ rfl).2
  obtain ⟨c0, c1, c2⟩ := x1.cells
  have HIM := Lib.hid (specMaze_any W lo hi m a b c d (H.out.below hb hz) (by omega))
  go_wp2_with fail
  refine (HIM.out).mono ?_
  rintro e w1 ⟨rfl, hb1⟩
  have X1 := Lib.hid (x1.below hb1)
  have HB1 := Lib.hid (hb.trans (hb1.mono hzw))
  have O2 := Lib.hid (own_below O1.out hb1)
  have hz1 := hb1.size
  clear hb hb1 x1 c0 c1 c2 o1
  cases q0 : M.mazeB m with
  | false =>
    have HF : Hid (M.sakV m = []) := Lib.hid (by unfold M.sakV; rw [q0]; rfl)
    have HM := Lib.hid q0
    clear q0
    go_wp2_with fail
    go_ret2
    rw [HF.out, HM.out]
    exact intsOk_end (l := []) (own_weak O2.out (by omega)) HB1.out
  | true =>
    have HVA := Lib.hid (M.valid_of q0)
    have HM := Lib.hid q0
    have v1 := HVA.out.size1
    have v12 := HVA.out.size12
    have HF : Hid (M.sakV m = M.stepsTo m (M.keysP m) 7) := Lib.hid (by unfold M.sakV; rw [if_pos q0])
    clear q0
    have HWY := Lib.hid (fun k : Nat => M.way_same HVA.out (M.st0_ok HVA.out) (p := M.leastB (m.size - 1) 0 (k : Int)) (q := (M.keysP m) (k : Int)) fun t ht => M.leastB_keys ht (k : Int))
    have CF := Lib.hid (l4First_any w1 lo hi m a b c d (H.out.below HB1.out hz) (by have := HB1.out.size; omega) HVA.out)
    obtain ⟨c0, c1, c2⟩ := X1.out.cells
    go_wp2_with fail
    refine (CF.out).mono ?_
    rintro e w2 ⟨ra, rc, rfl, ho2, hb2⟩
    have X2 := Lib.hid (X1.out.below hb2)
    have HB2 := Lib.hid (HB1.out.trans (hb2.mono HB1.out.size))
    have O3 := Lib.hid (own_below O2.out hb2)
    have R2 : Hid (RowIn w1.heap.size w2.heap.size w2 ra (M.encIs (M.tblL (M.size64 m) (M.dst (M.nexts m) [M.st0 m])))) := Lib.hid ho2.row
    have hz2' := hb2.size
    have h0l : w.heap.size + 1 < w1.heap.size := by omega
    clear hb2 ho2 c0 c1 c2
    generalize w1.heap.size = glo at *
    have hzg := HB2.out.size
    go_wp2_with fail
    go_loopw [4, 6] (fun v4 v6 wr => ∃ (k g4 c4 : Nat), k ≤ 7 ∧ v6 = .int .i64 (k : Int) ∧ v4 = .slice (some ⟨g4, 0, none⟩) k c4 ∧ wr.ownsRow (w.heap.size + 1) 3 1 v4 k (M.encIs (M.stepsTo m (M.keysP m) k)) ∧ (g4 < glo ∨ w2.heap.size ≤ g4) ∧ Box3 wr w.heap.size 29 (.int .i64 m.size) (.slice a m.doors.length c) (.slice b m.keys.length d) ∧
      RowIn glo w2.heap.size wr ra (M.encIs (M.tblL (M.size64 m) (M.dst (M.nexts m) [M.st0 m]))) ∧ Below w.heap.size w wr ∧ w2.heap.size ≤ wr.heap.size) (fun _ v6 _ => 7 - (intOf v6).toNat)
    case atStart => exact ⟨0, _, _, Nat.zero_le _, rfl, rfl, O3.out, .inl h0l, X2.out, R2.out, HB2.out, Nat.le_refl _⟩
    case round =>
      obtain ⟨k, g4, c4, hk, rfl, rfl, hso, hzone, hx, hrow, hlow, hsw⟩ := hrel
      have SO := Lib.hid hso
      have X7 := Lib.hid hx
      have R7 := Lib.hid hrow
      have LO := Lib.hid hlow
      have hzr := hlow.size
      have hxl := hx.lt
      obtain ⟨x0, x1, x2⟩ := hx.cells
      clear hso hx hrow hlow
      by_cases hkl : k < 7
      · have CL := l4Least_any wr glo w2.heap.size m HVA.out ra rc _ R7.out hsw (m.size - 1) 0 (k : Int) (by omega) (by omega) (fun t n => M.dst_ok HVA.out (M.st0_ok HVA.out))
        rw [HWY.out k] at CL
        have CL1 := Lib.hid CL
        have HS8 := Lib.hid (M.stepsTo_succ m (M.keysP m) k)
        clear CL
        generalize M.wayO m (M.st0 m) ((M.keysP m) (k : Int)) = r at *
        go_wp2_with fail
        refine (CL1.out).mono ?_
        rintro e w4 ⟨rfl, rfl⟩
        go_wp2_with (at_builtin; refine wpList_append_lies _ rfl _ _ 23 rfl (w.heap.size + 1) 3 ii0 (.int .i64 0) 1 8 Try.underlying23 hi0 hz0 hzz1 hz2 rfl (by decide) (.slice (some ⟨g4, 0, none⟩) k c4) _ _ rfl (SO.out.alloc _) ⟨wr.heap.size, 0, none⟩ 1 1 [.int .i64 (M.optI r)] rfl rfl (cell_one_new _ _ _) (fun x hx => by simp at hx; subst hx; rfl) (by decide) (by unfold maxLen; omega) (by omega) (by simp; omega) _ rfl ?_; intro g7 c7 w7 hown7 hgrow7 hat7 hlt7)
        go_roundw
        case rel =>
          have hsz7 := hgrow7.size
          rw [World.size_alloc] at hsz7 hat7
          have hob7 : (Value.slice (some ⟨g4, 0, none⟩) k c4).ownBlock = some g4 := rfl
          have hb4 := (SO.out.lt _ rfl).1
          have hb4' : w.heap.size + 1 ≤ g4 := hb4
          rw [hob7] at hgrow7 hat7
          refine ⟨k + 1, g7, c7, by omega, by go_num, rfl, ?_, ?_, (X7.out.alloc _).grown hgrow7 (by simp; omega), ?_, (LO.out.alloc (by omega) _).grown hgrow7 (by simp; omega) (fun z hz => by injection hz with hz; omega), by omega⟩
          · rw [HS8.out, M.encIs_append]
            exact hown7
          · rcases hat7 with e | e
            · injection e with e; omega
            · omega
          · exact (R7.out.turned (Turned.of_below (below_alloc _ _) 0 0) (by omega) (.inr (Nat.zero_le _))).grown hgrow7 (by rw [World.size_alloc]; omega) (fun z hz => by injection hz with hz; omega)
        case measure => simp [intOf]; omega
      · obtain rfl : k = 7 := by omega
        have HLN := Lib.hid (M.stepsTo_len m (M.keysP m) 7)
        go_wp2_with fail
        go_ret2
        rw [HF.out, HM.out]
        exact intsOk_end (by rw [HLN.out]; exact own_weak SO.out (by omega)) LO.out
end C
end Go.Proofs.Ytbpinhfjfjfbdaa
