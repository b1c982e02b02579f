/-
  CONTRACTS of spec.l2Kept and spec.AddDoor: the same maze as the program's, in memory of its own; what lay in memory stays. No condition but that the maze reads so.
-/
import Derived.Test.YtjbapfmplbphbaaAdd
namespace Go.Proofs.Ytjbapfmplbphbaa
open Go.RowKit
namespace M
def keptV (m : Mz) : Mz := if mazeB m then m else C.mz0
theorem keptV_yes {m : Mz} (h : mazeB m = true) : keptV m = m := by unfold keptV; rw [if_pos h]
theorem keptV_no {m : Mz} (h : mazeB m = false) : keptV m = C.mz0 := by unfold keptV; rw [h]; rfl
end M
namespace C
set_option maxHeartbeats 3200000
set_option maxRecDepth 20000
theorem OwnAt.setBox {lo hi : Nat} {w : World} {T S : TypeId} {a : Option Addr} {xs : List Value} {g : Nat} {x y z : Value} (h : OwnAt lo hi w T a xs) (hb : Box3 w g S x y z) (hne : T ≠ S) (i : Nat) (u : Value) : OwnAt lo hi (w.setCell ⟨g, i, none⟩ u) T a xs := by
  rcases h with h | ⟨b, off, cur, ha, h1, h2, hh, hc⟩
  · exact .inl h
  · refine .inr ⟨b, off, cur, ha, h1, h2, ?_, hc⟩
    rw [Below.heap_setCell w ⟨g, i, none⟩ u b (by
      rintro rfl
      have hb' : w.heap[b]? = some (.cells #[x, y, z] S (0, 0)) := hb
      rw [hh] at hb'
      injection hb' with e
      injection e with _ e2
      exact hne e2)]
    exact hh
theorem Turned.none_below {B : Nat} {w w' : World} (t : Turned B B w w') : Below w.heap.size w w' := ⟨t.os, t.tape, t.output, t.size, fun k hk => t.block k hk (by omega)⟩
theorem kept_end {B hi nd nk : Nat} {w w3 : World} {m : M.Mz} {a b : Option Addr} {c d : Nat} {u0 u1 u2 : Value} (hz : hi ≤ w.heap.size) (hB : Below w.heap.size w w3) (ho : MzOwn B hi w m a c b d) (hnd : m.doors.length = nd) (hnk : m.keys.length = nk) :
    OrdPost B B w m true (.returned (.tuple #[.agg #[.int .i64 m.size, .slice a nd c, .slice b nk d], .bool true])) (((w3.setCell ⟨w.heap.size + 1, 0, none⟩ u0).setCell ⟨w.heap.size + 1, 1, none⟩ u1).setCell ⟨w.heap.size + 1, 2, none⟩ u2) := by
  subst hnd; subst hnk
  have hb : Below w.heap.size w (((w3.setCell ⟨w.heap.size + 1, 0, none⟩ u0).setCell ⟨w.heap.size + 1, 1, none⟩ u1).setCell ⟨w.heap.size + 1, 2, none⟩ u2) :=
    ((hB.setCell (p := ⟨w.heap.size + 1, 0, none⟩) (Nat.le_succ _) _).setCell (p := ⟨w.heap.size + 1, 1, none⟩) (Nat.le_succ _) _).setCell (p := ⟨w.heap.size + 1, 2, none⟩) (Nat.le_succ _) _
  exact ⟨_, _, _, _, rfl, (ho.below hb hz).mono (Nat.le_refl _) (Nat.le_trans hz hb.size), Turned.of_below hb B B⟩
theorem kept_any (w : World) (B hi : Nat) (m : M.Mz) (a b : Option Addr) (c d : Nat) (h : MzOwn B hi w m a c b d) (hz : hi ≤ w.heap.size) :
    Calls Try.prog 73 #[.agg #[.int .i64 m.size, .slice a m.doors.length c, .slice b m.keys.length d]] w (OrdPost B B w (M.keptV m) (M.mazeB m)) := by
  have H := Lib.hid h
  clear h
  go_enter Try.func73, Try.ntmps73
  go_wp2_with fail
  refine named ?_
  intro W hW
  have hb : Below w.heap.size w W := by rw [hW]; exact (below_alloc _ _).alloc (by simp) _
  have x1 : Box3 W w.heap.size 29 (.int .i64 m.size) (.slice a m.doors.length c) (.slice b m.keys.length d) := by rw [hW]; exact (Box3.new _ _ _ _ rfl).alloc _
  have y1 : Box3 W (w.heap.size + 1) 29 (.int .i64 0) (.slice none 0 0) (.slice none 0 0) := by rw [hW]; exact Box3.new _ _ _ _ (by simp)
  clear hW
  have hzw := hb.size
  refine (specMaze_any W B hi m a b c d (H.out.mz.below hb hz) (by omega)).mono ?_
  rintro e w2 ⟨rfl, hb2⟩
  have X2 := Lib.hid (x1.below hb2)
  have Y2 := Lib.hid (y1.below hb2)
  have hz2 := hb2.size
  have HB2 := Lib.hid (hb.trans (hb2.mono hzw))
  clear x1 y1 hb hb2
  obtain ⟨c0, c1, c2⟩ := X2.out.cells
  obtain ⟨k0, k1, k2⟩ := Y2.out.cells
  obtain ⟨f0, f1, f2⟩ := Y2.out.free
  have hyl2 := Y2.out.lt
  cases hs : M.mazeB m with
  | false =>
    have HV := Lib.hid (M.keptV_no hs)
    have HS := Lib.hid hs
    clear hs
    go_wp2_with fail
    refine bodyPost_ret (v := .tuple #[.agg #[.int .i64 0, .slice none 0 0, .slice none 0 0], .bool false]) (by simp [results, Try.results73, go_sem, k0, k1, k2]) rfl ?_
    rw [HV.out, HS.out]
    exact ordNo_end (Turned.of_below HB2.out B B)
  | true =>
    have HV := Lib.hid (M.keptV_yes hs)
    have HS := Lib.hid hs
    clear hs
    go_wp2_with fail
    refine bodyPost_ret (v := .tuple #[.agg #[.int .i64 m.size, .slice a m.doors.length c, .slice b m.keys.length d], .bool true]) (by simp [results, Try.results73, go_sem, k0, k1, k2]) rfl ?_
    rw [HV.out, HS.out]
    exact kept_end hz HB2.out H.out rfl rfl
theorem specAdd_lw (w : World) (lo hi : Nat) (m : M.Mz) (a b : Option Addr) (c d : Nat) (h : MzIn lo hi w m a c b d) (hz : hi ≤ w.heap.size) (_h1 : m.doors.length ≤ 1048576) (_h2 : m.keys.length ≤ 1048576) (x : Int) (_x1 : -9223372036854775808 ≤ x) (_x2 : x ≤ 9223372036854775807) (y : Int) (_y1 : -9223372036854775808 ≤ y) (_y2 : y ≤ 9223372036854775807) (n : Int) (_s1 : -9223372036854775808 ≤ n) (_s2 : n ≤ 9223372036854775807) :
    Calls Try.prog 37 #[.agg #[.int .i64 m.size, .slice a m.doors.length c, .slice b m.keys.length d], .int .i64 x, .int .i64 y, .int .i64 n] w (MzOkPost w (M.addV m x y n) (M.addB m x y n)) := by
  have H := Lib.hid h
  clear h
  go_enter Try.func37, Try.ntmps37
  go_wp2_with fail
  refine named ?_
  intro W hW
  have hb : Below w.heap.size w W := by rw [hW]; exact (below_alloc _ _).alloc (by simp) _
  have x1 : Box3 W w.heap.size 29 (.int .i64 m.size) (.slice a m.doors.length c) (.slice b m.keys.length d) := by rw [hW]; exact (Box3.new _ _ _ _ rfl).alloc _
  have y1 : Box3 W (w.heap.size + 1) 29 (.int .i64 0) (.slice none 0 0) (.slice none 0 0) := by rw [hW]; exact Box3.new _ _ _ _ (by simp)
  clear hW
  have hzw := hb.size
  refine (l2Node_any W lo hi m a b c d x (H.out.below hb hz) (by omega)).mono ?_
  rintro e w1 ⟨rfl, hb1⟩
  have X1 := Lib.hid (x1.below hb1)
  have Y1 := Lib.hid (y1.below hb1)
  have HB1 := Lib.hid (hb.trans (hb1.mono hzw))
  have hz1 := hb1.size
  have hbl1 := Y1.out.lt
  clear hb hb1 x1 y1
  obtain ⟨c0, c1, c2⟩ := X1.out.cells
  obtain ⟨k0, k1, k2⟩ := Y1.out.cells
  obtain ⟨f0, f1, f2⟩ := Y1.out.free
  cases q1 : M.mzNodeB m x with
  | false =>
    have HF : Hid (M.addB m x y n = false) := Lib.hid (by
      unfold M.mzNodeB at q1
      cases hm : M.mazeB m with
      | false => unfold M.addB; rw [hm]; rfl
      | true =>
        rw [hm] at q1
        have q1' : M.nodeB m.size x = false := by simpa using q1
        exact M.addB_no_door (by rw [q1']; rfl))
    have HV := Lib.hid (M.addV_no HF.out)
    clear q1
    go_wp2_with fail
    refine bodyPost_ret (v := .tuple #[.agg #[.int .i64 0, .slice none 0 0, .slice none 0 0], .bool false]) (by simp [results, Try.results37, go_sem, k0, k1, k2]) rfl ?_
    rw [HF.out, HV.out]
    exact mzNo_end HB1.out
  | true =>
    have hmx : M.mazeB m = true ∧ M.nodeB m.size x = true := by unfold M.mzNodeB at q1; rwa [Bool.and_eq_true] at q1
    have HM := Lib.hid hmx.1
    have HX := Lib.hid hmx.2
    have HVA := Lib.hid (M.valid_of hmx.1)
    clear q1 hmx
    go_wp2_with fail
    refine (l2Node_any w1 lo hi m a b c d y (H.out.below HB1.out hz) (by omega)).mono ?_
    rintro e w2 ⟨rfl, hb2⟩
    have X2 := Lib.hid (X1.out.below hb2)
    have Y2 := Lib.hid (Y1.out.below hb2)
    have HB2 := Lib.hid (HB1.out.trans (hb2.mono (by omega)))
    have hz2 := hb2.size
    have hbl2 := Y2.out.lt
    clear hb2 c0 c1 c2 k0 k1 k2 f0 f1 f2
    obtain ⟨c0, c1, c2⟩ := X2.out.cells
    obtain ⟨k0, k1, k2⟩ := Y2.out.cells
    obtain ⟨f0, f1, f2⟩ := Y2.out.free
    have hny : M.mzNodeB m y = M.nodeB m.size y := by unfold M.mzNodeB; rw [HM.out]; rfl
    have HNY := Lib.hid hny
    clear hny
    rw [HNY.out]
    cases q2 : M.nodeB m.size y with
    | false =>
      have HF : Hid (M.addB m x y n = false) := Lib.hid (M.addB_no_door (by rw [q2, HX.out]; rfl))
      have HV := Lib.hid (M.addV_no HF.out)
      clear q2
      go_wp2_with fail
      refine bodyPost_ret (v := .tuple #[.agg #[.int .i64 0, .slice none 0 0, .slice none 0 0], .bool false]) (by simp [results, Try.results37, go_sem, k0, k1, k2]) rfl ?_
      rw [HF.out, HV.out]
      exact mzNo_end HB2.out
    | true =>
      have HY := Lib.hid q2
      clear q2
      rcases Decidable.em (x = y) with hxy | hxy
      · have HF : Hid (M.addB m x y n = false) := Lib.hid (M.addB_no_door (by rw [HX.out, HY.out, hxy]; simp))
        have HV := Lib.hid (M.addV_no HF.out)
        have hxb : (x == y) = true := by simpa using hxy
        clear hxy
        go_wp2_with fail
        refine bodyPost_ret (v := .tuple #[.agg #[.int .i64 0, .slice none 0 0, .slice none 0 0], .bool false]) (by simp [results, Try.results37, go_sem, k0, k1, k2]) rfl ?_
        rw [HF.out, HV.out]
        exact mzNo_end HB2.out
      · have hxb : (x == y) = false := by simpa using hxy
        have HXY := Lib.hid hxy
        clear hxy
        go_wp2_with fail
        refine (l2Set_any _ _).mono ?_
        rintro e w3 ⟨rfl, rfl⟩
        cases q3 : M.setB n with
        | false =>
          have HF : Hid (M.addB m x y n = false) := Lib.hid (M.addB_no_door (by rw [q3, Bool.and_false]))
          have HV := Lib.hid (M.addV_no HF.out)
          clear q3
          go_wp2_with fail
          refine bodyPost_ret (v := .tuple #[.agg #[.int .i64 0, .slice none 0 0, .slice none 0 0], .bool false]) (by simp [results, Try.results37, go_sem, k0, k1, k2]) rfl ?_
          rw [HF.out, HV.out]
          exact mzNo_end HB2.out
        | true =>
          have hdl := HVA.out.few
          have hkl := HVA.out.keysLen
          have hs12 := HVA.out.size12
          clear q3
          go_wp2_with fail
          refine (l2Own_any w2 lo hi m a b c d (H.out.below HB2.out hz) (by omega) (by omega) (by omega)).mono ?_
          rintro e w4 ⟨ca, cc, cb, cd, rfl, ho, hb4⟩
          have hz4 := hb4.size
          have X4 := Lib.hid (X2.out.below hb4)
          have Y4 := Lib.hid (Y2.out.below hb4)
          have HB4 := Lib.hid (HB2.out.trans (hb4.mono (by omega)))
          have HO4 := Lib.hid ho
          have hy4 := Y4.out.lt
          clear hb4 ho c0 c1 c2 k0 k1 k2 f0 f1 f2
          obtain ⟨c0, c1, c2⟩ := X4.out.cells
          go_wp2_with fail
          refine named ?_
          intro W5 hW5
          have hb5 : Below w4.heap.size w4 W5 := by rw [hW5]; exact below_alloc _ _
          have t5 : Box3 W5 w4.heap.size 29 (.int .i64 m.size) (.slice ca m.doors.length cc) (.slice cb m.keys.length cd) := by rw [hW5]; exact Box3.new _ _ _ _ rfl
          clear hW5
          have hz5 := hb5.size
          have HO5 := HO4.out.below hb5 (Nat.le_refl _)
          have X5 := Lib.hid (X4.out.below hb5)
          have Y5 := Lib.hid (Y4.out.below hb5)
          have HB5 := Lib.hid (HB4.out.trans (hb5.mono (by omega)))
          refine (put_any W5 w2.heap.size w4.heap.size ca cc m.doors x y n HO5.doors (by omega) (by omega) (by omega) HO5.c1 HO5.c2).mono ?_
          rintro e w6 ⟨pa, pc, rfl, hp, hp1, hp2, hb6⟩
          have hz6 := hb6.size
          have T6 := Lib.hid (t5.below hb6)
          have X6 := Lib.hid (X5.out.below hb6)
          have Y6 := Lib.hid (Y5.out.below hb6)
          have HB6 := Lib.hid (HB5.out.trans (hb6.mono (by omega)))
          have HK6 := Lib.hid (HO5.keys.below hb6 (by omega))
          have HP := Lib.hid hp
          have hd1 := HO5.d1
          have hd2 := HO5.d2
          clear hb5 hb6 t5 HO5 hp c0 c1 c2
          obtain ⟨c0, c1, c2⟩ := X6.out.cells
          obtain ⟨t0, t1, t2⟩ := T6.out.cells
          obtain ⟨g0, g1, g2⟩ := T6.out.free
          obtain ⟨k0, k1, k2⟩ := Y6.out.cells
          obtain ⟨f0, f1, f2⟩ := Y6.out.free
          have htl := T6.out.lt
          have hyl := Y6.out.lt
          have hdo : ((min x y, max x y, n) : M.Dr) = M.doorOf x y n := rfl
          rw [hdo] at HP hp1 ⊢
          by_cases hmem : M.doorOf x y n ∈ m.doors
          · have hput := M.put_mem HVA.out.asc hmem
            have HF : Hid (M.addB m x y n = false) := Lib.hid (M.addB_mem hmem)
            have HV := Lib.hid (M.addV_no HF.out)
            clear hmem
            rw [hput]
            clear HP hp1 hput
            have hyn : w.heap.size + 1 ≠ w4.heap.size := by omega
            have hxn : w.heap.size ≠ w4.heap.size := by omega
            obtain ⟨r0, r1, r2⟩ := (T6.out.set1 (.slice pa m.doors.length pc)).cells
            obtain ⟨s0, s1, s2⟩ := (X6.out.other hxn 1 (.slice pa m.doors.length pc)).cells
            obtain ⟨v0, v1, v2⟩ := (Y6.out.other hyn 1 (.slice pa m.doors.length pc)).cells
            obtain ⟨j0, j1, j2⟩ := (Y6.out.other hyn 1 (.slice pa m.doors.length pc)).free
            go_wp2_with fail
            refine bodyPost_ret (v := .tuple #[.agg #[.int .i64 0, .slice none 0 0, .slice none 0 0], .bool false]) (by simp [results, Try.results37, go_sem, v0, v1, v2]) rfl ?_
            rw [HF.out, HV.out]
            exact mzNo_end (HB6.out.setCell (p := ⟨w4.heap.size, 1, none⟩) (by show w.heap.size ≤ w4.heap.size; omega) _)
          · have hadd := M.add_new HVA.out hmem
            have hput : M.put M.ltD m.doors (M.doorOf x y n) = (M.sorted (M.withDoor m x y n)).doors := congrArg M.Mz.doors hadd
            have e1 : (M.sorted (M.withDoor m x y n)).doors.length = m.doors.length + 1 := by show (M.srt (m.doors ++ [_])).length = _; rw [M.srt_len]; simp
            have HF := Lib.hid (M.addB_sorted (a := x) (b := y) (n := n) HM.out)
            have HV := Lib.hid (M.addV_sorted (a := x) (b := y) (n := n) HM.out)
            clear hmem hadd
            rw [hput] at HP hp1 ⊢
            rw [e1] at hp1 ⊢
            clear hput
            have hyn : w.heap.size + 1 ≠ w4.heap.size := by omega
            have hxn : w.heap.size ≠ w4.heap.size := by omega
            have TT := Lib.hid (T6.out.set1 (.slice pa (m.doors.length + 1) pc))
            have YY := Lib.hid (Y6.out.other hyn 1 (.slice pa (m.doors.length + 1) pc))
            have XX := Lib.hid (X6.out.other hxn 1 (.slice pa (m.doors.length + 1) pc))
            have BB := Lib.hid (HB6.out.setCell (p := ⟨w4.heap.size, 1, none⟩) (by show w.heap.size ≤ w4.heap.size; omega) (.slice pa (m.doors.length + 1) pc))
            have hmo : MzOwn w2.heap.size w6.heap.size (w6.setCell ⟨w4.heap.size, 1, none⟩ (.slice pa (m.doors.length + 1) pc)) (M.sorted (M.withDoor m x y n)) pa pc cb cd :=
              ⟨HP.out.setBox T6.out (by decide) 1 _, (HK6.out.mono (Nat.le_refl _) (by omega)).setBox T6.out (by decide) 1 _, by rw [e1]; exact hp1, hp2, hd1, hd2⟩
            have KP := kept_any _ w2.heap.size w6.heap.size (M.sorted (M.withDoor m x y n)) pa cb pc cd hmo (by simp [World.setCell])
            rw [e1, show (M.sorted (M.withDoor m x y n)).keys.length = m.keys.length from rfl, show (M.sorted (M.withDoor m x y n)).size = m.size from rfl] at KP
            have hsz7 : (w6.setCell ⟨w4.heap.size, 1, none⟩ (.slice pa (m.doors.length + 1) pc)).heap.size = w6.heap.size := by simp [World.setCell]
            have hne : ((m.doors.length : Int) + 1 == (m.doors.length : Int)) = false := by rw [beq_eq_false_iff_ne]; omega
            obtain ⟨r0, r1, r2⟩ := TT.out.cells
            obtain ⟨s0, s1, s2⟩ := XX.out.cells
            clear hmo e1 HP
            go_wp2_with fail
            refine KP.mono ?_
            rintro e w8 ⟨ra, rc, rb, rd, rfl, ho, ht⟩
            have hb8 := ht.none_below
            have hz8 := hb8.size
            have Y8 := YY.out.below hb8
            have HO := Lib.hid ho
            have HB8 := Lib.hid (BB.out.trans (hb8.mono BB.out.size))
            clear KP ho ht hb8 r0 r1 r2 s0 s1 s2 k0 k1 k2 f0 f1 f2 t0 t1 t2 g0 g1 g2 c0 c1 c2
            obtain ⟨k0, k1, k2⟩ := Y8.cells
            obtain ⟨f0, f1, f2⟩ := Y8.free
            have hyl8 := Y8.lt
            clear Y8
            go_wp2_with fail
            refine bodyPost_ret (v := .tuple #[.agg #[.int .i64 (M.keptV (M.sorted (M.withDoor m x y n))).size, .slice ra (M.keptV (M.sorted (M.withDoor m x y n))).doors.length rc, .slice rb (M.keptV (M.sorted (M.withDoor m x y n))).keys.length rd], .bool (M.mazeB (M.sorted (M.withDoor m x y n)))]) (by simp [results, Try.results37, go_sem, k0, k1, k2]) rfl ?_
            rw [HF.out, HV.out]
            exact mzOk_end HB8.out HO.out (by omega) (Nat.le_refl _)
end C
end Go.Proofs.Ytjbapfmplbphbaa
