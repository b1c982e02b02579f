/-
  CONTRACT of overWins for counts. No condition but that the maze reads so.
-/
import Derived.Test.YtddpjjdncmokmaaNumL
import Derived.Test.YtddpjjdncmokmaaWinJ
import Derived.Test.YtddpjjdncmokmaaFilI
import Derived.Test.YtddpjjdncmokmaaIsMaze
import Derived.RangeFuncCalls
import Derived.RangeFuncNested
import Derived.RangeFuncLeaves
namespace Go.Proofs.Ytddpjjdncmokmaa
open Go.RowKit
namespace M
def listP (n k : Nat) (pre : List (Nat × Nat)) : List (List Int) := pre.map fun x => digL n k x.2
noncomputable def winsP (m : Mz) (s : Int) (n k : Nat) (pre : List (Nat × Nat)) : List (List Int) := (listP n k pre).filter (winF m s)
theorem winsP_nil (m : Mz) (s : Int) (n k : Nat) : winsP m s n k [] = [] := rfl
theorem winsP_yes {m : Mz} {s : Int} {n k : Nat} {pre : List (Nat × Nat)} {x : Nat × Nat} (h : winF m s (digL n k x.2) = true) : winsP m s n k (pre ++ [x]) = winsP m s n k pre ++ [digL n k x.2] := by
  unfold winsP listP
  rw [List.map_append, List.filter_append]
  show _ ++ List.filter (winF m s) [digL n k x.2] = _
  rw [List.filter_cons_of_pos h]; rfl
theorem winsP_no {m : Mz} {s : Int} {n k : Nat} {pre : List (Nat × Nat)} {x : Nat × Nat} (h : winF m s (digL n k x.2) = false) : winsP m s n k (pre ++ [x]) = winsP m s n k pre := by
  unfold winsP listP
  rw [List.map_append, List.filter_append]
  show _ ++ List.filter (winF m s) [digL n k x.2] = _
  rw [List.filter_cons_of_neg (by rw [h]; decide)]; simp
theorem winsP_all {m : Mz} {s : Int} {xs : List (Nat × Nat)} (h : xs.map (fun x => x.2) = List.range (m.size.toNat ^ manyC s)) : winsP m s m.size.toNat (manyC s) xs = winL m s := by
  unfold winsP winL winTo listP allTo manyF
  rw [← h, List.map_map]
  rfl
theorem winsP_len (m : Mz) (s : Int) (n k : Nat) (pre : List (Nat × Nat)) : (winsP m s n k pre).length ≤ pre.length := by
  unfold winsP listP
  exact Nat.le_trans (List.length_filter_le ..) (Nat.le_of_eq (List.length_map ..))
end M
namespace C
set_option linter.unusedVariables false
set_option maxHeartbeats 3200000
set_option maxRecDepth 20000
attribute [local go_sem] Oper.semAt_some
theorem wpIn_named {F : Fence} {n : Nat} {P : Program} {c : Code} {Q : Exit → Act → World → Prop} {a : Act} {X : World} (h : ∀ W, W = X → Code.wpIn F n P c Q a W) : Code.wpIn F n P c Q a X := h X rfl
def CalmQ (Q : Exit → Act → World → Prop) : Exit → Act → World → Prop
  | .normal, a, w => Q .normal a w
  | _, _, _ => False
theorem wpIn_calm {F : Fence} {n : Nat} {P : Program} {c : Code} {Q : Exit → Act → World → Prop} {a : Act} {w : World} (h : Code.wpIn F n P c (CalmQ Q) a w) : Code.wpIn F n P c Q a w := by
  refine wpIn_mono h ?_
  intro e a w hp
  cases e with
  | normal => exact hp
  | ret => exact hp.elim
  | exit id => exact hp.elim
  | goto t => exact hp.elim
  | panic ch => exact hp.elim
  | outgrown => exact hp.elim
theorem calm_of {Q : Exit → Act → World → Prop} {a : Act} {w : World} (h : Q .normal a w) : CalmQ Q .normal a w := h
/-- the boxes of overWins but the value's -/
structure OBX (w : World) (m : M.Mz) (a b : Option Addr) (c d : Nat) (s : Int) (W : World) : Prop where
  mz : Box3 W w.heap.size 27 (.int .i64 m.size) (.slice a m.doors.length c) (.slice b m.keys.length d)
  st : Boxed W (w.heap.size + 1) 3 (.int .i64 s)
  fn : Boxed W (w.heap.size + 1 + 1 + 1) 75 (.func (.func 76) #[] #[])
  low : Below w.heap.size w W
theorem OBX.low' {w : World} {m : M.Mz} {a b : Option Addr} {c d : Nat} {s : Int} {W W' : World} (h : OBX w m a b c d s W) (t : Below W.heap.size W W') : OBX w m a b c d s W' :=
  ⟨h.mz.below t, Boxed.low h.st t, Boxed.low h.fn t, h.low.trans (t.mono h.low.size)⟩
theorem OBX.grown {w : World} {m : M.Mz} {a b : Option Addr} {c d : Nat} {s : Int} {W W' : World} {row : Option Nat} (h : OBX w m a b c d s W) (hg : W.grownBy W' row) (hr : ∀ r, row = some r → w.heap.size + 4 ≤ r) : OBX w m a b c d s W' :=
  ⟨h.mz.grown hg (fun e => by have := hr _ e; omega), h.st.kept hg (fun e => by have := hr _ e.symm; omega), h.fn.kept hg (fun e => by have := hr _ e.symm; omega), h.low.grown hg h.low.size (fun r e => by have := hr r e; omega)⟩
theorem countStep_any (n : Nat) (hn : n ≤ 4096) (x y : Value) (W : World) : Calls Try.prog 76 #[.int .i64 (n : Int), x, y] W fun e w' => e = .returned (.int .i64 ((n : Int) + 1)) ∧ W = w' := by
  go_enter Try.func76, Try.ntmps76
  go_wp2_with fail
  go_ret
  exact ⟨by go_num, rfl⟩
theorem BoxL.setF {bk bn k n g : Nat} {u : Value} {W : World} (h : BoxL bk bn k n W) (h1 : g ≠ bk) (h2 : g ≠ bn) : BoxL bk bn k n (W.setCell ⟨g, 0, none⟩ u) := ⟨Boxed.other h.1 (Ne.symm h1) u, Boxed.other h.2 (Ne.symm h2) u⟩
theorem OBX.setV {w : World} {m : M.Mz} {a b : Option Addr} {c d : Nat} {s : Int} {W : World} {u : Value} (h : OBX w m a b c d s W) : OBX w m a b c d s (W.setCell ⟨w.heap.size + 1 + 1, 0, none⟩ u) :=
  ⟨h.mz.grown (grownBy_setCell' W _ u) (fun e => by injection e with e; omega), Boxed.other h.st (by omega) u, Boxed.other h.fn (by omega) u, h.low.setCell (p := ⟨w.heap.size + 1 + 1, 0, none⟩) (Nat.le_trans (Nat.le_succ _) (Nat.le_succ _)) _⟩
theorem KpL_put {bk bn k n B : Nat} (h1 : bk < B) (h2 : bn < B) (W : World) (l : Nat) (o o' : Obj) (hl : B ≤ l) (_ : W.heap[l]? = some o) (_ : o.isCells = false) (_ : o.isWalk = false) : KpL bk bn k n W (W.putObj l o') :=
  fun h => ⟨h.1.kept (grownBy_putObj' W l o') (by simp; omega), h.2.kept (grownBy_putObj' W l o') (by simp; omega)⟩
theorem RL_put {n k B : Nat} (x : Nat × Nat) (W : World) (l : Nat) (o o' : Obj) (_ : B ≤ l) (hh : W.heap[l]? = some o) (hc : o.isCells = false) (h : RL n k x W) : RL n k x (W.putObj l o') := by
  obtain ⟨h1, h2⟩ := h
  refine ⟨?_, by have := (grownBy_putObj' W l o').size; omega⟩
  rcases h1 with h1 | ⟨g, off, cur, ha, hlo, hhi, hg, hcc⟩
  · exact .inl h1
  · refine .inr ⟨g, off, cur, ha, hlo, hhi, ?_, hcc⟩
    have hne : g ≠ l := by
      rintro rfl
      rw [hg] at hh
      injection hh with hh
      rw [← hh] at hc
      cases hc
    exact (World.putObj_heap_other hne).trans hg
theorem overI_any (w : World) (lo hi : Nat) (m : M.Mz) (a b : Option Addr) (c d : Nat) (h : MzIn lo hi w m a c b d) (hz : hi ≤ w.heap.size) (_h1 : m.doors.length ≤ 1048576) (_h2 : m.keys.length ≤ 1048576) (s : Int) (_s1 : -9223372036854775808 ≤ s) (_s2 : s ≤ 9223372036854775807) :
    Calls Try.prog 75 #[.agg #[.int .i64 m.size, .slice a m.doors.length c, .slice b m.keys.length d], .int .i64 s, .int .i64 0, .func (.func 76) #[] #[]] w (fun e w' => e = .returned (.tuple #[.int .i64 (M.cntV m s), .bool (M.fewB m s)]) ∧ Below w.heap.size w w') := by
  have H := Lib.hid h
  clear h
  refine (callsIn_wide (n := 5)).1 ?_
  refine callsIn_of_wp_marks Try.func75 rfl trivial ?_ rfl
  simp only [Try.ntmps75, List.size_toArray, List.length_cons, List.length_nil, Nat.reduceAdd, Nat.reduceSub, Array.replicate_succ, Array.replicate_zero, List.push_toArray, List.append_toArray, List.nil_append, List.cons_append]
  have hF1 : Fence.wide.fn 64 := trivial
  have hF2 : Fence.wide.fn 65 := trivial
  have hF3 : Fence.wide.fn 68 := trivial
  have hF4 : Fence.wide.fn 112 := trivial
  have hF5 : Fence.wide.fn 30 := trivial
  have hF6 : Fence.wide.fn 76 := trivial
  gi_upto_region 1 with fail
  refine wpIn_named ?_
  intro W hW
  have hb : Below w.heap.size w W := by rw [hW]; exact ((((below_alloc _ _).alloc (by simp) _).alloc (by simp; omega) _).alloc (by simp; omega) _)
  have x0 : Box3 W w.heap.size 27 (.int .i64 m.size) (.slice a m.doors.length c) (.slice b m.keys.length d) := by rw [hW]; exact (((Box3.new _ _ _ _ rfl).alloc _).alloc _).alloc _
  have x1 : Boxed W (w.heap.size + 1) 3 (.int .i64 s) := by
    rw [hW]
    have h := Boxed.new (w.alloc (.cells #[.int .i64 m.size, .slice a m.doors.length c, .slice b m.keys.length d] 27)) 3 (.int .i64 s)
    simp only [World.size_alloc] at h
    exact (h.alloc _).alloc _
  have xv : Boxed W (w.heap.size + 1 + 1) 3 (.int .i64 0) := by
    rw [hW]
    have h := Boxed.new ((w.alloc (.cells #[.int .i64 m.size, .slice a m.doors.length c, .slice b m.keys.length d] 27)).alloc (.cells #[.int .i64 s] 3)) 3 (.int .i64 0)
    simp only [World.size_alloc] at h
    exact h.alloc _
  have x3 : Boxed W (w.heap.size + 1 + 1 + 1) 75 (.func (.func 76) #[] #[]) := by
    rw [hW]
    have h := Boxed.new (((w.alloc (.cells #[.int .i64 m.size, .slice a m.doors.length c, .slice b m.keys.length d] 27)).alloc (.cells #[.int .i64 s] 3)).alloc (.cells #[.int .i64 0] 3)) 75 (.func (.func 76) #[] #[])
    simp only [World.size_alloc] at h
    exact h
  clear hW
  have hzw := hb.size
  have hxl := x0.lt
  obtain ⟨c0, c1, c2⟩ := x0.cells
  have s0 := x1.cell
  have HX := Lib.hid (show OBX w m a b c d s W from ⟨x0, x1, x3, hb⟩)
  have HV := Lib.hid xv
  have HIM := Lib.hid (isMaze_any W lo hi m a b c d (H.out.below hb hz) (by omega))
  clear x0 x1 x3 xv hb
  gi_wp2
  refine (callsIn_wide.2 HIM.out).mono ?_
  rintro e w1 ⟨rfl, hb1⟩
  have X1 := Lib.hid (HX.out.low' hb1)
  have V1 := Lib.hid (Boxed.low HV.out hb1)
  have hz1 := hb1.size
  clear hb1 c0 c1 c2 s0 HIM
  obtain ⟨c0, c1, c2⟩ := X1.out.mz.cells
  have s0 := X1.out.st.cell
  have hxl1 := X1.out.mz.lt
  cases qm : M.mazeB m with
  | false =>
    have HQ : Hid (M.fewB m s = false) := Lib.hid (by unfold M.fewB M.askB; rw [qm]; rfl)
    clear qm
    gi_wp2
    exact ⟨_, results_tmp2 rfl _ _ _, by rw [HQ.out]; unfold M.cntV; rw [HQ.out]; rfl, X1.out.low⟩
  | true =>
    have HM := Lib.hid qm
    clear qm
    gi_wp2
    refine (callsIn_wide.2 (isSet_any s w1)).mono ?_
    rintro e w2 ⟨rfl, rfl⟩
    cases qs : M.setB s with
    | false =>
      have HQ : Hid (M.fewB m s = false) := Lib.hid (by unfold M.fewB M.askB; rw [qs, Bool.and_false]; rfl)
      clear qs
      gi_wp2
      exact ⟨_, results_tmp2 rfl _ _ _, by rw [HQ.out]; unfold M.cntV; rw [HQ.out]; rfl, X1.out.low⟩
    | true =>
      have HA : Hid (M.askB m s = true) := Lib.hid (by unfold M.askB; rw [qs, HM.out]; rfl)
      have hv := (M.ask_yes HA.out).1
      obtain ⟨n, hn⟩ : ∃ n : Nat, m.size = (n : Int) := ⟨m.size.toNat, by have := hv.size1; omega⟩
      have hn1 : 1 ≤ n := by have := hv.size1; omega
      have hn12 : n ≤ 12 := by have := hv.size12; omega
      have HN := Lib.hid hn
      have HSZ := Lib.hid (fun W => sizeOf_any s qs W)
      have hk6 := M.many_le s
      rw [hn] at c0
      clear qs hv
      by_cases hn8 : n ≤ 8
      · have hg8 : ¬ (8 : Int) < (n : Int) := by omega
        gi_wp2
        refine (callsIn_wide.2 (HSZ.out w1)).mono ?_
        rintro e w2 ⟨rfl, rfl⟩
        have HKK : Hid (M.manyC s = M.manyC s) := Lib.hid rfl
        by_cases hk4 : M.manyC s ≤ 4
        · have HQ : Hid (M.fewB m s = true) := Lib.hid (by unfold M.fewB; rw [HA.out, decide_eq_true (show m.size ≤ 8 by omega), decide_eq_true hk4]; rfl)
          have hg4 : ¬ (4 : Int) < (M.manyC s : Int) := by omega
          have HNL := Lib.hid (fun W => numL_calls W (M.manyC s) n)
          generalize hk : M.manyC s = k at *
          have HK := Lib.hid hk
          clear hk hn
          gi_upto_region 4 with fail
          refine wpIn_calm ?_
          gi_region_with (first | (gi_at_call 68; refine (callsIn_wide.2 (HSZ.out w1.drew)).mono ?_; rintro e w2 ⟨rfl, rfl⟩) | (gi_at_call 112; refine (callsIn_wide.2 (HNL.out w1.drew)).mono ?_; rintro e w5 ⟨rfl, hbx5, hb5, hs5⟩))
          all_goals
            refine calm_of ?_
            have hd8 : decide ((8 : Int) < (n : Int)) = false := decide_eq_false (by omega)
            have hd4 : decide ((4 : Int) < (k : Int)) = false := decide_eq_false (by omega)
            simp only [hd8, hd4, Bool.or_false]
            have hb5' : Below w1.heap.size w1 w5 := (Below.refl w1.heap.size w1).drew.trans hb5
            have X5 := Lib.hid (X1.out.low' hb5')
            have V5 := Lib.hid (Boxed.low V1.out hb5')
            have hs5' : w5.heap.size = w1.heap.size + 2 := hs5
            have h4w : w.heap.size + 4 ≤ w1.heap.size := by have := X1.out.fn.lt; omega
            have HBX := Lib.hid (show BoxL w1.heap.size (w1.heap.size + 1) k n w5 from hbx5)
            have HSET2 := Lib.hid HA.out
            clear hbx5 hb5 hb5' hs5 c0 c1 c2 s0 hd8 hd4 hg8 hg4
            gi_wp2
            refine wpIn_range_reads (gf := 133) (lb := #[.pointer (some ⟨w1.heap.size, 0, none⟩), .pointer (some ⟨w1.heap.size + 1, 0, none⟩)]) rfl (enters_of Try.func133 (by kernel_rfl) rfl) (encs := encL k) (R := RL n k) (Kp := KpL w1.heap.size (w1.heap.size + 1) k n) (S := SL n k) (N := 4096) (w0 := w5)
              (fun l J W' hW' hJ hY h0 => lists_in 4 (by decide) l w1.heap.size (w1.heap.size + 1) k n hk4 hn1 hn8 J hY W' hJ (HBX.out.low hW') h0)
              (fun h k e => k (h e)) (KpL_put (by omega) (by omega)) (fun x W' l o o' hl => RL_put x W' l o o' hl) (Below.refl _ _) (fun _ => rfl)
              (fun pre W => OBX w m a b c d s W ∧ Boxed W (w.heap.size + 1 + 1) 3 (.int .i64 ((M.winsP m s n k pre).length : Int))) ?own ⟨X5.out, V5.out⟩ (fun x => { tmps := #[.agg #[.int .i64 (n : Int), .slice a m.doors.length c, .slice b m.keys.length d], .int .i64 s, .int .i64 0, .func (.func 76) #[] #[], .pointer (some ⟨w.heap.size, 0, none⟩), .pointer (some ⟨w.heap.size + 1, 0, none⟩), .pointer (some ⟨w.heap.size + 1 + 1, 0, none⟩), .pointer (some ⟨w.heap.size + 1 + 1 + 1, 0, none⟩), .int .i64 0, .bool false, undef, .slice (some ⟨x.1, 0, none⟩) k k, undef, undef, .agg #[.int .i64 (n : Int), .slice a m.doors.length c, .slice b m.keys.length d], .bool true, .bool false, .bool false, .int .i64 s, .bool true, .bool false, .bool false, .bool false, .pointer (some ⟨w.heap.size, 0, none⟩), .int .i64 (n : Int), .bool false, .bool false, .bool false, .int .i64 s, .int .i64 (k : Int), .bool false, .bool false, undef, .int .i64 s, .int .i64 (k : Int), .pointer (some ⟨w.heap.size, 0, none⟩), .int .i64 (n : Int), .func (.func 133) #[] #[.pointer (some ⟨w1.heap.size, 0, none⟩), .pointer (some ⟨w1.heap.size + 1, 0, none⟩)], .slice (some ⟨x.1, 0, none⟩) k k, undef, undef, undef, undef, undef, undef, undef, undef, undef, undef, undef, undef, undef, undef], defers := [] }) ?assign ?body ?done
            case own => exact fun pre W W1 row ⟨h1, h2⟩ hg hr => ⟨h1.grown hg (fun r e => by have := (hr r e).1; omega), h2.kept hg (fun e => by have := (hr _ e.symm).1; omega)⟩
            case assign =>
              intro l x W' K hK
              unfold encL
              gi_wp2
              exact hK
            case body =>
              rintro l pre x W2 ⟨hX, hv⟩ hR hlt
              have hF := M.dig_fil HSET2.out (n := n) HN.out x.2
              rw [HK.out] at hF
              have HFW := Lib.hid (M.fwin_yes hF)
              have HWF := Lib.hid (M.winF_dep hF)
              have HDP := Lib.hid (show Calls Try.prog 30 #[.agg #[.int .i64 (n : Int), .slice a m.doors.length c, .slice b m.keys.length d], .int .i64 s, .slice (some ⟨x.1, 0, none⟩) k k] W2 (fun e w' => e = .returned (.tuple #[.int .i64 (M.fdepV m s (M.digL n k x.2)), .bool (M.fwinB m s (M.digL n k x.2))]) ∧ Below W2.heap.size W2 w') from by
                have h := implDepth_lw W2 lo hi m a b c d (H.out.below hX.low hz) (by have := hX.low.size; omega) _h1 _h2 s _s1 _s2 x.1 (x.1 + 1) (some ⟨x.1, 0, none⟩) k (M.digL n k x.2) hR.1.row (by have := hR.2; omega) (by rw [M.digL_len]; omega) (by rw [M.digL_len]; exact Nat.le_refl _) (by omega) (fun z hz => by have := M.digL_node (n := n) (by omega) k x.2 z hz; omega)
                rw [M.digL_len, HN.out] at h
                exact h)
              have X2 := Lib.hid hX
              have V2 := Lib.hid hv
              have R2 := Lib.hid hR
              have hwl := M.winsP_len m s n k pre
              have mz := hX.mz
              rw [HN.out] at mz
              obtain ⟨c0, c1, c2⟩ := mz.cells
              have s0 := hX.st.cell
              have hxl2 := hX.fn.lt
              clear hX hv hR mz hF
              gi_wp2
              refine (CallsIn.inRound l (callsIn_wide.2 HDP.out)).mono ?_
              rintro e W3 ⟨rfl, hb3⟩
              have X3 := Lib.hid (X2.out.low' hb3)
              have V3 := Lib.hid (Boxed.low V2.out hb3)
              have B3 := Lib.hid hb3
              have hz3 := hb3.size
              rw [HFW.out.1, HFW.out.2]
              clear hb3 c0 c1 c2 s0 HDP
              cases qw : M.winF m s (M.digL n k x.2) with
              | false =>
                have HWP := Lib.hid (M.winsP_no (n := n) (pre := pre) qw)
                have HD := HWF.out
                rw [qw] at HD
                rw [← HD]
                clear qw HD
                gi_wp2
                exact ⟨KeepsFrom.of_grownBy (grown_none B3.out) (fun j e => by cases e), fun e => e.low B3.out, X3.out, by rw [HWP.out]; exact V3.out⟩
              | true =>
                have HWP := Lib.hid (M.winsP_yes (n := n) (pre := pre) qw)
                have HD := HWF.out
                rw [qw] at HD
                rw [← HD]
                clear qw HD
                have f0 := X3.out.fn.cell
                have v0 := V3.out.cell
                have fz := V3.out.frozen
                have hvl := V3.out.lt
                have hcl : (M.winsP m s n k pre).length ≤ 4096 := by omega
                have HLL : Hid ((M.winsP m s n k (pre ++ [x])).length = (M.winsP m s n k pre).length + 1) := Lib.hid (by rw [HWP.out, List.length_append]; rfl)
                generalize (M.winsP m s n k pre).length = cnt at *
                gi_wp2
                refine (CallsIn.inRound l (callsIn_wide.2 (countStep_any cnt (by omega) _ _ W3))).mono ?_
                rintro e W4 ⟨rfl, rfl⟩
                gi_wp2
                have hgr : W3.grownBy (W3.setCell ⟨w.heap.size + 1 + 1, 0, none⟩ (.int .i64 ((cnt : Int) + 1))) (some (w.heap.size + 1 + 1)) := grownBy_setCell' W3 _ _
                exact ⟨(KeepsFrom.of_grownBy (grown_none B3.out) (fun j e => by cases e)).trans (KeepsFrom.of_grownBy hgr (fun j e => by injection e with e; omega)), fun e => (e.low B3.out).setF (by omega) (by omega), X3.out.setV, by rw [HLL.out]; exact Boxed.set _ V3.out⟩
            case done =>
              rintro D xs W2 hD hS ⟨hX, hv⟩ hK
              have v0 := hv.cell
              have HWA := Lib.hid (M.winsP_all (m := m) (s := s) (xs := xs) (by rw [HK.out, show m.size.toNat = n by rw [HN.out]; rfl]; exact hS))
              rw [HK.out, show m.size.toNat = n by rw [HN.out]; rfl] at HWA
              have X2 := Lib.hid hX
              clear hX hv
              gi_wp2
              refine ⟨by simp, .inl ⟨_, _, rfl, run_takeDeferred hK, ?_⟩⟩
              exact ⟨_, results_tmp2 rfl _ _ _, by rw [HQ.out]; unfold M.cntV; rw [HQ.out, ← HWA.out]; rfl, X2.out.low.trans (belowK_b (w := w) (Nat.le_refl _) W2 D _ _ (by omega) hK rfl rfl)⟩
        · have HQ : Hid (M.fewB m s = false) := Lib.hid (by unfold M.fewB; rw [HA.out, decide_eq_false hk4]; simp)
          have hg4 : (4 : Int) < (M.manyC s : Int) := by omega
          clear hn
          gi_wp2
          exact ⟨_, results_tmp2 rfl _ _ _, by rw [HQ.out]; unfold M.cntV; rw [HQ.out]; rfl, X1.out.low⟩
      · have HQ : Hid (M.fewB m s = false) := Lib.hid (by unfold M.fewB; rw [HA.out, decide_eq_false (show ¬ m.size ≤ 8 by omega)]; rfl)
        have hg8 : (8 : Int) < (n : Int) := by omega
        clear hn
        gi_wp2
        exact ⟨_, results_tmp2 rfl _ _ _, by rw [HQ.out]; unfold M.cntV; rw [HQ.out]; rfl, X1.out.low⟩
end C
end Go.Proofs.Ytddpjjdncmokmaa
