/-
  CONTRACT of overWins for the counting at a place. No condition but that the maze reads so and the place is one.
-/
import Derived.Test.YtddpjjdncmokmaaNumM
import Derived.Test.YtddpjjdncmokmaaOverI
import Derived.Test.YtddpjjdncmokmaaCntB
import Derived.RangeFuncCalls
import Derived.RangeFuncNested
import Derived.RangeFuncLeaves
namespace Go.Proofs.Ytddpjjdncmokmaa
open Go.RowKit
namespace M
noncomputable def cnt8 (m : Mz) (s : Int) (p : Nat) : Nat → Int := if fewB m s then atV (winL m s) p else fun _ => 0
theorem cnt8_yes {m : Mz} {s : Int} {p : Nat} (h : fewB m s = true) : cnt8 m s p = atV (winL m s) p := by unfold cnt8; rw [if_pos h]
theorem cnt8_no {m : Mz} {s : Int} {p : Nat} (h : fewB m s = false) : cnt8 m s p = fun _ => 0 := by unfold cnt8; rw [h]; rfl
end M
namespace C
set_option linter.unusedVariables false
set_option maxHeartbeats 3200000
set_option maxRecDepth 20000
attribute [local go_sem] Oper.semAt_some
structure OBC (w : World) (m : M.Mz) (a b : Option Addr) (c d : Nat) (s : Int) (pb p : Nat) (W : World) : Prop where
  mz : Box3 W w.heap.size 27 (.int .i64 m.size) (.slice a m.doors.length c) (.slice b m.keys.length d)
  st : Boxed W (w.heap.size + 1) 3 (.int .i64 s)
  fn : Boxed W (w.heap.size + 1 + 1 + 1) 86 (.func (.func 83) #[] #[.pointer (some ⟨pb, 0, none⟩)])
  res : Box8 W (w.heap.size + 1 + 1 + 1 + 1) 83 (fun _ => 0)
  pl : Boxed W pb 3 (.int .i64 (p : Int))
  low : Below w.heap.size w W
section
variable {w : World} {m : M.Mz} {a b : Option Addr} {c d : Nat} {s : Int} {pb p : Nat} {W W' : World}
theorem OBC.low' (h : OBC w m a b c d s pb p W) (t : Below W.heap.size W W') : OBC w m a b c d s pb p W' :=
  ⟨h.mz.below t, Boxed.low h.st t, Boxed.low h.fn t, h.res.below t, Boxed.low h.pl t, h.low.trans (t.mono h.low.size)⟩
theorem OBC.grown {row : Option Nat} (h : OBC w m a b c d s pb p W) (hg : W.grownBy W' row) (hb : pb < w.heap.size) (hr : ∀ r, row = some r → w.heap.size + 5 ≤ r ∨ r = w.heap.size + 1 + 1) : OBC w m a b c d s pb p W' :=
  ⟨h.mz.grown hg (fun e => by have := hr _ e; omega), h.st.kept hg (fun e => by have := hr _ e.symm; omega), h.fn.kept hg (fun e => by have := hr _ e.symm; omega), h.res.grown hg (fun e => by have := hr _ e; omega), h.pl.kept hg (fun e => by have := hr _ e.symm; omega), h.low.grown hg h.low.size (fun r e => by have := hr r e; omega)⟩
end
theorem grown_set8 (W : World) (g : Nat) (B : Nat → Int) : W.grownBy ((((((((W.setCell ⟨g, 0, none⟩ (.int .i64 (B 0))).setCell ⟨g, 1, none⟩ (.int .i64 (B 1))).setCell ⟨g, 2, none⟩ (.int .i64 (B 2))).setCell ⟨g, 3, none⟩ (.int .i64 (B 3))).setCell ⟨g, 4, none⟩ (.int .i64 (B 4))).setCell ⟨g, 5, none⟩ (.int .i64 (B 5))).setCell ⟨g, 6, none⟩ (.int .i64 (B 6))).setCell ⟨g, 7, none⟩ (.int .i64 (B 7))) (some g) :=
  ⟨by simp only [World.setCell], by simp only [World.setCell], by simp only [World.setCell], by simp only [World.size_setCell]; exact Nat.le_refl _, fun k hk hne => by
    have e : ¬ g = k := fun e => hne (by rw [e])
    simp [World.setCell, Array.getElem?_modify, e]⟩
theorem _root_.Go.Proofs.Ytddpjjdncmokmaa.C.BoxL.kept8 {bk bn k n : Nat} {W W' : World} {row : Option Nat} (h : BoxL bk bn k n W) (hg : W.grownBy W' row) (hr : ∀ r, row = some r → r < bk) (hbn : bk ≤ bn) : BoxL bk bn k n W' := ⟨Boxed.kept h.1 hg (fun e => by have := hr _ e.symm; omega), Boxed.kept h.2 hg (fun e => by have := hr _ e.symm; omega)⟩
theorem overC_any (w : World) (lo hi : Nat) (m : M.Mz) (a b : Option Addr) (c d : Nat) (h : MzIn lo hi w m a c b d) (hz : hi ≤ w.heap.size) (_h1 : m.doors.length ≤ 1048576) (_h2 : m.keys.length ≤ 1048576) (s : Int) (_s1 : -9223372036854775808 ≤ s) (_s2 : s ≤ 9223372036854775807) (pb p : Nat) (hpb : Boxed w pb 3 (.int .i64 (p : Int))) (hpk : p < M.manyC s) :
    Calls Try.prog 82 #[.agg #[.int .i64 m.size, .slice a m.doors.length c, .slice b m.keys.length d], .int .i64 s, .agg #[.int .i64 0, .int .i64 0, .int .i64 0, .int .i64 0, .int .i64 0, .int .i64 0, .int .i64 0, .int .i64 0], .func (.func 83) #[] #[.pointer (some ⟨pb, 0, none⟩)]] w (fun e w' => e = .returned (.tuple #[agg8 (M.cnt8 m s p), .bool (M.fewB m s)]) ∧ Below w.heap.size w w') := by
  have H := Lib.hid h
  have HPB := Lib.hid hpb
  have hpl := hpb.lt
  clear h hpb
  refine (callsIn_wide (n := 5)).1 ?_
  refine callsIn_of_wp_marks Try.func82 rfl trivial ?_ rfl
  simp only [Try.ntmps82, List.size_toArray, List.length_cons, List.length_nil, Nat.reduceAdd, Nat.reduceSub, Array.replicate_succ, Array.replicate_zero, List.push_toArray, List.append_toArray, List.nil_append, List.cons_append]
  have hF1 : Fence.wide.fn 64 := trivial
  have hF2 : Fence.wide.fn 65 := trivial
  have hF3 : Fence.wide.fn 68 := trivial
  have hF4 : Fence.wide.fn 112 := trivial
  have hF5 : Fence.wide.fn 30 := trivial
  have hF6 : Fence.wide.fn 83 := trivial
  gi_upto_region 1 with fail
  refine wpIn_named ?_
  intro W hW
  have hb : Below w.heap.size w W := by rw [hW]; exact ((((below_alloc _ _).alloc (by simp) _).alloc (by simp; omega) _).alloc (by simp; omega) _).alloc (by simp; omega) _
  have x0 : Box3 W w.heap.size 27 (.int .i64 m.size) (.slice a m.doors.length c) (.slice b m.keys.length d) := by rw [hW]; exact ((((Box3.new _ _ _ _ rfl).alloc _).alloc _).alloc _).alloc _
  have x1 : Boxed W (w.heap.size + 1) 3 (.int .i64 s) := by
    rw [hW]
    have h := Boxed.new (w.alloc (.cells #[.int .i64 m.size, .slice a m.doors.length c, .slice b m.keys.length d] 27)) 3 (.int .i64 s)
    simp only [World.size_alloc] at h
    exact ((h.alloc _).alloc _).alloc _
  have xv : Box8 W (w.heap.size + 1 + 1) 83 (fun _ => 0) := by
    rw [hW]
    exact ((Box8.new (w := (w.alloc (.cells #[.int .i64 m.size, .slice a m.doors.length c, .slice b m.keys.length d] 27)).alloc (.cells #[.int .i64 s] 3)) (g := w.heap.size + 1 + 1) 83 (fun _ => 0) (by simp)).alloc _).alloc _
  have x3 : Boxed W (w.heap.size + 1 + 1 + 1) 86 (.func (.func 83) #[] #[.pointer (some ⟨pb, 0, none⟩)]) := by
    rw [hW]
    have h := Boxed.new (((w.alloc (.cells #[.int .i64 m.size, .slice a m.doors.length c, .slice b m.keys.length d] 27)).alloc (.cells #[.int .i64 s] 3)).alloc (.cells #[.int .i64 0, .int .i64 0, .int .i64 0, .int .i64 0, .int .i64 0, .int .i64 0, .int .i64 0, .int .i64 0] 83)) 86 (.func (.func 83) #[] #[.pointer (some ⟨pb, 0, none⟩)])
    simp only [World.size_alloc] at h
    exact h.alloc _
  have x4 : Box8 W (w.heap.size + 1 + 1 + 1 + 1) 83 (fun _ => 0) := by
    rw [hW]
    exact Box8.new (w := (((w.alloc (.cells #[.int .i64 m.size, .slice a m.doors.length c, .slice b m.keys.length d] 27)).alloc (.cells #[.int .i64 s] 3)).alloc (.cells #[.int .i64 0, .int .i64 0, .int .i64 0, .int .i64 0, .int .i64 0, .int .i64 0, .int .i64 0, .int .i64 0] 83)).alloc (.cells #[.func (.func 83) #[] #[.pointer (some ⟨pb, 0, none⟩)]] 86)) (g := w.heap.size + 1 + 1 + 1 + 1) 83 (fun _ => 0) (by simp)
  have x5 : Boxed W pb 3 (.int .i64 (p : Int)) := Boxed.low HPB.out hb
  clear hW
  have hzw := hb.size
  have hxl := x0.lt
  obtain ⟨c0, c1, c2⟩ := x0.cells
  have s0 := x1.cell
  have HX := Lib.hid (show OBC w m a b c d s pb p W from ⟨x0, x1, x3, x4, x5, hb⟩)
  have HV := Lib.hid xv
  have HIM := Lib.hid (isMaze_any W lo hi m a b c d (H.out.below hb hz) (by omega))
  clear x0 x1 x3 x4 x5 xv hb
  gi_wp2
  refine (callsIn_wide.2 HIM.out).mono ?_
  rintro e w1 ⟨rfl, hb1⟩
  have X1 := Lib.hid (HX.out.low' hb1)
  have V1 := Lib.hid (HV.out.below hb1)
  have hz1 := hb1.size
  clear hb1 c0 c1 c2 s0 HIM
  obtain ⟨c0, c1, c2⟩ := X1.out.mz.cells
  have s0 := X1.out.st.cell
  have hxl1 := X1.out.mz.lt
  cases qm : M.mazeB m with
  | false =>
    have HQ : Hid (M.fewB m s = false) := Lib.hid (by unfold M.fewB M.askB; rw [qm]; rfl)
    clear qm
    have HD := Lib.hid (M.cnt8_no (p := p) HQ.out)
    obtain ⟨r0, r1, r2, r3, r4, r5, r6, r7⟩ := X1.out.res.cells
    obtain ⟨g0, g1, g2, g3, g4, g5, g6, g7⟩ := X1.out.res.free
    have hrl := X1.out.res.lt
    have hbs := X1.out.low.size
    gi_wp2
    obtain ⟨q0, q1, q2, q3, q4, q5, q6, q7⟩ := ((X1.out.res.setAll (fun _ => 0)).alloc (.cells #[.int .i64 0, .int .i64 0, .int .i64 0, .int .i64 0, .int .i64 0, .int .i64 0, .int .i64 0, .int .i64 0] 83)).cells
    refine ⟨.tuple #[.agg #[.int .i64 0, .int .i64 0, .int .i64 0, .int .i64 0, .int .i64 0, .int .i64 0, .int .i64 0, .int .i64 0], .bool false], by simp [results, Try.results82, go_sem, q0, q1, q2, q3, q4, q5, q6, q7], ?_⟩
    rw [HQ.out, HD.out]
    exact ⟨rfl, ((((((((X1.out.low.setCell (p := ⟨w.heap.size + 1 + 1 + 1 + 1, 0, none⟩) (show w.heap.size ≤ w.heap.size + 1 + 1 + 1 + 1 by omega) _).setCell (p := ⟨w.heap.size + 1 + 1 + 1 + 1, 1, none⟩) (show w.heap.size ≤ w.heap.size + 1 + 1 + 1 + 1 by omega) _).setCell (p := ⟨w.heap.size + 1 + 1 + 1 + 1, 2, none⟩) (show w.heap.size ≤ w.heap.size + 1 + 1 + 1 + 1 by omega) _).setCell (p := ⟨w.heap.size + 1 + 1 + 1 + 1, 3, none⟩) (show w.heap.size ≤ w.heap.size + 1 + 1 + 1 + 1 by omega) _).setCell (p := ⟨w.heap.size + 1 + 1 + 1 + 1, 4, none⟩) (show w.heap.size ≤ w.heap.size + 1 + 1 + 1 + 1 by omega) _).setCell (p := ⟨w.heap.size + 1 + 1 + 1 + 1, 5, none⟩) (show w.heap.size ≤ w.heap.size + 1 + 1 + 1 + 1 by omega) _).setCell (p := ⟨w.heap.size + 1 + 1 + 1 + 1, 6, none⟩) (show w.heap.size ≤ w.heap.size + 1 + 1 + 1 + 1 by omega) _).setCell (p := ⟨w.heap.size + 1 + 1 + 1 + 1, 7, none⟩) (show w.heap.size ≤ w.heap.size + 1 + 1 + 1 + 1 by omega) _).alloc (by simp [World.setCell]; omega) _⟩
  | true =>
    have HM := Lib.hid qm
    clear qm
    gi_wp2
    refine (callsIn_wide.2 (isSet_any s w1)).mono ?_
    rintro e w2 ⟨rfl, rfl⟩
    cases qs : M.setB s with
    | false =>
      have HQ : Hid (M.fewB m s = false) := Lib.hid (by unfold M.fewB M.askB; rw [qs, Bool.and_false]; rfl)
      clear qs
      have HD := Lib.hid (M.cnt8_no (p := p) HQ.out)
      obtain ⟨r0, r1, r2, r3, r4, r5, r6, r7⟩ := X1.out.res.cells
      obtain ⟨g0, g1, g2, g3, g4, g5, g6, g7⟩ := X1.out.res.free
      have hrl := X1.out.res.lt
      have hbs := X1.out.low.size
      gi_wp2
      obtain ⟨q0, q1, q2, q3, q4, q5, q6, q7⟩ := ((X1.out.res.setAll (fun _ => 0)).alloc (.cells #[.int .i64 0, .int .i64 0, .int .i64 0, .int .i64 0, .int .i64 0, .int .i64 0, .int .i64 0, .int .i64 0] 83)).cells
      refine ⟨.tuple #[.agg #[.int .i64 0, .int .i64 0, .int .i64 0, .int .i64 0, .int .i64 0, .int .i64 0, .int .i64 0, .int .i64 0], .bool false], by simp [results, Try.results82, go_sem, q0, q1, q2, q3, q4, q5, q6, q7], ?_⟩
      rw [HQ.out, HD.out]
      exact ⟨rfl, ((((((((X1.out.low.setCell (p := ⟨w.heap.size + 1 + 1 + 1 + 1, 0, none⟩) (show w.heap.size ≤ w.heap.size + 1 + 1 + 1 + 1 by omega) _).setCell (p := ⟨w.heap.size + 1 + 1 + 1 + 1, 1, none⟩) (show w.heap.size ≤ w.heap.size + 1 + 1 + 1 + 1 by omega) _).setCell (p := ⟨w.heap.size + 1 + 1 + 1 + 1, 2, none⟩) (show w.heap.size ≤ w.heap.size + 1 + 1 + 1 + 1 by omega) _).setCell (p := ⟨w.heap.size + 1 + 1 + 1 + 1, 3, none⟩) (show w.heap.size ≤ w.heap.size + 1 + 1 + 1 + 1 by omega) _).setCell (p := ⟨w.heap.size + 1 + 1 + 1 + 1, 4, none⟩) (show w.heap.size ≤ w.heap.size + 1 + 1 + 1 + 1 by omega) _).setCell (p := ⟨w.heap.size + 1 + 1 + 1 + 1, 5, none⟩) (show w.heap.size ≤ w.heap.size + 1 + 1 + 1 + 1 by omega) _).setCell (p := ⟨w.heap.size + 1 + 1 + 1 + 1, 6, none⟩) (show w.heap.size ≤ w.heap.size + 1 + 1 + 1 + 1 by omega) _).setCell (p := ⟨w.heap.size + 1 + 1 + 1 + 1, 7, none⟩) (show w.heap.size ≤ w.heap.size + 1 + 1 + 1 + 1 by omega) _).alloc (by simp [World.setCell]; omega) _⟩
    | true =>
      have HA : Hid (M.askB m s = true) := Lib.hid (by unfold M.askB; rw [qs, HM.out]; rfl)
      have hv := (M.ask_yes HA.out).1
      obtain ⟨n, hn⟩ : ∃ n : Nat, m.size = (n : Int) := ⟨m.size.toNat, by have := hv.size1; omega⟩
      have hn1 : 1 ≤ n := by have := hv.size1; omega
      have hn12 : n ≤ 12 := by have := hv.size12; omega
      have HN := Lib.hid hn
      have HSZ := Lib.hid (fun W => sizeOf_any s qs W)
      have hk6 := M.many_le s
      rw [hn] at c0
      clear qs hv
      by_cases hn8 : n ≤ 8
      · have hg8 : ¬ (8 : Int) < (n : Int) := by omega
        gi_wp2
        refine (callsIn_wide.2 (HSZ.out w1)).mono ?_
        rintro e w2 ⟨rfl, rfl⟩
        have HKK : Hid (M.manyC s = M.manyC s) := Lib.hid rfl
        by_cases hk4 : M.manyC s ≤ 4
        · have HQ : Hid (M.fewB m s = true) := Lib.hid (by unfold M.fewB; rw [HA.out, decide_eq_true (show m.size ≤ 8 by omega), decide_eq_true hk4]; rfl)
          have hg4 : ¬ (4 : Int) < (M.manyC s : Int) := by omega
          have HNL := Lib.hid (fun W => numL_calls W (M.manyC s) n)
          generalize hk : M.manyC s = k at *
          have HK := Lib.hid hk
          clear hk hn
          gi_upto_region 4 with fail
          refine wpIn_calm ?_
          gi_region_with (first | (gi_at_call 68; refine (callsIn_wide.2 (HSZ.out w1.drew)).mono ?_; rintro e w2 ⟨rfl, rfl⟩) | (gi_at_call 112; refine (callsIn_wide.2 (HNL.out w1.drew)).mono ?_; rintro e w5 ⟨rfl, hbx5, hb5, hs5⟩))
          all_goals
            refine calm_of ?_
            have hd8 : decide ((8 : Int) < (n : Int)) = false := decide_eq_false (by omega)
            have hd4 : decide ((4 : Int) < (k : Int)) = false := decide_eq_false (by omega)
            simp only [hd8, hd4, Bool.or_false]
            have hb5' : Below w1.heap.size w1 w5 := (Below.refl w1.heap.size w1).drew.trans hb5
            have X5 := Lib.hid (X1.out.low' hb5')
            have V5 := Lib.hid (V1.out.below hb5')
            have hs5' : w5.heap.size = w1.heap.size + 2 := hs5
            have h4w : w.heap.size + 5 ≤ w1.heap.size := by have := X1.out.res.lt; omega
            have HBX := Lib.hid (show BoxL w1.heap.size (w1.heap.size + 1) k n w5 from hbx5)
            have HSET2 := Lib.hid HA.out
            clear hbx5 hb5 hb5' hs5 c0 c1 c2 s0 hd8 hd4 hg8 hg4
            gi_wp2
            refine wpIn_range_reads (gf := 133) (lb := #[.pointer (some ⟨w1.heap.size, 0, none⟩), .pointer (some ⟨w1.heap.size + 1, 0, none⟩)]) rfl (enters_of Try.func133 (by kernel_rfl) rfl) (encs := encL k) (R := RM w1.heap.size n k) (Kp := KpM w1.heap.size (w1.heap.size + 1) k n) (S := SL n k) (N := 4096) (w0 := w5)
              (fun l J W' hW' hJ hY h0 => listsM_in w1.heap.size 4 (by decide) l w1.heap.size (w1.heap.size + 1) k n hk4 hn1 hn8 J hY W' (by have := hW'.size; omega) hJ (HBX.out.low hW') h0)
              (fun h k => ⟨fun e => k.1 (h.1 e), Nat.le_trans h.2 k.2⟩) (fun W' l o o' hl h1 h2 h3 => ⟨KpL_put (B := w5.heap.size) (by omega) (by omega) W' l o o' hl h1 h2 h3, (grownBy_putObj' W' l o').size⟩) (fun x W' l o o' hl hh hc h => ⟨RL_put x W' l o o' hl hh hc h.1, h.2⟩) (Below.refl _ _) (fun _ => rfl)
              (fun pre W => OBC w m a b c d s pb p W ∧ Box8 W (w.heap.size + 1 + 1) 83 (M.atV (M.winsP m s n k pre) p)) ?own ⟨X5.out, V5.out⟩ (fun x => { tmps := #[.agg #[.int .i64 (n : Int), .slice a m.doors.length c, .slice b m.keys.length d], .int .i64 s, .agg #[.int .i64 0, .int .i64 0, .int .i64 0, .int .i64 0, .int .i64 0, .int .i64 0, .int .i64 0, .int .i64 0], .func (.func 83) #[] #[.pointer (some ⟨pb, 0, none⟩)], .pointer (some ⟨w.heap.size, 0, none⟩), .pointer (some ⟨w.heap.size + 1, 0, none⟩), .pointer (some ⟨w.heap.size + 1 + 1, 0, none⟩), .pointer (some ⟨w.heap.size + 1 + 1 + 1, 0, none⟩), .pointer (some ⟨w.heap.size + 1 + 1 + 1 + 1, 0, none⟩), .bool false, undef, .slice (some ⟨x.1, 0, none⟩) k k, undef, undef, .agg #[.int .i64 (n : Int), .slice a m.doors.length c, .slice b m.keys.length d], .bool true, .bool false, .bool false, .int .i64 s, .bool true, .bool false, .bool false, .bool false, .pointer (some ⟨w.heap.size, 0, none⟩), .int .i64 (n : Int), .bool false, .bool false, .bool false, .int .i64 s, .int .i64 (k : Int), .bool false, .bool false, undef, .int .i64 s, .int .i64 (k : Int), .pointer (some ⟨w.heap.size, 0, none⟩), .int .i64 (n : Int), .func (.func 133) #[] #[.pointer (some ⟨w1.heap.size, 0, none⟩), .pointer (some ⟨w1.heap.size + 1, 0, none⟩)], .slice (some ⟨x.1, 0, none⟩) k k, undef, undef, undef, undef, undef, undef, undef, undef, undef, undef, undef, undef, undef, undef], defers := [] }) ?assign ?body ?done
            case own => exact fun pre W W1 row ⟨h1, h2⟩ hg hr => ⟨h1.grown hg hpl (fun r e => by have := (hr r e).1; omega), h2.grown hg (fun e => by have := (hr _ e).1; omega)⟩
            case assign =>
              intro l x W' K hK
              unfold encL
              gi_wp2
              exact hK
            case body =>
              rintro l pre x W2 ⟨hX, hv⟩ hR hlt
              have hF := M.dig_fil HSET2.out (n := n) HN.out x.2
              rw [HK.out] at hF
              have HFW := Lib.hid (M.fwin_yes hF)
              have HWF := Lib.hid (M.winF_dep hF)
              have HDP := Lib.hid (show Calls Try.prog 30 #[.agg #[.int .i64 (n : Int), .slice a m.doors.length c, .slice b m.keys.length d], .int .i64 s, .slice (some ⟨x.1, 0, none⟩) k k] W2 (fun e w' => e = .returned (.tuple #[.int .i64 (M.fdepV m s (M.digL n k x.2)), .bool (M.fwinB m s (M.digL n k x.2))]) ∧ Below W2.heap.size W2 w') from by
                have h := implDepth_lw W2 lo hi m a b c d (H.out.below hX.low hz) (by have := hX.low.size; omega) _h1 _h2 s _s1 _s2 x.1 (x.1 + 1) (some ⟨x.1, 0, none⟩) k (M.digL n k x.2) hR.1.1.row (by have := hR.1.2; omega) (by rw [M.digL_len]; omega) (by rw [M.digL_len]; exact Nat.le_refl _) (by omega) (fun z hz => by have := M.digL_node (n := n) (by omega) k x.2 z hz; omega)
                rw [M.digL_len, HN.out] at h
                exact h)
              have X2 := Lib.hid hX
              have V2 := Lib.hid hv
              have R2 := Lib.hid hR
              have hwl := M.winsP_len m s n k pre
              have mz := hX.mz
              rw [HN.out] at mz
              obtain ⟨c0, c1, c2⟩ := mz.cells
              have s0 := hX.st.cell
              have hxl2 := hX.res.lt
              clear hX hv hR mz hF
              gi_wp2
              refine (CallsIn.inRound l (callsIn_wide.2 HDP.out)).mono ?_
              rintro e W3 ⟨rfl, hb3⟩
              have X3 := Lib.hid (X2.out.low' hb3)
              have V3 := Lib.hid (V2.out.below hb3)
              have B3 := Lib.hid hb3
              have hz3 := hb3.size
              rw [HFW.out.1, HFW.out.2]
              clear hb3 c0 c1 c2 s0 HDP
              cases qw : M.winF m s (M.digL n k x.2) with
              | false =>
                have HWP := Lib.hid (M.winsP_no (n := n) (pre := pre) qw)
                have HD := HWF.out
                rw [qw] at HD
                rw [← HD]
                clear qw HD
                gi_wp2
                exact ⟨KeepsFrom.of_grownBy (grown_none B3.out) (fun j e => by cases e), ⟨fun e => e.low B3.out, B3.out.size⟩, X3.out, by rw [HWP.out]; exact V3.out⟩
              | true =>
                have HWP := Lib.hid (M.winsP_yes (n := n) (pre := pre) qw)
                have HD := HWF.out
                rw [qw] at HD
                rw [← HD]
                clear qw HD
                have f0 := X3.out.fn.cell
                have hrow := R2.out.1.1.row
                have hrl := R2.out.1.2
                have hpd : p < (M.digL n k x.2).length := by rw [M.digL_len]; exact hpk
                have hnode := M.digL_node (n := n) (by omega) k x.2 _ (List.getElem_mem hpd)
                obtain ⟨y, hy⟩ : ∃ y : Nat, (M.digL n k x.2)[p] = (y : Int) := ⟨((M.digL n k x.2)[p]).toNat, by omega⟩
                rw [hy] at hnode
                have hy8 : y < 8 := by omega
                obtain ⟨qg, qo, hqe, hqg1, hqg2, hc0⟩ := hrow.at_ (k := p) (by rw [M.encIs_len]; exact hpd)
                injection hqe with hqe
                injection hqe with hq1 hq2
                subst hq1 hq2
                have hcp := hc0 p (.int .i64 (y : Int)) (by rw [← hy]; exact M.encIs_at hpd)
                rw [Nat.zero_add] at hcp
                have hcp3 : W3.cell? ⟨x.1, p, none⟩ = some (.int .i64 (y : Int)) := (B3.out.cell (p := ⟨x.1, p, none⟩) hrl).trans hcp
                have HDS := Lib.hid (M.atV_snoc (M.winsP m s n k pre) (p := p) (fs := M.digL n k x.2) (x := y) (by rw [List.getD_eq_getElem?_getD, List.getElem?_eq_getElem hpd, Option.getD_some]; exact hy))
                rw [← HWP.out] at HDS
                have HLE := Lib.hid (fun i => show 0 ≤ M.atV (M.winsP m s n k pre) p i ∧ M.atV (M.winsP m s n k pre) p i ≤ 4096 from by have := M.atV_le (M.winsP m s n k pre) p i; omega)
                have hx4 : x.1 < W3.heap.size := by omega
                clear hrow hnode hy hc0 hcp hpd
                generalize hA : M.atV (M.winsP m s n k pre) p = A at *
                have VB := V3
                obtain ⟨v0, v1, v2, v3, v4, v5, v6, v7⟩ := VB.out.cells
                have hvl := VB.out.lt
                have hag : agg8 A = .agg #[.int .i64 (A 0), .int .i64 (A 1), .int .i64 (A 2), .int .i64 (A 3), .int .i64 (A 4), .int .i64 (A 5), .int .i64 (A 6), .int .i64 (A 7)] := rfl
                have hag2 : agg8 (M.upd8 A y) = .agg #[.int .i64 (M.upd8 A y 0), .int .i64 (M.upd8 A y 1), .int .i64 (M.upd8 A y 2), .int .i64 (M.upd8 A y 3), .int .i64 (M.upd8 A y 4), .int .i64 (M.upd8 A y 5), .int .i64 (M.upd8 A y 6), .int .i64 (M.upd8 A y 7)] := rfl
                have HST := Lib.hid (step8_any W3 A x.1 p k y pb (M.depR m s (M.digL n k x.2)) hcp3 hx4 hpk (by omega) X3.out.pl hy8 HLE.out)
                rw [hag, hag2] at HST
                clear hA hag hag2 hcp3
                gi_wp2
                refine (CallsIn.inRound l (callsIn_wide.2 HST.out)).mono ?_
                rintro e W4 ⟨rfl, hb4⟩
                have X4 := Lib.hid (X3.out.low' hb4)
                have B4 := Lib.hid hb4
                have VB4 := Lib.hid (VB.out.below hb4)
                have hz4 := hb4.size
                clear hb4 v0 v1 v2 v3 v4 v5 v6 v7
                obtain ⟨v0, v1, v2, v3, v4, v5, v6, v7⟩ := VB4.out.cells
                obtain ⟨g0, g1, g2, g3, g4, g5, g6, g7⟩ := VB4.out.free
                have hvl := VB4.out.lt
                gi_wp2
                have HG := grown_set8 W4 (w.heap.size + 1 + 1) (M.upd8 A y)
                exact ⟨((KeepsFrom.of_grownBy (grown_none B3.out) (fun j e => by cases e)).trans (KeepsFrom.of_grownBy (grown_none B4.out) (fun j e => by cases e))).trans (KeepsFrom.of_grownBy HG (fun j e => by injection e with e; omega)), ⟨fun e => ((e.low B3.out).low B4.out).kept8 HG (fun r e => by injection e with e; omega) (by omega), by simp only [World.size_setCell]; omega⟩,
                  X4.out.grown HG hpl (fun r e => by injection e with e; omega), by
                  rw [HDS.out]
                  exact VB4.out.setAll (M.upd8 A y)⟩
            case done =>
              rintro D xs W2 hD hS ⟨hX, hv⟩ hK
              have HWA := Lib.hid (M.winsP_all (m := m) (s := s) (xs := xs) (by rw [HK.out, show m.size.toNat = n by rw [HN.out]; rfl]; exact hS))
              rw [HK.out, show m.size.toNat = n by rw [HN.out]; rfl] at HWA
              have HDD := Lib.hid (M.cnt8_yes (p := p) HQ.out)
              rw [← HWA.out] at HDD
              rw [← HDD.out] at hv
              have X2 := Lib.hid hX
              clear HWA HDD
              generalize hA : M.cnt8 m s p = A at *
              have HA8 := Lib.hid hA
              clear hA
              obtain ⟨v0, v1, v2, v3, v4, v5, v6, v7⟩ := hv.cells
              obtain ⟨r0, r1, r2, r3, r4, r5, r6, r7⟩ := hX.res.cells
              obtain ⟨g0, g1, g2, g3, g4, g5, g6, g7⟩ := hX.res.free
              have hrl := hX.res.lt
              clear hX hv
              have hk5 : w5.heap.size ≤ D := hD
              gi_wp2
              have hdl : D < W2.heap.size := heap_lt hK
              have HG := grown_set8 W2 (w.heap.size + 1 + 1 + 1 + 1) A
              have hK3 := (HG.block D hdl (fun e => by injection e with e; omega)).trans hK
              refine ⟨by simp, .inl ⟨_, _, rfl, run_takeDeferred hK3, ?_⟩⟩
              obtain ⟨q0, q1, q2, q3, q4, q5, q6, q7⟩ := ((X2.out.res.setAll A).grown (grownBy_putObj' _ D (.deferred none)) (fun e => by injection e with e; omega)).cells
              refine ⟨.tuple #[.agg #[.int .i64 (A 0), .int .i64 (A 1), .int .i64 (A 2), .int .i64 (A 3), .int .i64 (A 4), .int .i64 (A 5), .int .i64 (A 6), .int .i64 (A 7)], .bool true], by simp [results, Try.results82, go_sem, q0, q1, q2, q3, q4, q5, q6, q7], ?_⟩
              rw [HQ.out, HA8.out]
              exact ⟨rfl, ((((((((X2.out.low.setCell (p := ⟨w.heap.size + 1 + 1 + 1 + 1, 0, none⟩) (show w.heap.size ≤ w.heap.size + 1 + 1 + 1 + 1 by omega) _).setCell (p := ⟨w.heap.size + 1 + 1 + 1 + 1, 1, none⟩) (show w.heap.size ≤ w.heap.size + 1 + 1 + 1 + 1 by omega) _).setCell (p := ⟨w.heap.size + 1 + 1 + 1 + 1, 2, none⟩) (show w.heap.size ≤ w.heap.size + 1 + 1 + 1 + 1 by omega) _).setCell (p := ⟨w.heap.size + 1 + 1 + 1 + 1, 3, none⟩) (show w.heap.size ≤ w.heap.size + 1 + 1 + 1 + 1 by omega) _).setCell (p := ⟨w.heap.size + 1 + 1 + 1 + 1, 4, none⟩) (show w.heap.size ≤ w.heap.size + 1 + 1 + 1 + 1 by omega) _).setCell (p := ⟨w.heap.size + 1 + 1 + 1 + 1, 5, none⟩) (show w.heap.size ≤ w.heap.size + 1 + 1 + 1 + 1 by omega) _).setCell (p := ⟨w.heap.size + 1 + 1 + 1 + 1, 6, none⟩) (show w.heap.size ≤ w.heap.size + 1 + 1 + 1 + 1 by omega) _).setCell (p := ⟨w.heap.size + 1 + 1 + 1 + 1, 7, none⟩) (show w.heap.size ≤ w.heap.size + 1 + 1 + 1 + 1 by omega) _).trans (belowK_b (w := w) (Nat.le_refl _) _ D _ _ (by omega) hK3 rfl rfl)⟩
        · have HQ : Hid (M.fewB m s = false) := Lib.hid (by unfold M.fewB; rw [HA.out, decide_eq_false hk4]; simp)
          have hg4 : (4 : Int) < (M.manyC s : Int) := by omega
          clear hn
          have HD := Lib.hid (M.cnt8_no (p := p) HQ.out)
          obtain ⟨r0, r1, r2, r3, r4, r5, r6, r7⟩ := X1.out.res.cells
          obtain ⟨g0, g1, g2, g3, g4, g5, g6, g7⟩ := X1.out.res.free
          have hrl := X1.out.res.lt
          have hbs := X1.out.low.size
          gi_wp2
          obtain ⟨q0, q1, q2, q3, q4, q5, q6, q7⟩ := ((X1.out.res.setAll (fun _ => 0)).alloc (.cells #[.int .i64 0, .int .i64 0, .int .i64 0, .int .i64 0, .int .i64 0, .int .i64 0, .int .i64 0, .int .i64 0] 83)).cells
          refine ⟨.tuple #[.agg #[.int .i64 0, .int .i64 0, .int .i64 0, .int .i64 0, .int .i64 0, .int .i64 0, .int .i64 0, .int .i64 0], .bool false], by simp [results, Try.results82, go_sem, q0, q1, q2, q3, q4, q5, q6, q7], ?_⟩
          rw [HQ.out, HD.out]
          exact ⟨rfl, ((((((((X1.out.low.setCell (p := ⟨w.heap.size + 1 + 1 + 1 + 1, 0, none⟩) (show w.heap.size ≤ w.heap.size + 1 + 1 + 1 + 1 by omega) _).setCell (p := ⟨w.heap.size + 1 + 1 + 1 + 1, 1, none⟩) (show w.heap.size ≤ w.heap.size + 1 + 1 + 1 + 1 by omega) _).setCell (p := ⟨w.heap.size + 1 + 1 + 1 + 1, 2, none⟩) (show w.heap.size ≤ w.heap.size + 1 + 1 + 1 + 1 by omega) _).setCell (p := ⟨w.heap.size + 1 + 1 + 1 + 1, 3, none⟩) (show w.heap.size ≤ w.heap.size + 1 + 1 + 1 + 1 by omega) _).setCell (p := ⟨w.heap.size + 1 + 1 + 1 + 1, 4, none⟩) (show w.heap.size ≤ w.heap.size + 1 + 1 + 1 + 1 by omega) _).setCell (p := ⟨w.heap.size + 1 + 1 + 1 + 1, 5, none⟩) (show w.heap.size ≤ w.heap.size + 1 + 1 + 1 + 1 by omega) _).setCell (p := ⟨w.heap.size + 1 + 1 + 1 + 1, 6, none⟩) (show w.heap.size ≤ w.heap.size + 1 + 1 + 1 + 1 by omega) _).setCell (p := ⟨w.heap.size + 1 + 1 + 1 + 1, 7, none⟩) (show w.heap.size ≤ w.heap.size + 1 + 1 + 1 + 1 by omega) _).alloc (by simp [World.setCell]; omega) _⟩
      · have HQ : Hid (M.fewB m s = false) := Lib.hid (by unfold M.fewB; rw [HA.out, decide_eq_false (show ¬ m.size ≤ 8 by omega)]; rfl)
        have hg8 : (8 : Int) < (n : Int) := by omega
        clear hn
        have HD := Lib.hid (M.cnt8_no (p := p) HQ.out)
        obtain ⟨r0, r1, r2, r3, r4, r5, r6, r7⟩ := X1.out.res.cells
        obtain ⟨g0, g1, g2, g3, g4, g5, g6, g7⟩ := X1.out.res.free
        have hrl := X1.out.res.lt
        have hbs := X1.out.low.size
        gi_wp2
        obtain ⟨q0, q1, q2, q3, q4, q5, q6, q7⟩ := ((X1.out.res.setAll (fun _ => 0)).alloc (.cells #[.int .i64 0, .int .i64 0, .int .i64 0, .int .i64 0, .int .i64 0, .int .i64 0, .int .i64 0, .int .i64 0] 83)).cells
        refine ⟨.tuple #[.agg #[.int .i64 0, .int .i64 0, .int .i64 0, .int .i64 0, .int .i64 0, .int .i64 0, .int .i64 0, .int .i64 0], .bool false], by simp [results, Try.results82, go_sem, q0, q1, q2, q3, q4, q5, q6, q7], ?_⟩
        rw [HQ.out, HD.out]
        exact ⟨rfl, ((((((((X1.out.low.setCell (p := ⟨w.heap.size + 1 + 1 + 1 + 1, 0, none⟩) (show w.heap.size ≤ w.heap.size + 1 + 1 + 1 + 1 by omega) _).setCell (p := ⟨w.heap.size + 1 + 1 + 1 + 1, 1, none⟩) (show w.heap.size ≤ w.heap.size + 1 + 1 + 1 + 1 by omega) _).setCell (p := ⟨w.heap.size + 1 + 1 + 1 + 1, 2, none⟩) (show w.heap.size ≤ w.heap.size + 1 + 1 + 1 + 1 by omega) _).setCell (p := ⟨w.heap.size + 1 + 1 + 1 + 1, 3, none⟩) (show w.heap.size ≤ w.heap.size + 1 + 1 + 1 + 1 by omega) _).setCell (p := ⟨w.heap.size + 1 + 1 + 1 + 1, 4, none⟩) (show w.heap.size ≤ w.heap.size + 1 + 1 + 1 + 1 by omega) _).setCell (p := ⟨w.heap.size + 1 + 1 + 1 + 1, 5, none⟩) (show w.heap.size ≤ w.heap.size + 1 + 1 + 1 + 1 by omega) _).setCell (p := ⟨w.heap.size + 1 + 1 + 1 + 1, 6, none⟩) (show w.heap.size ≤ w.heap.size + 1 + 1 + 1 + 1 by omega) _).setCell (p := ⟨w.heap.size + 1 + 1 + 1 + 1, 7, none⟩) (show w.heap.size ≤ w.heap.size + 1 + 1 + 1 + 1 by omega) _).alloc (by simp [World.setCell]; omega) _⟩
end C
end Go.Proofs.Ytddpjjdncmokmaa
