/-
  CONTRACT of overWins for the deepest filling. No condition but that the maze reads so.
-/
import Derived.Test.YtddpjjdncmokmaaNumM
import Derived.Test.YtddpjjdncmokmaaOverI
import Derived.RangeFuncCalls
import Derived.RangeFuncNested
import Derived.RangeFuncLeaves
namespace Go.Proofs.Ytddpjjdncmokmaa
open Go.RowKit
namespace M
noncomputable def deepW (m : Mz) (s : Int) : List Int × Int := if fewB m s then deepL m s (winL m s) else ([], 0)
theorem deepW_yes {m : Mz} {s : Int} (h : fewB m s = true) : deepW m s = deepL m s (winL m s) := by unfold deepW; rw [if_pos h]
theorem deepW_no {m : Mz} {s : Int} (h : fewB m s = false) : deepW m s = ([], 0) := by unfold deepW; rw [h]; rfl
theorem deepL_len {m : Mz} {s : Int} {k : Nat} : ∀ {l : List (List Int)}, (∀ x ∈ l, x.length ≤ k) → (deepL m s l).1.length ≤ k := by
  intro l
  induction l using snoc_ind with
  | h0 => intro _; exact Nat.zero_le _
  | h1 l x ih =>
    intro h
    have ih' := ih fun y hy => h y (List.mem_append_left _ hy)
    have hx := h x (List.mem_append_right _ (List.mem_singleton.2 rfl))
    rw [deepL_snoc]
    unfold deepStep
    split
    · exact hx
    · exact ih'
end M
namespace C
set_option linter.unusedVariables false
set_option maxHeartbeats 3200000
set_option maxRecDepth 20000
attribute [local go_sem] Oper.semAt_some
structure OBD (w : World) (m : M.Mz) (a b : Option Addr) (c d : Nat) (s : Int) (W : World) : Prop where
  mz : Box3 W w.heap.size 27 (.int .i64 m.size) (.slice a m.doors.length c) (.slice b m.keys.length d)
  st : Boxed W (w.heap.size + 1) 3 (.int .i64 s)
  fn : Boxed W (w.heap.size + 1 + 1 + 1) 80 (.func (.func 78) #[] #[])
  res : Box2 W (w.heap.size + 1 + 1 + 1 + 1) 77 (.slice none 0 0) (.int .i64 0)
  low : Below w.heap.size w W
theorem OBD.low' {w : World} {m : M.Mz} {a b : Option Addr} {c d : Nat} {s : Int} {W W' : World} (h : OBD w m a b c d s W) (t : Below W.heap.size W W') : OBD w m a b c d s W' :=
  ⟨h.mz.below t, Boxed.low h.st t, Boxed.low h.fn t, h.res.below t, h.low.trans (t.mono h.low.size)⟩
theorem OBD.grown {w : World} {m : M.Mz} {a b : Option Addr} {c d : Nat} {s : Int} {W W' : World} {row : Option Nat} (h : OBD w m a b c d s W) (hg : W.grownBy W' row) (hr : ∀ r, row = some r → w.heap.size + 5 ≤ r ∨ r = w.heap.size + 1 + 1) : OBD w m a b c d s W' :=
  ⟨h.mz.grown hg (fun e => by have := hr _ e; omega), h.st.kept hg (fun e => by have := hr _ e.symm; omega), h.fn.kept hg (fun e => by have := hr _ e.symm; omega), h.res.grown hg (fun e => by have := hr _ e; omega), h.low.grown hg h.low.size (fun r e => by have := hr r e; omega)⟩
theorem grown_set (W : World) (g i : Nat) (u : Value) : W.grownBy (W.setCell ⟨g, i, none⟩ u) (some g) :=
  ⟨rfl, rfl, rfl, by simp [World.setCell], fun k hk hne => Below.heap_setCell W ⟨g, i, none⟩ u k (fun e => hne (by rw [e]))⟩
theorem _root_.Go.Proofs.Ytddpjjdncmokmaa.C.BoxL.kept9 {bk bn k n : Nat} {W W' : World} {row : Option Nat} (h : BoxL bk bn k n W) (hg : W.grownBy W' row) (hr : ∀ r, row = some r → r < bk) (hbn : bk ≤ bn) : BoxL bk bn k n W' := ⟨Boxed.kept h.1 hg (fun e => by have := hr _ e.symm; omega), Boxed.kept h.2 hg (fun e => by have := hr _ e.symm; omega)⟩
/-- the best filling so far, and its depth -/
def DV (w W : World) (L : List Int) (dep : Int) : Prop :=
  ∃ a c, Box2 W (w.heap.size + 1 + 1) 77 (.slice a L.length c) (.int .i64 dep) ∧ OwnAt (w.heap.size + 5) W.heap.size W 3 a (M.encIs L) ∧ L.length ≤ c ∧ c ≤ 9223372036854775807
theorem DV.low {w W W' : World} {L : List Int} {dep : Int} (h : DV w W L dep) (t : Below W.heap.size W W') : DV w W' L dep := by
  obtain ⟨a, c, h1, h2, h3, h4⟩ := h
  exact ⟨a, c, h1.below t, (h2.below t (Nat.le_refl _)).mono (Nat.le_refl _) t.size, h3, h4⟩
theorem OwnAt.kept9 {lo hi : Nat} {W W' : World} {T : TypeId} {a : Option Addr} {xs : List Value} {row : Option Nat} (h : OwnAt lo hi W T a xs) (hg : W.grownBy W' row) (hr : ∀ r, row = some r → ∃ o : Obj, W.heap[r]? = some o ∧ o.isCells = false) : OwnAt lo hi W' T a xs := by
  rcases h with h | ⟨g, off, cur, ha, h1, h2, hh, hc⟩
  · exact .inl h
  · refine .inr ⟨g, off, cur, ha, h1, h2, (hg.block g (heap_lt hh) (fun e => ?_)).trans hh, hc⟩
    obtain ⟨o, ho, hcl⟩ := hr g e.symm
    rw [hh] at ho
    injection ho with ho
    rw [← ho] at hcl
    cases hcl
theorem DV.kept {w W W' : World} {L : List Int} {dep : Int} {row : Option Nat} (h : DV w W L dep) (hg : W.grownBy W' row) (hr : ∀ r, row = some r → w.heap.size + 5 ≤ r ∧ ∃ o : Obj, W.heap[r]? = some o ∧ o.isCells = false) : DV w W' L dep := by
  obtain ⟨a, c, h1, h2, h3, h4⟩ := h
  exact ⟨a, c, h1.grown hg (fun e => by have := (hr _ e).1; omega), (h2.kept9 hg (fun r e => (hr r e).2)).mono (Nat.le_refl _) hg.size, h3, h4⟩
theorem deepStep_any (W : World) (a f : Option Addr) (l c l' c' : Nat) (best dep : Int) : Calls Try.prog 78 #[.agg #[.slice a l c, .int .i64 best], .slice f l' c', .int .i64 dep] W fun e w' =>
    (dep ≤ best ∧ e = .returned (.agg #[.slice a l c, .int .i64 best]) ∨ best < dep ∧ e = .returned (.agg #[.slice f l' c', .int .i64 dep])) ∧ Below W.heap.size W w' := by
  go_enter Try.func78, Try.ntmps78
  by_cases hd : dep ≤ best
  · go_wp2_with fail
    have q := Box2.new (w := W.alloc (.cells #[.slice a l c, .int .i64 best] 77)) (g := W.heap.size + 1) 77 (.slice a l c) (.int .i64 best) (by simp)
    obtain ⟨q0, q1⟩ := q.cells
    refine ⟨rfl, .agg #[.slice a l c, .int .i64 best], by simp [results, Try.results78, go_sem, q0, q1], ?_⟩
    exact ⟨.inl ⟨hd, rfl⟩, (below_alloc _ _).alloc (by simp) _⟩
  · have hd' : best < dep := by omega
    go_wp2_with fail
    have q := Box2.new (w := W.alloc (.cells #[.slice a l c, .int .i64 best] 77)) (g := W.heap.size + 1) 77 (.slice f l' c') (.int .i64 dep) (by simp)
    obtain ⟨q0, q1⟩ := q.cells
    refine ⟨rfl, .agg #[.slice f l' c', .int .i64 dep], by simp [results, Try.results78, go_sem, q0, q1], ?_⟩
    exact ⟨.inr rfl, (below_alloc _ _).alloc (by simp) _⟩
theorem overD_any (w : World) (lo hi : Nat) (m : M.Mz) (a b : Option Addr) (c d : Nat) (h : MzIn lo hi w m a c b d) (hz : hi ≤ w.heap.size) (_h1 : m.doors.length ≤ 1048576) (_h2 : m.keys.length ≤ 1048576) (s : Int) (_s1 : -9223372036854775808 ≤ s) (_s2 : s ≤ 9223372036854775807) :
    Calls Try.prog 77 #[.agg #[.int .i64 m.size, .slice a m.doors.length c, .slice b m.keys.length d], .int .i64 s, .agg #[.slice none 0 0, .int .i64 0], .func (.func 78) #[] #[]] w (fun e w' => ∃ a c, e = .returned (.tuple #[.agg #[.slice a (M.deepW m s).1.length c, .int .i64 (M.deepW m s).2], .bool (M.fewB m s)]) ∧ OwnAt w.heap.size w'.heap.size w' 3 a (M.encIs (M.deepW m s).1) ∧ (M.deepW m s).1.length ≤ c ∧ c ≤ 9223372036854775807 ∧ Below w.heap.size w w') := by
  have H := Lib.hid h
  clear h
  refine (callsIn_wide (n := 5)).1 ?_
  refine callsIn_of_wp_marks Try.func77 rfl trivial ?_ rfl
  simp only [Try.ntmps77, List.size_toArray, List.length_cons, List.length_nil, Nat.reduceAdd, Nat.reduceSub, Array.replicate_succ, Array.replicate_zero, List.push_toArray, List.append_toArray, List.nil_append, List.cons_append]
  have hF1 : Fence.wide.fn 64 := trivial
  have hF2 : Fence.wide.fn 65 := trivial
  have hF3 : Fence.wide.fn 68 := trivial
  have hF4 : Fence.wide.fn 112 := trivial
  have hF5 : Fence.wide.fn 30 := trivial
  have hF6 : Fence.wide.fn 78 := trivial
  gi_upto_region 1 with fail
  refine wpIn_named ?_
  intro W hW
  have hb : Below w.heap.size w W := by rw [hW]; exact ((((below_alloc _ _).alloc (by simp) _).alloc (by simp; omega) _).alloc (by simp; omega) _).alloc (by simp; omega) _
  have x0 : Box3 W w.heap.size 27 (.int .i64 m.size) (.slice a m.doors.length c) (.slice b m.keys.length d) := by rw [hW]; exact ((((Box3.new _ _ _ _ rfl).alloc _).alloc _).alloc _).alloc _
  have x1 : Boxed W (w.heap.size + 1) 3 (.int .i64 s) := by
    rw [hW]
    have h := Boxed.new (w.alloc (.cells #[.int .i64 m.size, .slice a m.doors.length c, .slice b m.keys.length d] 27)) 3 (.int .i64 s)
    simp only [World.size_alloc] at h
    exact ((h.alloc _).alloc _).alloc _
  have xv : Box2 W (w.heap.size + 1 + 1) 77 (.slice none 0 0) (.int .i64 0) := by
    rw [hW]
    exact ((Box2.new _ _ _ (by simp)).alloc _).alloc _
  have x3 : Boxed W (w.heap.size + 1 + 1 + 1) 80 (.func (.func 78) #[] #[]) := by
    rw [hW]
    have h := Boxed.new (((w.alloc (.cells #[.int .i64 m.size, .slice a m.doors.length c, .slice b m.keys.length d] 27)).alloc (.cells #[.int .i64 s] 3)).alloc (.cells #[.slice none 0 0, .int .i64 0] 77)) 80 (.func (.func 78) #[] #[])
    simp only [World.size_alloc] at h
    exact h.alloc _
  have x4 : Box2 W (w.heap.size + 1 + 1 + 1 + 1) 77 (.slice none 0 0) (.int .i64 0) := by
    rw [hW]
    exact Box2.new _ _ _ (by simp)
  clear hW
  have hzw := hb.size
  have hxl := x0.lt
  obtain ⟨c0, c1, c2⟩ := x0.cells
  have s0 := x1.cell
  have HX := Lib.hid (show OBD w m a b c d s W from ⟨x0, x1, x3, x4, hb⟩)
  have HV := Lib.hid (show DV w W [] 0 from ⟨none, 0, xv, OwnAt.nil _ _ _ _ _, Nat.le_refl _, by omega⟩)
  have HIM := Lib.hid (isMaze_any W lo hi m a b c d (H.out.below hb hz) (by omega))
  clear x0 x1 x3 x4 xv hb
  gi_wp2
  refine (callsIn_wide.2 HIM.out).mono ?_
  rintro e w1 ⟨rfl, hb1⟩
  have X1 := Lib.hid (HX.out.low' hb1)
  have V1 := Lib.hid (HV.out.low hb1)
  have hz1 := hb1.size
  clear hb1 c0 c1 c2 s0 HIM
  obtain ⟨c0, c1, c2⟩ := X1.out.mz.cells
  have s0 := X1.out.st.cell
  have hxl1 := X1.out.mz.lt
  cases qm : M.mazeB m with
  | false =>
    have HQ : Hid (M.fewB m s = false) := Lib.hid (by unfold M.fewB M.askB; rw [qm]; rfl)
    clear qm
    have HD := Lib.hid (M.deepW_no HQ.out)
    obtain ⟨r0, r1⟩ := X1.out.res.cells
    obtain ⟨g0, g1⟩ := X1.out.res.free
    have hrl := X1.out.res.lt
    have hbs := X1.out.low.size
    gi_wp2
    obtain ⟨q0, q1⟩ := ((X1.out.res.setAll (.slice none 0 0) (.int .i64 0)).alloc (.cells #[.slice none 0 0, .int .i64 0] 77)).cells
    refine ⟨.tuple #[.agg #[.slice none 0 0, .int .i64 0], .bool false], by simp [results, Try.results77, go_sem, q0, q1], ?_⟩
    rw [HQ.out, HD.out]
    exact ⟨none, 0, rfl, OwnAt.nil _ _ _ _ _, Nat.le_refl _, by omega, ((X1.out.low.setCell (p := ⟨w.heap.size + 1 + 1 + 1 + 1, 0, none⟩) (show w.heap.size ≤ w.heap.size + 1 + 1 + 1 + 1 by omega) _).setCell (p := ⟨w.heap.size + 1 + 1 + 1 + 1, 1, none⟩) (show w.heap.size ≤ w.heap.size + 1 + 1 + 1 + 1 by omega) _).alloc (by simp [World.setCell]; omega) _⟩
  | true =>
    have HM := Lib.hid qm
    clear qm
    gi_wp2
    refine (callsIn_wide.2 (isSet_any s w1)).mono ?_
    rintro e w2 ⟨rfl, rfl⟩
    cases qs : M.setB s with
    | false =>
      have HQ : Hid (M.fewB m s = false) := Lib.hid (by unfold M.fewB M.askB; rw [qs, Bool.and_false]; rfl)
      clear qs
      have HD := Lib.hid (M.deepW_no HQ.out)
      obtain ⟨r0, r1⟩ := X1.out.res.cells
      obtain ⟨g0, g1⟩ := X1.out.res.free
      have hrl := X1.out.res.lt
      have hbs := X1.out.low.size
      gi_wp2
      obtain ⟨q0, q1⟩ := ((X1.out.res.setAll (.slice none 0 0) (.int .i64 0)).alloc (.cells #[.slice none 0 0, .int .i64 0] 77)).cells
      refine ⟨.tuple #[.agg #[.slice none 0 0, .int .i64 0], .bool false], by simp [results, Try.results77, go_sem, q0, q1], ?_⟩
      rw [HQ.out, HD.out]
      exact ⟨none, 0, rfl, OwnAt.nil _ _ _ _ _, Nat.le_refl _, by omega, ((X1.out.low.setCell (p := ⟨w.heap.size + 1 + 1 + 1 + 1, 0, none⟩) (show w.heap.size ≤ w.heap.size + 1 + 1 + 1 + 1 by omega) _).setCell (p := ⟨w.heap.size + 1 + 1 + 1 + 1, 1, none⟩) (show w.heap.size ≤ w.heap.size + 1 + 1 + 1 + 1 by omega) _).alloc (by simp [World.setCell]; omega) _⟩
    | true =>
      have HA : Hid (M.askB m s = true) := Lib.hid (by unfold M.askB; rw [qs, HM.out]; rfl)
      have hv := (M.ask_yes HA.out).1
      obtain ⟨n, hn⟩ : ∃ n : Nat, m.size = (n : Int) := ⟨m.size.toNat, by have := hv.size1; omega⟩
      have hn1 : 1 ≤ n := by have := hv.size1; omega
      have hn12 : n ≤ 12 := by have := hv.size12; omega
      have HN := Lib.hid hn
      have HSZ := Lib.hid (fun W => sizeOf_any s qs W)
      have hk6 := M.many_le s
      rw [hn] at c0
      clear qs hv
      by_cases hn8 : n ≤ 8
      · have hg8 : ¬ (8 : Int) < (n : Int) := by omega
        gi_wp2
        refine (callsIn_wide.2 (HSZ.out w1)).mono ?_
        rintro e w2 ⟨rfl, rfl⟩
        have HKK : Hid (M.manyC s = M.manyC s) := Lib.hid rfl
        by_cases hk4 : M.manyC s ≤ 4
        · have HQ : Hid (M.fewB m s = true) := Lib.hid (by unfold M.fewB; rw [HA.out, decide_eq_true (show m.size ≤ 8 by omega), decide_eq_true hk4]; rfl)
          have hg4 : ¬ (4 : Int) < (M.manyC s : Int) := by omega
          have HNL := Lib.hid (fun W => numL_calls W (M.manyC s) n)
          generalize hk : M.manyC s = k at *
          have HK := Lib.hid hk
          clear hk hn
          gi_upto_region 4 with fail
          refine wpIn_calm ?_
          gi_region_with (first | (gi_at_call 68; refine (callsIn_wide.2 (HSZ.out w1.drew)).mono ?_; rintro e w2 ⟨rfl, rfl⟩) | (gi_at_call 112; refine (callsIn_wide.2 (HNL.out w1.drew)).mono ?_; rintro e w5 ⟨rfl, hbx5, hb5, hs5⟩))
          all_goals
            refine calm_of ?_
            have hd8 : decide ((8 : Int) < (n : Int)) = false := decide_eq_false (by omega)
            have hd4 : decide ((4 : Int) < (k : Int)) = false := decide_eq_false (by omega)
            simp only [hd8, hd4, Bool.or_false]
            have hb5' : Below w1.heap.size w1 w5 := (Below.refl w1.heap.size w1).drew.trans hb5
            have X5 := Lib.hid (X1.out.low' hb5')
            have V5 := Lib.hid (V1.out.low hb5')
            have hs5' : w5.heap.size = w1.heap.size + 2 := hs5
            have h4w : w.heap.size + 5 ≤ w1.heap.size := by have := X1.out.res.lt; omega
            have HBX := Lib.hid (show BoxL w1.heap.size (w1.heap.size + 1) k n w5 from hbx5)
            have HSET2 := Lib.hid HA.out
            clear hbx5 hb5 hb5' hs5 c0 c1 c2 s0 hd8 hd4 hg8 hg4
            gi_wp2
            refine wpIn_range_reads (gf := 133) (lb := #[.pointer (some ⟨w1.heap.size, 0, none⟩), .pointer (some ⟨w1.heap.size + 1, 0, none⟩)]) rfl (enters_of Try.func133 (by kernel_rfl) rfl) (encs := encL k) (R := RM w1.heap.size n k) (Kp := KpM w1.heap.size (w1.heap.size + 1) k n) (S := SL n k) (N := 4096) (w0 := w5)
              (fun l J W' hW' hJ hY h0 => listsM_in w1.heap.size 4 (by decide) l w1.heap.size (w1.heap.size + 1) k n hk4 hn1 hn8 J hY W' (by have := hW'.size; omega) hJ (HBX.out.low hW') h0)
              (fun h k => ⟨fun e => k.1 (h.1 e), Nat.le_trans h.2 k.2⟩) (fun W' l o o' hl h1 h2 h3 => ⟨KpL_put (B := w5.heap.size) (by omega) (by omega) W' l o o' hl h1 h2 h3, (grownBy_putObj' W' l o').size⟩) (fun x W' l o o' hl hh hc h => ⟨RL_put x W' l o o' hl hh hc h.1, h.2⟩) (Below.refl _ _) (fun _ => rfl)
              (fun pre W => OBD w m a b c d s W ∧ DV w W (M.deepL m s (M.winsP m s n k pre)).1 (M.deepL m s (M.winsP m s n k pre)).2) ?own ⟨X5.out, V5.out⟩ (fun x => { tmps := #[.agg #[.int .i64 (n : Int), .slice a m.doors.length c, .slice b m.keys.length d], .int .i64 s, .agg #[.slice none 0 0, .int .i64 0], .func (.func 78) #[] #[], .pointer (some ⟨w.heap.size, 0, none⟩), .pointer (some ⟨w.heap.size + 1, 0, none⟩), .pointer (some ⟨w.heap.size + 1 + 1, 0, none⟩), .pointer (some ⟨w.heap.size + 1 + 1 + 1, 0, none⟩), .pointer (some ⟨w.heap.size + 1 + 1 + 1 + 1, 0, none⟩), .bool false, undef, .slice (some ⟨x.1, 0, none⟩) k k, undef, undef, .agg #[.int .i64 (n : Int), .slice a m.doors.length c, .slice b m.keys.length d], .bool true, .bool false, .bool false, .int .i64 s, .bool true, .bool false, .bool false, .bool false, .pointer (some ⟨w.heap.size, 0, none⟩), .int .i64 (n : Int), .bool false, .bool false, .bool false, .int .i64 s, .int .i64 (k : Int), .bool false, .bool false, undef, .int .i64 s, .int .i64 (k : Int), .pointer (some ⟨w.heap.size, 0, none⟩), .int .i64 (n : Int), .func (.func 133) #[] #[.pointer (some ⟨w1.heap.size, 0, none⟩), .pointer (some ⟨w1.heap.size + 1, 0, none⟩)], .slice (some ⟨x.1, 0, none⟩) k k, undef, undef, undef, undef, undef, undef, undef, undef, undef, undef, undef, undef, undef, undef], defers := [] }) ?assign ?body ?done
            case own => exact fun pre W W1 row ⟨h1, h2⟩ hg hr => ⟨h1.grown hg (fun r e => by have := (hr r e).1; omega), h2.kept hg (fun r e => ⟨by have := (hr r e).1; omega, (hr r e).2⟩)⟩
            case assign =>
              intro l x W' K hK
              unfold encL
              gi_wp2
              exact hK
            case body =>
              rintro l pre x W2 ⟨hX, hv⟩ hR hlt
              have hF := M.dig_fil HSET2.out (n := n) HN.out x.2
              rw [HK.out] at hF
              have HFW := Lib.hid (M.fwin_yes hF)
              have HWF := Lib.hid (M.winF_dep hF)
              have HDP := Lib.hid (show Calls Try.prog 30 #[.agg #[.int .i64 (n : Int), .slice a m.doors.length c, .slice b m.keys.length d], .int .i64 s, .slice (some ⟨x.1, 0, none⟩) k k] W2 (fun e w' => e = .returned (.tuple #[.int .i64 (M.fdepV m s (M.digL n k x.2)), .bool (M.fwinB m s (M.digL n k x.2))]) ∧ Below W2.heap.size W2 w') from by
                have h := implDepth_lw W2 lo hi m a b c d (H.out.below hX.low hz) (by have := hX.low.size; omega) _h1 _h2 s _s1 _s2 x.1 (x.1 + 1) (some ⟨x.1, 0, none⟩) k (M.digL n k x.2) hR.1.1.row (by have := hR.1.2; omega) (by rw [M.digL_len]; omega) (by rw [M.digL_len]; exact Nat.le_refl _) (by omega) (fun z hz => by have := M.digL_node (n := n) (by omega) k x.2 z hz; omega)
                rw [M.digL_len, HN.out] at h
                exact h)
              have X2 := Lib.hid hX
              have V2 := Lib.hid hv
              have R2 := Lib.hid hR
              have hwl := M.winsP_len m s n k pre
              have mz := hX.mz
              rw [HN.out] at mz
              obtain ⟨c0, c1, c2⟩ := mz.cells
              have s0 := hX.st.cell
              have hxl2 := hX.res.lt
              clear hX hv hR mz hF
              gi_wp2
              refine (CallsIn.inRound l (callsIn_wide.2 HDP.out)).mono ?_
              rintro e W3 ⟨rfl, hb3⟩
              have X3 := Lib.hid (X2.out.low' hb3)
              have V3 := Lib.hid (V2.out.low hb3)
              have B3 := Lib.hid hb3
              have hz3 := hb3.size
              rw [HFW.out.1, HFW.out.2]
              clear hb3 c0 c1 c2 s0 HDP
              cases qw : M.winF m s (M.digL n k x.2) with
              | false =>
                have HWP := Lib.hid (M.winsP_no (n := n) (pre := pre) qw)
                have HD := HWF.out
                rw [qw] at HD
                rw [← HD]
                clear qw HD
                gi_wp2
                exact ⟨KeepsFrom.of_grownBy (grown_none B3.out) (fun j e => by cases e), ⟨fun e => e.low B3.out, B3.out.size⟩, X3.out, by rw [HWP.out]; exact V3.out⟩
              | true =>
                have HWP := Lib.hid (M.winsP_yes (n := n) (pre := pre) qw)
                have HD := HWF.out
                rw [qw] at HD
                rw [← HD]
                clear qw HD
                have f0 := X3.out.fn.cell
                have HDS := Lib.hid (M.deepL_snoc m s (M.winsP m s n k pre) (M.digL n k x.2))
                rw [← HWP.out] at HDS
                obtain ⟨va, vc, vb, vo, vl1, vl2⟩ := V3.out
                obtain ⟨v0, v1⟩ := vb.cells
                obtain ⟨g0, g1⟩ := vb.free
                have hvl := vb.lt
                have VB := Lib.hid vb
                have VO := Lib.hid vo
                have HDG := Lib.hid (M.digL_len n k x.2)
                generalize hL : (M.deepL m s (M.winsP m s n k pre)).1 = L at *
                generalize hdp : (M.deepL m s (M.winsP m s n k pre)).2 = best at *
                have HL1 := Lib.hid hL
                have HL2 := Lib.hid hdp
                clear vb vo hL hdp
                gi_wp2
                refine (CallsIn.inRound l (callsIn_wide.2 (deepStep_any W3 va (some ⟨x.1, 0, none⟩) L.length vc k k best (M.depR m s (M.digL n k x.2))))).mono ?_
                rintro e W4 ⟨hcase, hb4⟩
                have X4 := Lib.hid (X3.out.low' hb4)
                have B4 := Lib.hid hb4
                have VB4 := Lib.hid (VB.out.below hb4)
                have hz4 := hb4.size
                have hg1 := fun u => grown_set W4 (w.heap.size + 1 + 1) 0 u
                have hg2 := fun (W' : World) u => grown_set W' (w.heap.size + 1 + 1) 1 u
                obtain ⟨v0, v1⟩ := VB4.out.cells
                obtain ⟨g0, g1⟩ := VB4.out.free
                have hvl := VB4.out.lt
                have HG1 := Lib.hid hg1
                have HG2 := Lib.hid hg2
                clear hb4 hg1 hg2
                rcases hcase with ⟨hle, rfl⟩ | ⟨hlt, rfl⟩
                · have hnl : ¬ best < M.depR m s (M.digL n k x.2) := by omega
                  have HST : Hid (M.deepL m s (M.winsP m s n k (pre ++ [x])) = M.deepL m s (M.winsP m s n k pre)) := Lib.hid (by rw [HDS.out]; unfold M.deepStep; rw [HL2.out, if_neg hnl])
                  clear hle hnl
                  gi_wp2
                  exact ⟨((KeepsFrom.of_grownBy (grown_none B3.out) (fun j e => by cases e)).trans (KeepsFrom.of_grownBy (grown_none B4.out) (fun j e => by cases e))).trans ((KeepsFrom.of_grownBy (HG1.out _) (fun j e => by injection e with e; omega)).trans (KeepsFrom.of_grownBy (HG2.out _ _) (fun j e => by injection e with e; omega))), ⟨fun e => (((e.low B3.out).low B4.out).kept9 (HG1.out _) (fun r e => by injection e with e; omega) (by omega)).kept9 (HG2.out _ _) (fun r e => by injection e with e; omega) (by omega), by simp only [World.size_setCell]; omega⟩,
                    (X4.out.grown (HG1.out _) (fun r e => by injection e with e; omega)).grown (HG2.out _ _) (fun r e => by injection e with e; omega), by
                    rw [HST.out, HL1.out, HL2.out]
                    exact ⟨va, vc, VB4.out.setAll _ _, (((VO.out.below B4.out (Nat.le_refl _)).grownRow (HG1.out _) hz4 (fun r e => by injection e with e; omega)).grownRow (HG2.out _ _) (by simp only [World.size_setCell]; omega) (fun r e => by injection e with e; omega)).mono (Nat.le_refl _) (by simp only [World.size_setCell]; omega), vl1, vl2⟩⟩
                · have HST : Hid (M.deepL m s (M.winsP m s n k (pre ++ [x])) = (M.digL n k x.2, M.depR m s (M.digL n k x.2))) := Lib.hid (by rw [HDS.out]; unfold M.deepStep; rw [HL2.out, if_pos hlt])
                  clear hlt
                  gi_wp2
                  exact ⟨((KeepsFrom.of_grownBy (grown_none B3.out) (fun j e => by cases e)).trans (KeepsFrom.of_grownBy (grown_none B4.out) (fun j e => by cases e))).trans ((KeepsFrom.of_grownBy (HG1.out _) (fun j e => by injection e with e; omega)).trans (KeepsFrom.of_grownBy (HG2.out _ _) (fun j e => by injection e with e; omega))), ⟨fun e => (((e.low B3.out).low B4.out).kept9 (HG1.out _) (fun r e => by injection e with e; omega) (by omega)).kept9 (HG2.out _ _) (fun r e => by injection e with e; omega) (by omega), by simp only [World.size_setCell]; omega⟩,
                    (X4.out.grown (HG1.out _) (fun r e => by injection e with e; omega)).grown (HG2.out _ _) (fun r e => by injection e with e; omega), by
                    rw [HST.out]
                    have hrl := R2.out.1.2
                    have hrb := R2.out.2
                    have ho := ((((R2.out.1.1.below B3.out hrl).below B4.out (by omega)).grownRow (HG1.out (.slice (some ⟨x.1, 0, none⟩) k k)) (by omega) (fun r e => by injection e with e; omega)).grownRow (HG2.out _ (.int .i64 (M.depR m s (M.digL n k x.2)))) (by simp only [World.size_setCell]; omega) (fun r e => by injection e with e; omega))
                    refine ⟨some ⟨x.1, 0, none⟩, k, ?_, ho.mono (show w.heap.size + 5 ≤ x.1 by omega) (by simp only [World.size_setCell]; omega), by rw [HDG.out]; exact Nat.le_refl _, by omega⟩
                    have hb := VB4.out.setAll (.slice (some ⟨x.1, 0, none⟩) k k) (.int .i64 (M.depR m s (M.digL n k x.2)))
                    show Box2 _ _ _ (.slice _ (M.digL n k x.2).length k) _
                    rw [HDG.out]
                    exact hb⟩
            case done =>
              rintro D xs W2 hD hS ⟨hX, hv⟩ hK
              have HWA := Lib.hid (M.winsP_all (m := m) (s := s) (xs := xs) (by rw [HK.out, show m.size.toNat = n by rw [HN.out]; rfl]; exact hS))
              rw [HK.out, show m.size.toNat = n by rw [HN.out]; rfl] at HWA
              have HDD := Lib.hid (M.deepW_yes HQ.out)
              rw [← HWA.out] at HDD
              rw [← HDD.out] at hv
              have X2 := Lib.hid hX
              obtain ⟨va, vc, vb, vo, vl1, vl2⟩ := hv
              obtain ⟨v0, v1⟩ := vb.cells
              obtain ⟨r0, r1⟩ := hX.res.cells
              obtain ⟨g0, g1⟩ := hX.res.free
              have hrl := hX.res.lt
              have VB := Lib.hid vb
              have VO := Lib.hid vo
              clear hX vb vo HDD
              have hk5 : w5.heap.size ≤ D := hD
              gi_wp2
              have hdl : D < W2.heap.size := heap_lt hK
              have hK3 : ((W2.setCell ⟨w.heap.size + 1 + 1 + 1 + 1, 0, none⟩ (.slice va (M.deepW m s).1.length vc)).setCell ⟨w.heap.size + 1 + 1 + 1 + 1, 1, none⟩ (.int .i64 (M.deepW m s).2)).heap[D]? = some (.deferred (some [])) := (Below.heap_setCell (W2.setCell ⟨w.heap.size + 1 + 1 + 1 + 1, 0, none⟩ (.slice va (M.deepW m s).1.length vc)) ⟨w.heap.size + 1 + 1 + 1 + 1, 1, none⟩ (.int .i64 (M.deepW m s).2) D (fun e => by have e' : D = w.heap.size + 1 + 1 + 1 + 1 := e; omega)).trans ((Below.heap_setCell W2 ⟨w.heap.size + 1 + 1 + 1 + 1, 0, none⟩ (.slice va (M.deepW m s).1.length vc) D (fun e => by have e' : D = w.heap.size + 1 + 1 + 1 + 1 := e; omega)).trans hK)
              refine ⟨by simp, .inl ⟨_, _, rfl, run_takeDeferred hK3, ?_⟩⟩
              have hg0 := grown_set W2 (w.heap.size + 1 + 1 + 1 + 1) 0 (.slice va (M.deepW m s).1.length vc)
              have hg1 := grown_set (W2.setCell ⟨w.heap.size + 1 + 1 + 1 + 1, 0, none⟩ (.slice va (M.deepW m s).1.length vc)) (w.heap.size + 1 + 1 + 1 + 1) 1 (.int .i64 (M.deepW m s).2)
              have q := (X2.out.res.setAll (.slice va (M.deepW m s).1.length vc) (.int .i64 (M.deepW m s).2)).grown (grownBy_putObj' _ D (.deferred none)) (fun e => by injection e with e; omega)
              obtain ⟨q0, q1⟩ := q.cells
              have ho := ((VO.out.grownRow hg0 (Nat.le_refl _) (fun r e => by injection e with e; omega)).grownRow hg1 (by simp only [World.size_setCell]; exact Nat.le_refl _) (fun r e => by injection e with e; omega)).kept9 (grownBy_putObj' _ D (.deferred none)) (fun r e => by injection e with e; subst e; exact ⟨_, hK3, rfl⟩)
              refine ⟨.tuple #[.agg #[.slice va (M.deepW m s).1.length vc, .int .i64 (M.deepW m s).2], .bool true], by simp [results, Try.results77, go_sem, q0, q1], ?_⟩
              rw [HQ.out]
              refine ⟨va, vc, rfl, ho.mono (by omega) ?_, vl1, vl2, ?_⟩
              · have := (grownBy_putObj' ((W2.setCell ⟨w.heap.size + 1 + 1 + 1 + 1, 0, none⟩ (.slice va (M.deepW m s).1.length vc)).setCell ⟨w.heap.size + 1 + 1 + 1 + 1, 1, none⟩ (.int .i64 (M.deepW m s).2)) D (.deferred none)).size
                simp only [World.size_setCell] at this
                exact this
              · exact ((X2.out.low.setCell (p := ⟨w.heap.size + 1 + 1 + 1 + 1, 0, none⟩) (show w.heap.size ≤ w.heap.size + 1 + 1 + 1 + 1 by omega) _).setCell (p := ⟨w.heap.size + 1 + 1 + 1 + 1, 1, none⟩) (show w.heap.size ≤ w.heap.size + 1 + 1 + 1 + 1 by omega) _).trans (belowK_b (w := w) (Nat.le_refl _) _ D _ _ (by omega) hK3 rfl rfl)
        · have HQ : Hid (M.fewB m s = false) := Lib.hid (by unfold M.fewB; rw [HA.out, decide_eq_false hk4]; simp)
          have hg4 : (4 : Int) < (M.manyC s : Int) := by omega
          clear hn
          have HD := Lib.hid (M.deepW_no HQ.out)
          obtain ⟨r0, r1⟩ := X1.out.res.cells
          obtain ⟨g0, g1⟩ := X1.out.res.free
          have hrl := X1.out.res.lt
          have hbs := X1.out.low.size
          gi_wp2
          obtain ⟨q0, q1⟩ := ((X1.out.res.setAll (.slice none 0 0) (.int .i64 0)).alloc (.cells #[.slice none 0 0, .int .i64 0] 77)).cells
          refine ⟨.tuple #[.agg #[.slice none 0 0, .int .i64 0], .bool false], by simp [results, Try.results77, go_sem, q0, q1], ?_⟩
          rw [HQ.out, HD.out]
          exact ⟨none, 0, rfl, OwnAt.nil _ _ _ _ _, Nat.le_refl _, by omega, ((X1.out.low.setCell (p := ⟨w.heap.size + 1 + 1 + 1 + 1, 0, none⟩) (show w.heap.size ≤ w.heap.size + 1 + 1 + 1 + 1 by omega) _).setCell (p := ⟨w.heap.size + 1 + 1 + 1 + 1, 1, none⟩) (show w.heap.size ≤ w.heap.size + 1 + 1 + 1 + 1 by omega) _).alloc (by simp [World.setCell]; omega) _⟩
      · have HQ : Hid (M.fewB m s = false) := Lib.hid (by unfold M.fewB; rw [HA.out, decide_eq_false (show ¬ m.size ≤ 8 by omega)]; rfl)
        have hg8 : (8 : Int) < (n : Int) := by omega
        clear hn
        have HD := Lib.hid (M.deepW_no HQ.out)
        obtain ⟨r0, r1⟩ := X1.out.res.cells
        obtain ⟨g0, g1⟩ := X1.out.res.free
        have hrl := X1.out.res.lt
        have hbs := X1.out.low.size
        gi_wp2
        obtain ⟨q0, q1⟩ := ((X1.out.res.setAll (.slice none 0 0) (.int .i64 0)).alloc (.cells #[.slice none 0 0, .int .i64 0] 77)).cells
        refine ⟨.tuple #[.agg #[.slice none 0 0, .int .i64 0], .bool false], by simp [results, Try.results77, go_sem, q0, q1], ?_⟩
        rw [HQ.out, HD.out]
        exact ⟨none, 0, rfl, OwnAt.nil _ _ _ _ _, Nat.le_refl _, by omega, ((X1.out.low.setCell (p := ⟨w.heap.size + 1 + 1 + 1 + 1, 0, none⟩) (show w.heap.size ≤ w.heap.size + 1 + 1 + 1 + 1 by omega) _).setCell (p := ⟨w.heap.size + 1 + 1 + 1 + 1, 1, none⟩) (show w.heap.size ≤ w.heap.size + 1 + 1 + 1 + 1 by omega) _).alloc (by simp [World.setCell]; omega) _⟩
end C
end Go.Proofs.Ytddpjjdncmokmaa
