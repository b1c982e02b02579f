/-
  CONTRACTS of impl.Maze.entering, mostOf, allNodes, mostWithout: the nodes of the largest entry set of some nodes; what lay in memory stays. Condition: a valid maze, a number that has no node beyond it.
-/
import Derived.Test.YtdjmmgfjcchloaaEnter
namespace Go.Proofs.Ytdjmmgfjcchloaa
open Go.RowKit Go.Shelf
attribute [local go_sem] Oper.semAt_some
namespace M
theorem mk_snoc : ∀ (l : List Int) (x : Int), mk (l ++ [x]) = mk l ||| 2 ^ x.toNat
  | [], x => by simp [mk]
  | y :: l, x => by show 2 ^ y.toNat ||| mk (l ++ [x]) = _; rw [mk_snoc l x, ← Nat.or_assoc]; rfl
theorem seqA_mk {m : Mz} {a : Nat} {pick : List Int → Int} : ∀ k, (seqA m a pick k).2 = mk (seqA m a pick k).1
  | 0 => rfl
  | k + 1 => by
    unfold seqA
    split
    · exact seqA_mk k
    · show _ = mk ((seqA m a pick k).1 ++ [_])
      rw [mk_snoc, ← seqA_mk k]
theorem picks_min : Picks pickMin := pickMin_in
theorem picks_max : Picks pickMax := pickMax_in
/-- the nodes of the largest entry set of some nodes -/
noncomputable def mostN (m : Mz) (a : Nat) : Nat := (fullA m a pickMin).2
theorem most_done {m : Mz} {a : Nat} {k : Nat} (h : DoneA m a pickMin k) : mostN m a = (seqA m a pickMin k).2 := by unfold mostN; rw [fullA_eq h]
/-- it ends -/
theorem done_ex {m : Mz} (V : Valid m) (a : Nat) {pick : List Int → Int} (hp : Picks pick) : ∃ k, DoneA m a pick k := by
  refine Classical.byContradiction fun hn => ?_
  have hall : ∀ k, ¬ DoneA m a pick k := fun k hk => hn ⟨k, hk⟩
  have hg : ∀ k, k ≤ (seqA m a pick k).2 := by
    intro k
    induction k with
    | zero => exact Nat.zero_le _
    | succ k ih => have := seqA_grow V hp (hall k); omega
  have h1 := hg 4096
  have h2 := (seqA_ok V (a := a) hp 4096).1
  omega
theorem most_big {m : Mz} (V : Valid m) {a : Nat} (ha : digB a 0 = true) : mostN m a = bigN m a := by
  obtain ⟨k, hk⟩ := done_ex V a picks_min
  rw [most_done hk, seqA_big V ha picks_min hk]
theorem most_none {m : Mz} {a : Nat} (ha : digB a 0 = false) (hd : ∃ k, DoneA m a pickMin k) : mostN m a = 0 := by
  obtain ⟨k, hk⟩ := hd
  rw [most_done hk, seqA_none ha]
end M
namespace C
theorem boxed_ownF {β : Type} (B : Nat) (t : TypeId) (f : β → Value) : Own (fun s W => Boxed W B t (f s)) := by
  rintro s X Y row hv hg hrow
  refine hv.kept hg (fun e' => ?_)
  obtain ⟨o, ho, hc⟩ := hrow B e'.symm
  rw [show X.heap[B]? = _ from hv] at ho; cases ho; cases hc
set_option maxRecDepth 100000
set_option maxHeartbeats 3200000
theorem entering_calls (w : World) (m : M.Mz) (a b : Option Addr) (c d al pf : Nat) :
    Calls Try.prog 98 #[.agg #[.int .i64 m.size, .slice a m.doors.length c, .slice b m.keys.length d], .int .i64 (al : Int), .func (.func pf) #[] #[]] w fun e w' =>
      e = .returned (.func (.func 112) #[] #[.pointer (some ⟨w.heap.size + 1, 0, none⟩), .pointer (some ⟨w.heap.size, 0, none⟩), .pointer (some ⟨w.heap.size + 1 + 1, 0, none⟩)]) ∧ w' = ((w.alloc (.cells #[.int .i64 m.size, .slice a m.doors.length c, .slice b m.keys.length d] 29)).alloc (.cells #[.int .i64 (al : Int)] 3)).alloc (.cells #[.func (.func pf) #[] #[]] 61) := by
  go_enter Try.func98, Try.ntmps98
  go_wp2_with fail
  go_ret
  exact ⟨rfl, rfl⟩
/-- what the iterator reads, as it lies behind the call of entering -/
theorem entering_gives {w w' : World} {lo hi : Nat} {m : M.Mz} {a b : Option Addr} {c d al pf : Nat} (h : MzIn lo hi w m a c b d) (hz : hi ≤ w.heap.size)
    (hw : w' = ((w.alloc (.cells #[.int .i64 m.size, .slice a m.doors.length c, .slice b m.keys.length d] 29)).alloc (.cells #[.int .i64 (al : Int)] 3)).alloc (.cells #[.func (.func pf) #[] #[]] 61)) :
    EntIn lo hi w.heap.size (w.heap.size + 1) (w.heap.size + 1 + 1) m a c b d al pf w' ∧ Below w.heap.size w w' ∧ w'.heap.size = w.heap.size + 3 := by
  have hb : Below w.heap.size w w' := by rw [hw]; exact ((below_alloc _ _).alloc (by simp) _).alloc (by simp; omega) _
  have hs : w'.heap.size = w.heap.size + 3 := by rw [hw]; simp
  refine ⟨⟨h.below hb hz, by omega, ?_, ?_, ?_⟩, hb, hs⟩
  · rw [hw]; exact ((Box3.new _ _ _ _ rfl).alloc _).alloc _
  · rw [hw]
    have := Boxed.new (w.alloc (.cells #[.int .i64 m.size, .slice a m.doors.length c, .slice b m.keys.length d] 29)) 3 (.int .i64 (al : Int))
    simp only [World.size_alloc] at this
    exact this.alloc _
  · rw [hw]
    have := Boxed.new ((w.alloc (.cells #[.int .i64 m.size, .slice a m.doors.length c, .slice b m.keys.length d] 29)).alloc (.cells #[.int .i64 (al : Int)] 3)) 61 (.func (.func pf) #[] #[])
    simp only [World.size_alloc] at this
    exact this
def KpE (lo hi bm ba bp : Nat) (m : M.Mz) (a : Option Addr) (c : Nat) (b : Option Addr) (d al pf : Nat) (W W' : World) : Prop := EntIn lo hi bm ba bp m a c b d al pf W → EntIn lo hi bm ba bp m a c b d al pf W'
def SE (m : M.Mz) (al : Nat) (pick : List Int → Int) (ys : List (Fin 12)) : Prop := ∃ k, M.DoneA m al pick k ∧ M.finI ys = (M.seqA m al pick k).1
theorem entering_stops (n : Nat) (hn : 1 ≤ n) (lo hi bm ba bp : Nat) (m : M.Mz) (a b : Option Addr) (c d al pf : Nat) (V : M.Valid m) (hal : M.InM m al) (pick : List Int → Int) (hpk : M.Picks pick) (hpf : PickOk pf pick) (hpe : ∀ args w, (callFunc pf args).run Try.prog w = .ok (.enter pf args) w) (w : World) (h : EntIn lo hi bm ba bp m a c b d al pf w) :
    SeqStopsK Fence.wide n Try.prog 112 #[.pointer (some ⟨ba, 0, none⟩), .pointer (some ⟨bm, 0, none⟩), .pointer (some ⟨bp, 0, none⟩)] (fun x : Fin 12 => #[.int .i64 ((x.val : Nat) : Int)]) (KpE lo hi bm ba bp m a c b d al pf) (SE m al pick) (fun _ => True) 4096 w :=
  fun l J Jx W hW hJ _ hY h0 => entering_in n hn l lo hi bm ba bp m a b c d al pf V hal pick hpk hpf hpe J Jx hY W hJ (h.below hW) h0
theorem EntIn.turned {lo hi bm ba bp : Nat} {m : M.Mz} {a b : Option Addr} {c d al pf g : Nat} {W W' : World} (h : EntIn lo hi bm ba bp m a c b d al pf W) (t : Turned g (g + 1) W W') (h1 : hi ≤ g ∨ g < lo) (h2 : g ≠ bm) (h3 : g ≠ ba) (h4 : g ≠ bp) : EntIn lo hi bm ba bp m a c b d al pf W' :=
  ⟨h.mz.turned t h.hi (by omega), Nat.le_trans h.hi t.size, h.bx.turned t (by omega), (t.block ba h.al.lt (by omega)).trans h.al, (t.block bp h.pk.lt (by omega)).trans h.pk⟩
theorem turned_grown {W W' : World} {g : Nat} (h : W.grownBy W' (some g)) : Turned g (g + 1) W W' := ⟨h.os, h.tape, h.output, h.size, fun k hk hd => h.block k hk (fun e => by injection e with e; omega)⟩
theorem kpE_b {lo hi bm ba bp : Nat} {m : M.Mz} {a b : Option Addr} {c d al pf : Nat} {w : World} (hh : hi ≤ w.heap.size) (h2 : bm < w.heap.size) (h3 : ba < w.heap.size) (h4 : bp < w.heap.size) (W : World) (l : Nat) (o o' : Obj) (hl : w.heap.size ≤ l) (_ : W.heap[l]? = some o) (_ : o.isCells = false) (_ : o.isWalk = false) : KpE lo hi bm ba bp m a c b d al pf W (W.putObj l o') :=
  fun h => h.turned (turned_grown (grownBy_putObj' W l o')) (.inl (by omega)) (by omega) (by omega) (by omega)
theorem pickOk_min : PickOk 63 M.pickMin := fun w lo hi a c l h h1 h2 h3 => sliceMin_any w lo hi a c l h h1 h2 h3
theorem pickOk_max : PickOk 65 M.pickMax := fun w lo hi a c l h h1 h2 h3 => sliceMax_any w lo hi a c l h h1 h2 h3
theorem wpIn_named {F : Fence} {n : Nat} {P : Program} {c : Code} {Q : Exit → Act → World → Prop} {a : Act} {X : World} (h : ∀ W, W = X → Code.wpIn F n P c Q a W) : Code.wpIn F n P c Q a X := h X rfl
theorem mostOf_any (w : World) (lo hi : Nat) (m : M.Mz) (a b : Option Addr) (c d : Nat) (h : MzIn lo hi w m a c b d) (hz : hi ≤ w.heap.size) (V : M.Valid m) (al : Nat) (hal : M.InM m al) :
    Calls Try.prog 69 #[.agg #[.int .i64 m.size, .slice a m.doors.length c, .slice b m.keys.length d], .int .i64 (al : Int)] w fun e w' => e = .returned (.int .i64 ((M.mostN m al : Nat) : Int)) ∧ Below w.heap.size w w' := by
  have H := Lib.hid h
  have HV := Lib.hid V
  have HAL := Lib.hid hal
  have hF1 : Fence.wide.fn 98 := trivial
  have HS := Lib.hid (fun k => M.seqA_ok V (a := al) M.picks_min k)
  clear h V hal
  refine (callsIn_wide (n := 5)).1 ?_
  refine callsIn_of_wp_marks Try.func69 rfl trivial ?_ rfl
  simp only [Try.ntmps69, List.size_toArray, List.length_cons, List.length_nil, Nat.reduceAdd, Nat.reduceSub, Array.replicate_succ, Array.replicate_zero, List.push_toArray, List.append_toArray, List.nil_append, List.cons_append]
  gi_wp2_with (gi_at_call 98; refine (callsIn_wide.2 (entering_calls _ m a b c d al 63)).mono ?_; rintro e w' ⟨rfl, hw'⟩)
  obtain ⟨W2, hW2⟩ : ∃ W2, W2 = (w.alloc (.cells #[.int .i64 m.size, .slice a m.doors.length c, .slice b m.keys.length d] 29)).alloc (.cells #[.int .i64 0] 3) := ⟨_, rfl⟩
  have hb2 : Below w.heap.size w W2 := by rw [hW2]; exact (below_alloc _ _).alloc (by simp) _
  have hs2 : W2.heap.size = w.heap.size + 1 + 1 := by rw [hW2]; simp
  have hg2 : Boxed W2 (w.heap.size + 1) 3 (.int .i64 0) := by
    rw [hW2]
    have := Boxed.new (w.alloc (.cells #[.int .i64 m.size, .slice a m.doors.length c, .slice b m.keys.length d] 29)) 3 (.int .i64 0)
    simp only [World.size_alloc] at this
    exact this
  obtain ⟨hE, hb5, hs5⟩ := entering_gives (al := al) (pf := 63) (H.out.below hb2 hz) (by omega) (w' := ((W2.alloc (.cells #[.int .i64 m.size, .slice a m.doors.length c, .slice b m.keys.length d] 29)).alloc (.cells #[.int .i64 (al : Int)] 3)).alloc (.cells #[.func (.func 63) #[] #[]] 61)) rfl
  rw [hs2] at hE hs5
  have hg5 := Boxed.below' hg2 hb5
  have hbw5 := hb2.trans (hb5.mono (by omega))
  rw [← hW2]
  clear hW2 hg2
  refine wpIn_named ?_
  intro W5 hW5
  rw [← hW5] at hE hs5 hg5 hb5 hbw5
  clear hW5
  refine wpIn_rangeFunc_ownG rfl (by decide) (gf := 112) (lb := #[.pointer (some ⟨w.heap.size + 1 + 1 + 1, 0, none⟩), .pointer (some ⟨w.heap.size + 1 + 1, 0, none⟩), .pointer (some ⟨w.heap.size + 1 + 1 + 1 + 1, 0, none⟩)]) rfl trivial (enters_of Try.func112 (by kernel_rfl) rfl)
    (entering_stops 4 (by decide) lo hi (w.heap.size + 1 + 1) (w.heap.size + 1 + 1 + 1) (w.heap.size + 1 + 1 + 1 + 1) m a b c d al 63 HV.out HAL.out M.pickMin M.picks_min pickOk_min (enters_of Try.func63 (by kernel_rfl) rfl) W5 hE) (fun h k => fun e => k (h e)) (kpE_b (by omega) (by omega) (by omega) (by omega)) (Below.refl _ _) (fun _ => rfl)
    (fun pre W => Boxed W (w.heap.size + 1) 3 (.int .i64 ((M.mk (M.finI pre) : Nat) : Int)) ∧ Below w.heap.size w W)
    (fun _ _ _ => False)
    ?own
    (fun _ _ _ _ _ hs _ _ => hs)
    ⟨hg5, hbw5⟩
    (fun x => { tmps := #[.agg #[.int .i64 m.size, .slice a m.doors.length c, .slice b m.keys.length d], .int .i64 (al : Int), .pointer (some ⟨w.heap.size, 0, none⟩), undef, .int .i64 0, .pointer (some ⟨w.heap.size + 1, 0, none⟩), .int .i64 ((x.val : Nat) : Int), .agg #[.int .i64 m.size, .slice a m.doors.length c, .slice b m.keys.length d], .int .i64 (al : Int), .func (.func 112) #[] #[.pointer (some ⟨w.heap.size + 1 + 1 + 1, 0, none⟩), .pointer (some ⟨w.heap.size + 1 + 1, 0, none⟩), .pointer (some ⟨w.heap.size + 1 + 1 + 1 + 1, 0, none⟩)], .int .i64 ((x.val : Nat) : Int), undef, undef, undef, undef, undef], defers := [] }) ?assign ?body ?done ?stop
  case own => exact OwnFrom.and (Own.from (boxed_ownF (w.heap.size + 1) 3 (fun pre => .int .i64 ((M.mk (M.finI pre) : Nat) : Int))) _) (ownFrom_below (Nat.le_refl _) (by omega))
  case assign =>
    intro l x W K hK
    gi_wp2
    exact hK
  case body =>
    rintro l pre x W ⟨hv, hB⟩ hlt
    have hc := hv.cell
    have hf := hv.frozen
    have hx := x.isLt
    obtain ⟨hpw, hpw2⟩ := M.wrapsP hx
    have hm4 : M.mk (M.finI pre) < 4096 := M.mk_lt (fun y hy => by unfold M.finI at hy; obtain ⟨q, _, rfl⟩ := List.mem_map.1 hy; have := q.isLt; omega)
    have hor := M.orP (n := M.mk (M.finI pre)) (q := x.val) hm4 hx
    have hvl := hv.lt
    have HMK : Hid (M.mk (M.finI (pre ++ [x])) = M.mk (M.finI pre) ||| 2 ^ x.val) := Lib.hid (by rw [M.finI_snoc, M.mk_snoc, Int.toNat_natCast])
    have hx0 : ¬ ((x.val : Nat) : Int) < 0 := by omega
    gi_wp2
    gi_region
    all_goals
      gi_wp2
      have hgr : W.grownBy (W.drew.setCell ⟨w.heap.size + 1, 0, none⟩ (.int .i64 ((M.mk (M.finI pre) ||| 2 ^ x.val : Nat) : Int))) (some (w.heap.size + 1)) := ⟨rfl, rfl, rfl, (grownBy_setCell' W.drew _ _).size, (grownBy_setCell' W.drew _ _).block⟩
      have hbx : Boxed (W.drew.setCell ⟨w.heap.size + 1, 0, none⟩ (.int .i64 ((M.mk (M.finI pre) ||| 2 ^ x.val : Nat) : Int))) (w.heap.size + 1) 3 (.int .i64 ((M.mk (M.finI pre) ||| 2 ^ x.val : Nat) : Int)) := Boxed.set _ (show Boxed W.drew (w.heap.size + 1) 3 (.int .i64 ((M.mk (M.finI pre) : Nat) : Int)) from hv)
      exact ⟨KeepsFrom.of_grownBy hgr (fun j e => by injection e with e; omega), fun hE' => hE'.turned (turned_grown hgr) (.inl (by omega)) (by omega) (by omega) (by omega), by rw [HMK.out]; exact hbx, hB.grown hgr (by omega) (fun j e => by injection e with e; omega)⟩
  case done =>
    rintro D ys W hD ⟨k, hk, hys⟩ ⟨hv, hB⟩ hK
    have hc := hv.cell
    have HR : Hid (M.mostN m al = M.mk (M.finI ys)) := Lib.hid (by rw [M.most_done hk, M.seqA_mk, hys])
    clear hys hk
    gi_wp2
    refine ⟨by simp, .inl ⟨_, _, rfl, run_takeDeferred hK, ?_⟩⟩
    exact ⟨_, results_tmp rfl _ _ _, by rw [HR.out]; rfl, hB.trans (belowK_b (w := w) (Nat.le_refl _) W D _ _ (by omega) hK rfl rfl)⟩
  case stop =>
    rintro D c pre W _ _ h _
    exact h.elim
end C
end Go.Proofs.Ytdjmmgfjcchloaa
