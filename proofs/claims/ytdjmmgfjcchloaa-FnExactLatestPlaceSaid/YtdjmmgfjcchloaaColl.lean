/-
  CONTRACT of slices.Collect over impl.Maze.entering: the nodes in the order in which they come, in memory of the call's own; what lay in memory stays. Condition: a valid maze; what the iterator reads lies so.
-/
import Derived.Test.YtdjmmgfjcchloaaMost
import Derived.Test.YtdjmmgfjcchloaaFullM
namespace Go.Proofs.Ytdjmmgfjcchloaa
open Go.RowKit Go.Shelf
attribute [local go_sem] Oper.semAt_some
namespace C
theorem EntIn.belowB {lo hi bm ba bp B : Nat} {m : M.Mz} {a b : Option Addr} {c d al pf : Nat} {W W' : World} (h : EntIn lo hi bm ba bp m a c b d al pf W) (t : Below B W W') (h1 : hi ≤ B) (h2 : bm < B) (h3 : ba < B) (h4 : bp < B) : EntIn lo hi bm ba bp m a c b d al pf W' :=
  have tt : Turned B W.heap.size W W' := ⟨t.os, t.tape, t.output, t.size, fun k _ hd => t.block k (by omega)⟩
  ⟨h.mz.turned tt h.hi (.inl h1), Nat.le_trans h.hi t.size, h.bx.turned tt (.inl h2), (t.block ba h3).trans h.al, (t.block bp h4).trans h.pk⟩
set_option maxRecDepth 100000
set_option maxHeartbeats 3200000
theorem appendSeq_any (w : World) (lo hi bm ba bp : Nat) (m : M.Mz) (a b : Option Addr) (c d al pf : Nat) (V : M.Valid m) (hal : M.InM m al) (pick : List Int → Int) (hpk : M.Picks pick) (hpf : PickOk pf pick) (hpe : ∀ args w, (callFunc pf args).run Try.prog w = .ok (.enter pf args) w) (h : EntIn lo hi bm ba bp m a c b d al pf w) :
    Calls Try.prog 111 #[.slice none 0 0, .func (.func 112) #[] #[.pointer (some ⟨ba, 0, none⟩), .pointer (some ⟨bm, 0, none⟩), .pointer (some ⟨bp, 0, none⟩)]] w (IntsPost w (M.fullA m al pick).1) := by
  obtain ⟨i0, hi0, hz0, hz1, hz2⟩ := info_parts infoI
  have HE := Lib.hid h
  have HV := Lib.hid V
  have HAL := Lib.hid hal
  have HPK := Lib.hid hpk
  have HPF := Lib.hid hpf
  have hhi := h.hi
  have hbm := h.bx.lt
  have hba := h.al.lt
  have hbp := h.pk.lt
  clear h V hal hpk hpf
  refine (callsIn_wide (n := 5)).1 ?_
  refine callsIn_of_wp_marks Try.func111 rfl trivial ?_ rfl
  simp only [Try.ntmps111, List.size_toArray, List.length_cons, List.length_nil, Nat.reduceAdd, Nat.reduceSub, Array.replicate_succ, Array.replicate_zero, List.push_toArray, List.append_toArray, List.nil_append, List.cons_append]
  gi_wp2
  have bO := Boxed.new w 23 (.slice none 0 0)
  have hB0 : Below w.heap.size w (w.alloc (.cells #[.slice none 0 0] 23)) := below_alloc _ _
  have hE1 := HE.out.below hB0
  have hs1 : (w.alloc (.cells #[.slice none 0 0] 23)).heap.size = w.heap.size + 1 := by simp
  refine wpIn_named ?_
  intro W5 hW5
  rw [← hW5] at bO hB0 hE1 hs1
  clear hW5
  refine wpIn_rangeFunc_ownG rfl (by decide) (gf := 112) (lb := #[.pointer (some ⟨ba, 0, none⟩), .pointer (some ⟨bm, 0, none⟩), .pointer (some ⟨bp, 0, none⟩)]) rfl trivial (enters_of Try.func112 (by kernel_rfl) rfl)
    (entering_stops 4 (by decide) lo hi bm ba bp m a b c d al pf HV.out HAL.out pick HPK.out HPF.out hpe W5 hE1) (fun h k => fun e => k (h e)) (kpE_b (by omega) (by omega) (by omega) (by omega)) (Below.refl _ _) (fun _ => rfl)
    (fun pre W => (∃ v, Boxed W w.heap.size 23 v ∧ W.ownsRow w.heap.size 3 1 v pre.length (M.encIs (M.finI pre)) ∧ True) ∧ Below w.heap.size w W)
    (fun _ _ _ => False)
    ?own
    (fun _ _ _ _ _ hs _ _ => hs)
    ⟨⟨_, bO, World.ownsRow_nil _ _ _ _, trivial⟩, hB0⟩
    (fun x => { tmps := #[.slice none 0 0, .func (.func 112) #[] #[.pointer (some ⟨ba, 0, none⟩), .pointer (some ⟨bm, 0, none⟩), .pointer (some ⟨bp, 0, none⟩)], .pointer (some ⟨w.heap.size, 0, none⟩), undef, .slice none 0 0, .int .i64 ((x.val : Nat) : Int), .func (.func 112) #[] #[.pointer (some ⟨ba, 0, none⟩), .pointer (some ⟨bm, 0, none⟩), .pointer (some ⟨bp, 0, none⟩)], .int .i64 ((x.val : Nat) : Int), undef, undef, undef, undef, undef], defers := [] }) ?assign ?body ?done ?stop
  case own => exact OwnFrom.and (Own.from (holdsRow_own w.heap.size w.heap.size 23 3 1 (fun (pre : List (Fin 12)) => pre.length) (fun pre => M.encIs (M.finI pre)) (fun _ _ => True)) _) (ownFrom_below (Nat.le_refl _) (by omega))
  case assign =>
    intro l x W K hK
    gi_wp2
    exact hK
  case body =>
    rintro l pre x W ⟨⟨v, hv, hrow, _⟩, hB⟩ hlt
    have hc := hv.cell
    have hvl := hv.lt
    have HFS : Hid (M.encIs (M.finI (pre ++ [x])) = M.encIs (M.finI pre) ++ [.int .i64 ((x.val : Nat) : Int)]) := Lib.hid (by rw [M.finI_snoc, M.encIs_append]; rfl)
    gi_wp2_with (gi_at_builtin; refine wpListIn_append_own _ rfl _ _ 23 rfl w.heap.size 3 i0 (.int .i64 0) 1 8 Try.underlying23 hi0 hz0 hz1 hz2 rfl (by decide) _ _ _ rfl (hrow.alloc _) ⟨W.heap.size, 0, none⟩ 1 1 [.int .i64 ((x.val : Nat) : Int)] rfl rfl (cell_one_new _ _ _) (fun x hx => by simp at hx; subst hx; rfl) (by unfold maxLen; omega) (by omega) (by have := hB.size; simp; omega) ?_; intro v' w1 hown' hgrow _; obtain ⟨g', cap', rfl⟩ := ownsRow_succ hown'; obtain ⟨hv1, hv2, hr2, hk2, hb2⟩ := hv.appended (by decide) hrow hB.size (Nat.le_refl _) hown' hgrow; have hc1 := hv1.cell; have hf1 := hv1.frozen)
    exact ⟨hk2.from _, fun hE => hE.belowB hb2 (by omega) (by omega) (by omega) (by omega), ⟨⟨_, hv2, by rw [HFS.out]; simpa using hr2, trivial⟩, hB.trans hb2⟩⟩
  case done =>
    rintro D ys W hD ⟨k, hk, hys⟩ ⟨⟨v, hv, hrow, _⟩, hB⟩ hK
    have hc := hv.cell
    have HR : Hid ((M.fullA m al pick).1 = M.finI ys) := Lib.hid (by rw [M.fullA_eq hk, hys])
    have HLN : Hid (ys.length = (M.finI ys).length) := Lib.hid (by unfold M.finI; rw [List.length_map])
    clear hys hk
    gi_wp2
    refine ⟨by simp, .inl ⟨_, _, rfl, run_takeDeferred hK, ?_⟩⟩
    refine ⟨_, results_tmp rfl _ _ _, ?_⟩
    rw [HR.out]
    have hfin := ownsRow_putObj hrow (.deferred none) hK rfl
    rw [HLN.out] at hfin
    exact ints_end hfin (hB.trans (belowK_b (w := w) (Nat.le_refl _) W D _ _ (by omega) hK rfl rfl))
  case stop =>
    rintro D c pre W _ _ h _
    exact h.elim
theorem collect_any (w : World) (lo hi bm ba bp : Nat) (m : M.Mz) (a b : Option Addr) (c d al pf : Nat) (V : M.Valid m) (hal : M.InM m al) (pick : List Int → Int) (hpk : M.Picks pick) (hpf : PickOk pf pick) (hpe : ∀ args w, (callFunc pf args).run Try.prog w = .ok (.enter pf args) w) (h : EntIn lo hi bm ba bp m a c b d al pf w) :
    Calls Try.prog 97 #[.func (.func 112) #[] #[.pointer (some ⟨ba, 0, none⟩), .pointer (some ⟨bm, 0, none⟩), .pointer (some ⟨bp, 0, none⟩)]] w (IntsPost w (M.fullA m al pick).1) := by
  have HA := Lib.hid (appendSeq_any w lo hi bm ba bp m a b c d al pf V hal pick hpk hpf hpe h)
  clear h V hal hpk hpf hpe
  go_enter Try.func97, Try.ntmps97
  go_wp2_with fail
  refine HA.out.mono ?_
  rintro e w' ⟨ra, rc, rfl, ho, hq1, hq2, hb⟩
  have HO := Lib.hid ho
  have HB := Lib.hid hb
  clear ho hb
  go_wp2_with fail
  go_ret
  exact ⟨ra, rc, rfl, HO.out, hq1, hq2, HB.out⟩
theorem allNodes_any (w : World) (m : M.Mz) (a b : Option Addr) (c d : Nat) (V : M.Valid m) :
    Calls Try.prog 70 #[.agg #[.int .i64 m.size, .slice a m.doors.length c, .slice b m.keys.length d]] w fun e w' => e = .returned (.int .i64 ((M.allN m : Nat) : Int)) ∧ Below w.heap.size w w' := by
  have v1 := V.size1
  have v12 := V.size12
  have hwp := M.wrap_two V
  have hN := M.two_size V
  have hm0 : ¬ m.size < 0 := by omega
  have HAN : Hid (M.allN m = 2 ^ m.size.toNat - 1) := Lib.hid rfl
  clear V
  generalize 2 ^ m.size.toNat = N at *
  have HS1 : Hid (((N - 1 : Nat) : Int) = (N : Int) - 1) := Lib.hid (by omega)
  go_enter Try.func70, Try.ntmps70
  go_wp2_with fail
  go_ret
  exact ⟨by rw [HAN.out, HS1.out]; rfl, below_alloc _ _⟩
end C
end Go.Proofs.Ytdjmmgfjcchloaa
