/-
  CONTRACT of the iterator that impl.Maze.entering gives: for every loop body that keeps what it reads, the nodes come one by one, each picked out of those that can be entered. Conditions: a valid maze, a number below 4096 that has no node beyond it, a function that picks.
-/
import Derived.RangeFuncBox
import Derived.RangeFuncLeaves
import Derived.RangeFuncFrom
import Derived.Shelf.Abstract
import Derived.WalkKit
import Derived.OwnWalkIn
import Derived.TacticsInMore
import Derived.LoopNIn
import Derived.LoopIn
import Derived.Maps.AppendAt
import Derived.Lib.Hide
import Derived.Sort.LoopGhostIn
import Derived.RegionIn
import Derived.BigRegionIn
import Derived.Stop.RegionWithIn
import Derived.Shelf.AbstractIn
import Derived.WalkMore
import Derived.Test.YtdjmmgfjcchloaaNextI
import Derived.Test.YtdjmmgfjcchloaaOrdMath3
import Derived.Test.YtdjmmgfjcchloaaTabN
import Derived.Test.YtdjmmgfjcchloaaPick
namespace Go.Proofs.Ytdjmmgfjcchloaa
open Go.RowKit Go.Shelf
attribute [local go_sem] Oper.semAt_some
namespace M
def finI (l : List (Fin 12)) : List Int := l.map fun p => ((p.val : Nat) : Int)
theorem finI_snoc (l : List (Fin 12)) (p : Fin 12) : finI (l ++ [p]) = finI l ++ [((p.val : Nat) : Int)] := by unfold finI; rw [List.map_append]; rfl
/-- all digits lie below the size -/
def InM (m : Mz) (a : Nat) : Prop := a < 4096 ∧ ∀ p, digB a p = true → (p : Int) < m.size
theorem seq_in {m : Mz} (V : Valid m) {al : Nat} {pick : List Int → Int} (hp : Picks pick) (k : Nat) : ∀ p, digB (seqA m al pick k).2 p = true → (p : Int) < m.size := ordF_in (seqA_ok V hp k).2.2.1 zero_in
theorem and4b (a b : Nat) (ha : a < 4096) (hb : b < 4096) : bits .and .i64 (a : Int) (b : Int) = ((a &&& b : Nat) : Int) := and4 a b ha hb
end M
namespace C
/-- what the iterator reads -/
structure EntIn (lo hi bm ba bp : Nat) (m : M.Mz) (a : Option Addr) (c : Nat) (b : Option Addr) (d : Nat) (al pf : Nat) (W : World) : Prop where
  mz : MzIn lo hi W m a c b d
  hi : hi ≤ W.heap.size
  bx : Box3 W bm 29 (.int .i64 m.size) (.slice a m.doors.length c) (.slice b m.keys.length d)
  al : Boxed W ba 3 (.int .i64 (al : Int))
  pk : Boxed W bp 61 (.func (.func pf) #[] #[])
section
variable {lo hi bm ba bp : Nat} {m : M.Mz} {a b : Option Addr} {c d al pf : Nat} {W W' : World}
theorem Boxed.below' {B : Nat} {t : TypeId} {v : Value} (h : Boxed W B t v) (t' : Below W.heap.size W W') : Boxed W' B t v := (t'.block B h.lt).trans h
theorem EntIn.below (h : EntIn lo hi bm ba bp m a c b d al pf W) (t : Below W.heap.size W W') : EntIn lo hi bm ba bp m a c b d al pf W' :=
  ⟨h.mz.below t h.hi, Nat.le_trans h.hi t.size, h.bx.below t, Boxed.below' h.al t, Boxed.below' h.pk t⟩
theorem grownN_of_below (t : Below W.heap.size W W') : W.grownBy W' none := ⟨t.os, t.tape, t.output, t.size, fun k hk _ => t.block k hk⟩
end
/-- a function that picks a node out of a list that ascends -/
def PickOk (pf : Nat) (pick : List Int → Int) : Prop := ∀ (w : World) (lo hi : Nat) (a : Option Addr) (c : Nat) (l : List Int), RowIn lo hi w a (M.encIs l) → 0 < l.length → l.length ≤ 1000 → M.Asc M.ltI l → Calls Try.prog pf #[.slice a l.length c] w fun e w' => e = .returned (.int .i64 (pick l)) ∧ w = w'
set_option maxRecDepth 100000 in
set_option maxHeartbeats 3200000 in
theorem entering_in (n : Nat) (hn : 1 ≤ n) (l lo hi bm ba bp : Nat) (m : M.Mz) (a b : Option Addr) (c d al pf : Nat) (V : M.Valid m) (hal : M.InM m al) (pick : List Int → Int) (hpk : M.Picks pick) (hpf : PickOk pf pick) (hpe : ∀ args w, (callFunc pf args).run Try.prog w = .ok (.enter pf args) w) (J Jx : List (Fin 12) → World → Prop)
    (hY : ∀ pre (x : Fin 12) W, J pre W → pre.length < 4096 → YieldAt Fence.wide (n - 1) Try.prog l #[.int .i64 ((x.val : Nat) : Int)] W fun e W' =>
      (e = .returned (.bool true) ∧ J (pre ++ [x]) W' ∧ (EntIn lo hi bm ba bp m a c b d al pf W → EntIn lo hi bm ba bp m a c b d al pf W')) ∨ (e = .returned (.bool false) ∧ Jx (pre ++ [x]) W'))
    (W : World) (hJ : AbidesFrom W.heap.size J) (h : EntIn lo hi bm ba bp m a c b d al pf W) (h0 : J [] W) :
    CallsIn Fence.wide n Try.prog 112 #[.func (.yield l) #[] #[], .pointer (some ⟨ba, 0, none⟩), .pointer (some ⟨bm, 0, none⟩), .pointer (some ⟨bp, 0, none⟩)] W fun e W' => (∃ v, e = .returned v) ∧
      ((∃ ys : List (Fin 12), (∃ k, M.DoneA m al pick k ∧ M.finI ys = (M.seqA m al pick k).1) ∧ J ys W') ∨ (∃ pre : List (Fin 12), True ∧ Jx pre W')) := by
  have HV := Lib.hid V
  have HPK := Lib.hid hpk
  have HPF := Lib.hid hpf
  have HYY := Lib.hid hY
  have HJ := Lib.hid hJ
  have hal4 := hal.1
  have HS := Lib.hid (fun k => M.seqA_ok V (a := al) hpk k)
  have HSI := Lib.hid (fun k => M.seq_in V (al := al) hpk k)
  have HNT := Lib.hid (fun (W' : World) (k : Nat) (hE : EntIn lo hi bm ba bp m a c b d al pf W') => nextTo_any W' lo hi m a b c d hE.mz hE.hi V (M.seqA m al pick k).2 (HS.out k).1 (HSI.out k))
  have HN0 := Lib.hid (fun (W' : World) (hE : EntIn lo hi bm ba bp m a c b d al pf W') => show Calls Try.prog 88 #[.agg #[.int .i64 m.size, .slice a m.doors.length c, .slice b m.keys.length d], .int .i64 0] W' (fun e w' => e = .returned (.int .i64 ((M.nextN m (M.seqA m al pick 0).2 : Nat) : Int)) ∧ Below W'.heap.size W' w') from HNT.out W' 0 hE)
  have hF1 : Fence.wide.fn 88 := trivial
  have hF2 : Fence.wide.fn 79 := trivial
  have hF3 : Fence.wide.fn pf := trivial
  have HE := Lib.hid h
  have H0 := Lib.hid h0
  clear V hpk hpf hY hJ hal h h0
  refine callsIn_of_wp Try.func112 rfl trivial ?_ rfl
  simp only [Try.ntmps112, List.size_toArray, List.length_cons, List.length_nil, Nat.reduceAdd, Nat.reduceSub, Array.replicate_succ, Array.replicate_zero, List.push_toArray, List.append_toArray, List.nil_append, List.cons_append]
  obtain ⟨m0, m1, m2⟩ := HE.out.bx.cells
  have a0 := HE.out.al.cell
  have hba := HE.out.al.lt
  have hbm := HE.out.bx.lt
  gi_wp2
  gi_region_with (gi_at_call 88; refine (callsIn_wide.2 (HN0.out W.drew (HE.out.below (Below.refl W.heap.size W).drew))).mono ?_; rintro e w5 ⟨rfl, hb5⟩; have hb5' : Below W.heap.size W w5 := (Below.refl W.heap.size W).drew.trans hb5; have a0 := (Boxed.below' HE.out.al hb5').cell)
  all_goals
    have HE5 := Lib.hid (HE.out.below hb5')
    have H05 := Lib.hid (HJ.out [] W w5 none H0.out (grownN_of_below hb5') (fun _ e => by cases e))
    have hbz := hb5'.size
    clear hb5 hb5' m0 m1 m2 a0
    have hA0 := M.and4 al (M.nextN m (M.seqA m al pick 0).2) hal4 (M.nextN_lt _ _)
    gi_wp2
    go_simp
    gi_loopg [5, 6, 7] 4096 (fun g v5 v6 _ wr => ∃ (k : Nat) (pre : List (Fin 12)), v5 = .int .i64 (((M.seqA m al pick k).2 : Nat) : Int) ∧ v6 = .int .i64 ((M.nxtA m al (M.seqA m al pick k).2 : Nat) : Int) ∧ 4096 - (M.seqA m al pick k).2 = g ∧ M.finI pre = (M.seqA m al pick k).1 ∧ J pre wr ∧ EntIn lo hi bm ba bp m a c b d al pf wr)
    case atStart => exact ⟨0, [], rfl, by first | rfl | (rw [hA0]; rfl), rfl, rfl, H05.out, HE5.out⟩
    case round =>
      obtain ⟨k, pre, rfl, rfl, hg, hpre, hJ1, hE1⟩ := hrel
      have hn4 := (HS.out k).1
      have hnx4 := M.nxtA_lt m (a := al) (M.seqA m al pick k).2
      have HE1 := Lib.hid hE1
      have HJ1 := Lib.hid hJ1
      have hbw := hE1.pk.lt
      have hbm' := hE1.bx.lt
      have hba' := hE1.al.lt
      clear hE1 hJ1
      by_cases hd : M.nxtA m al (M.seqA m al pick k).2 = 0
      · have HD : Hid (M.DoneA m al pick k) := Lib.hid hd
        rw [hd]
        clear hd
        gi_wp2
        refine bodyPost_end (v := .tuple #[]) (results_none rfl _ _ _) rfl ?_
        exact ⟨⟨_, rfl⟩, .inl ⟨pre, ⟨k, HD.out, hpre⟩, HJ1.out⟩⟩
      · obtain ⟨p, hpp, hp12, _, hpn⟩ := M.pickA_in HPK.out hd
        have HSU := Lib.hid (M.seqA_succ (pick := pick) (k := k) hd)
        have HGR := Lib.hid (M.seqA_grow HV.out HPK.out (k := k) hd)
        have hne := M.digs_ne hnx4 hd
        have hLl := M.digsTo_len (M.nxtA m al (M.seqA m al pick k).2) 12
        have hLp : 0 < (M.digsTo (M.nxtA m al (M.seqA m al pick k).2) 12).length := List.length_pos_iff.2 hne
        have HLA := Lib.hid (M.digsTo_asc (M.nxtA m al (M.seqA m al pick k).2) 12)
        have HPP : Hid (pick (M.digsTo (M.nxtA m al (M.seqA m al pick k).2) 12) = (p : Int)) := Lib.hid hpp
        rw [hpp, Int.toNat_natCast] at HSU
        have HDI := Lib.hid (fun W' => digits_any (M.nxtA m al (M.seqA m al pick k).2) hnx4 W')
        have hlen : pre.length < 4096 := by
          have h1 := (HS.out k).2.1
          rw [← hpre] at h1
          have h2 : (M.finI pre).length = pre.length := by unfold M.finI; rw [List.length_map]
          omega
        have hnz : ¬ ((M.nxtA m al (M.seqA m al pick k).2 : Nat) : Int) = 0 := by omega
        have hnb : (((M.nxtA m al (M.seqA m al pick k).2 : Nat) : Int) != 0) = true := by simpa using hd
        have hA1 := M.and4 al (M.nextN m (M.seqA m al pick (k + 1)).2) hal4 (M.nextN_lt _ _)
        have HNX : Hid (al &&& M.nextN m (M.seqA m al pick (k + 1)).2 = M.nxtA m al (M.seqA m al pick (k + 1)).2) := Lib.hid rfl
        have HN1 := Lib.hid (fun W' hE => HNT.out W' (k + 1) hE)
        have hs2 : (M.seqA m al pick (k + 1)).2 = (M.seqA m al pick k).2 ||| 2 ^ p := by rw [HSU.out]
        have hs1 : (M.seqA m al pick (k + 1)).1 = (M.seqA m al pick k).1 ++ [(p : Int)] := by rw [HSU.out]
        have hor : bits .or .i64 (((M.seqA m al pick k).2 : Nat) : Int) (2 ^ p) = (((M.seqA m al pick (k + 1)).2 : Nat) : Int) := by rw [hs2]; exact M.orP hn4 hp12
        have HS1 := Lib.hid hs1
        have hgr := HGR.out
        have hn5 := (HS.out (k + 1)).1
        obtain ⟨hpw, hpw2⟩ := M.wrapsP (p := p) hp12
        clear hpp hpn hne hs1 hs2 HSU hd
        generalize hx1 : M.nextN m (M.seqA m al pick (k + 1)).2 = nx1 at *
        generalize hx2 : M.nxtA m al (M.seqA m al pick (k + 1)).2 = na1 at *
        generalize hx3 : (M.seqA m al pick (k + 1)).2 = n1 at *
        have HX2 := Lib.hid hx2
        have HX3 := Lib.hid hx3
        rw [HNX.out] at hA1
        clear hx1 hx2 hx3
        generalize hLL : M.digsTo (M.nxtA m al (M.seqA m al pick k).2) 12 = L at *
        generalize M.nxtA m al (M.seqA m al pick k).2 = na at *
        generalize (M.seqA m al pick k).2 = n0 at *
        clear hLL
        have p0 := HE1.out.pk.cell
        gi_wp2
        gi_region_with (first
          | (gi_at_call 79; refine (callsIn_wide.2 (HDI.out wr.drew)).mono ?_; rintro e w6 ⟨ra, rc, rfl, ho, ho1, ho2, hb6⟩; have hb6' : Below wr.heap.size wr w6 := (Below.refl wr.heap.size wr).drew.trans hb6; have p0 := (Boxed.below' HE1.out.pk hb6').cell)
          | (gi_at_fn pf; refine (callsIn_wide.2 (HPF.out w6 _ _ ra rc L ho.row hLp (by omega) HLA.out)).mono ?_; rintro e w7 ⟨rfl, rfl⟩; rw [HPP.out]))
        all_goals
          have hE6 := HE1.out.below hb6'
          have hJ6 := HJ.out pre wr w6 none HJ1.out (grownN_of_below hb6') (fun _ e => by cases e)
          obtain ⟨fn, tmps, assign, body, hy, hR⟩ := HYY.out pre ⟨p, hp12⟩ w6 hJ6 hlen
          gi_wp2
          refine hR.mono ?_
          rintro e W3 (⟨rfl, hJ3, hk3⟩ | ⟨rfl, hJx3⟩)
          · have HE3 := Lib.hid (hk3 hE6)
            have HJ3 := Lib.hid hJ3
            clear hJ3 hk3 hR hy hJ6 hE6 hb6' hb6 ho p0
            obtain ⟨m0, m1, m2⟩ := HE3.out.bx.cells
            have a0 := HE3.out.al.cell
            have hba3 := HE3.out.al.lt
            have hbm3 := HE3.out.bx.lt
            gi_wp2
            gi_region_with (gi_at_call 88; refine (callsIn_wide.2 (HN1.out W3.drew (HE3.out.below (Below.refl W3.heap.size W3).drew))).mono ?_; rintro e w8 ⟨rfl, hb8⟩; have hb8' : Below W3.heap.size W3 w8 := (Below.refl W3.heap.size W3).drew.trans hb8; have a0 := (Boxed.below' HE3.out.al hb8').cell)
            all_goals
              gi_wp2
              gi_roundg (4096 - n1)
              case rel => exact ⟨k + 1, pre ++ [⟨p, hp12⟩], by rw [HX3.out], by rw [HX3.out, HX2.out], by rw [HX3.out], by rw [M.finI_snoc, hpre, HS1.out], HJ.out _ W3 w8 none HJ3.out (grownN_of_below hb8') (fun _ e => by cases e), HE3.out.below hb8'⟩
              case measure => omega
          · gi_wp2
            refine bodyPost_ret (results_none rfl _ _ _) rfl ?_
            exact ⟨⟨_, rfl⟩, .inr ⟨_, trivial, hJx3⟩⟩
end C
end Go.Proofs.Ytdjmmgfjcchloaa
