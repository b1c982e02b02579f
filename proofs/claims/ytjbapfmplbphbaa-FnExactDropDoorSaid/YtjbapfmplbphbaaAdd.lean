/-
  CONTRACTS of impl.doorBetween, impl.AddDoor: the maze with one more door, in memory of its own, or the empty one and false; what lay in memory stays. No condition but that the maze reads so.
-/
import Derived.Test.YtjbapfmplbphbaaAddMath
import Derived.Test.YtjbapfmplbphbaaCloneR
import Derived.Test.YtjbapfmplbphbaaOwnMaz3
import Derived.Test.YtjbapfmplbphbaaPutN
import Derived.Test.YtjbapfmplbphbaaDoorsAt
import Derived.Deep.RegionHeld3
import Derived.Deep.RegionLaw
import Derived.OwnWalk
namespace Go.Proofs.Ytjbapfmplbphbaa
open Go.RowKit
namespace C
set_option maxHeartbeats 3200000
set_option maxRecDepth 20000
theorem doorBetween_any (x y n : Int) (w : World) : Calls Try.prog 69 #[.int .i64 x, .int .i64 y, .int .i64 n] w fun e w' => e = .returned (.agg #[.int .i64 (M.doorOf x y n).1, .int .i64 (M.doorOf x y n).2.1, .int .i64 (M.doorOf x y n).2.2]) ∧ Below w.heap.size w w' := by
  unfold M.doorOf
  rcases Int.lt_trichotomy x y with h | rfl | h
  · have e1 : min x y = x := by omega
    have e2 : max x y = y := by omega
    rw [e1, e2]
    go_enter Try.func69, Try.ntmps69
    go_wp2_with fail
    refine bodyPost_ret (v := .agg #[.int .i64 x, .int .i64 y, .int .i64 n]) (by simp [results, Try.results69, go_sem]) rfl ?_
    exact ⟨rfl, by first | exact below_alloc _ _ | exact (below_alloc _ _).alloc (by simp) _⟩
  · have e1 : min x x = x := by omega
    have e2 : max x x = x := by omega
    rw [e1, e2]
    go_enter Try.func69, Try.ntmps69
    go_wp2_with fail
    refine bodyPost_ret (v := .agg #[.int .i64 x, .int .i64 x, .int .i64 n]) (by simp [results, Try.results69, go_sem]) rfl ?_
    exact ⟨rfl, by first | exact below_alloc _ _ | exact (below_alloc _ _).alloc (by simp) _⟩
  · have e1 : min x y = y := by omega
    have e2 : max x y = x := by omega
    rw [e1, e2]
    go_enter Try.func69, Try.ntmps69
    go_wp2_with fail
    refine bodyPost_ret (v := .agg #[.int .i64 y, .int .i64 x, .int .i64 n]) (by simp [results, Try.results69, go_sem]) rfl ?_
    exact ⟨rfl, by first | exact below_alloc _ _ | exact (below_alloc _ _).alloc (by simp) _⟩
theorem step_call {P : Program} {w : World} {ops : Array Oper} {o : Oper} {a : Act} {K : Act → World → Prop} {Q : Exit → Act → World → Prop} {E : Prop} (hgd : o.guard = none) (f : FuncId) (args : Array Value)
    (hr : (execOp a.eval o).run P w = .ok (.enter f args) w) {R : Ending → World → Prop} (hc : Calls P f args w R) (hR : ∀ e w', R e w' → ∃ v, e = .returned v ∧ K (a.put o.dst v) w') :
    if Region.wanted o (yielded ops a.tmps) = true then Oper.wp P o a w K Q else E := by
  have hw : Region.wanted o (yielded ops a.tmps) = true := by simp [Region.wanted, hgd]
  rw [if_pos hw]
  unfold Oper.wp
  rw [hr, Oper.upon_enter]
  refine hc.mono fun e w' h => ?_
  obtain ⟨v, rfl, hk⟩ := hR e w' h
  exact hk
theorem mzOk_end {w w3 : World} {lo hi : Nat} {m : M.Mz} {ok : Bool} {a b : Option Addr} {c d : Nat} {u0 u1 u2 : Value} (hB : Below w.heap.size w w3) (ho : MzOwn lo hi w3 m a c b d) (h1 : w.heap.size + 1 < lo) (h2 : hi ≤ w3.heap.size) :
    MzOkPost w m ok (.returned (.tuple #[.agg #[.int .i64 m.size, .slice a m.doors.length c, .slice b m.keys.length d], .bool ok])) (((w3.setCell ⟨w.heap.size + 1, 0, none⟩ u0).setCell ⟨w.heap.size + 1, 1, none⟩ u1).setCell ⟨w.heap.size + 1, 2, none⟩ u2) := by
  have hT : Turned (w.heap.size + 1) (w.heap.size + 1 + 1) w3 (((w3.setCell ⟨w.heap.size + 1, 0, none⟩ u0).setCell ⟨w.heap.size + 1, 1, none⟩ u1).setCell ⟨w.heap.size + 1, 2, none⟩ u2) :=
    ((Turned.setCell _ _ _ _ (by omega) (by omega)).trans (Turned.setCell _ _ _ _ (by omega) (by omega))).trans (Turned.setCell _ _ _ _ (by omega) (by omega))
  have hs := hT.size
  have hz := hB.size
  exact ⟨_, _, _, _, rfl, (ho.turned hT h2 (.inr (by omega))).mono (by omega) (by omega), Below.thenTurned hB hT (by omega) (by omega)⟩
theorem own_ne_own {w : World} {B B' : Nat} {e e' : TypeId} {size size' : Nat} {v v' : Value} {n n' : Nat} {xs xs' : List Value} (h : w.ownsRow B e size v n xs) (h' : w.ownsRow B' e' size' v' n' xs') (hne : e ≠ e') : v'.ownBlock = none ∨ v.ownBlock ≠ v'.ownBlock := by
  rcases h'.2 with ⟨rfl, _⟩ | ⟨g', cap', cur', rfl, _, hh', _⟩
  · exact .inl rfl
  · right
    rcases h.2 with ⟨rfl, _⟩ | ⟨g, cap, cur, rfl, _, hh, _⟩
    · simp [Value.ownBlock]
    · intro he
      have : g = g' := by simpa [Value.ownBlock] using he
      subst this
      rw [hh] at hh'
      injection hh' with hh'
      injection hh' with _ ht
      exact hne ht
theorem own_ne_own2 {w : World} {B B' : Nat} {e e' : TypeId} {size size' : Nat} {v v' : Value} {n n' : Nat} {xs xs' : List Value} (h : w.ownsRow B e size v n xs) (h' : w.ownsRow B' e' size' v' n' xs') (hne : e ≠ e') : v'.ownBlock = none ∨ v'.ownBlock ≠ v.ownBlock := (own_ne_own h h' hne).imp id Ne.symm
theorem own_setBox {w : World} {B g : Nat} {e T : TypeId} {size : Nat} {v x y z : Value} {n : Nat} {xs : List Value} (h : w.ownsRow B e size v n xs) (hb : Box3 w g T x y z) (hne : e ≠ T) (i : Nat) (u : Value) : (w.setCell ⟨g, i, none⟩ u).ownsRow B e size v n xs := by
  have hn := own_ne_box h hb hne
  rcases h with ⟨hl, h | ⟨g', cap, cur, hv, hB, hh, hr⟩⟩
  · exact ⟨hl, .inl h⟩
  · refine ⟨hl, .inr ⟨g', cap, cur, hv, hB, ?_, hr⟩⟩
    rw [Below.heap_setCell w ⟨g, i, none⟩ u g' (by rintro rfl; exact hn (by rw [hv]; rfl))]
    exact hh
theorem Box3.set1 {X : World} {g : Nat} {T : TypeId} {x y z : Value} (h : Box3 X g T x y z) (u : Value) : Box3 (X.setCell ⟨g, 1, none⟩ u) g T x u z := by
  unfold Box3 at h ⊢
  simp [World.setCell, Array.getElem?_modify, h]
theorem Box3.other {X : World} {g g' : Nat} {T : TypeId} {x y z : Value} (h : Box3 X g T x y z) (hne : g ≠ g') (i : Nat) (u : Value) : Box3 (X.setCell ⟨g', i, none⟩ u) g T x y z := (Below.heap_setCell X ⟨g', i, none⟩ u g hne).trans h
theorem implAdd_lw (w : World) (lo hi : Nat) (m : M.Mz) (a b : Option Addr) (c d : Nat) (h : MzIn lo hi w m a c b d) (hz : hi ≤ w.heap.size) (_h1 : m.doors.length ≤ 1048576) (_h2 : m.keys.length ≤ 1048576) (x : Int) (_x1 : -9223372036854775808 ≤ x) (_x2 : x ≤ 9223372036854775807) (y : Int) (_y1 : -9223372036854775808 ≤ y) (_y2 : y ≤ 9223372036854775807) (n : Int) (_s1 : -9223372036854775808 ≤ n) (_s2 : n ≤ 9223372036854775807) :
    Calls Try.prog 38 #[.agg #[.int .i64 m.size, .slice a m.doors.length c, .slice b m.keys.length d], .int .i64 x, .int .i64 y, .int .i64 n] w (MzOkPost w (M.addV m x y n) (M.addB m x y n)) := by
  obtain ⟨i0, hi0, hz0, hz1, hz2⟩ := info_parts infoD
  have H := Lib.hid h
  clear h
  go_enter Try.func38, Try.ntmps38
  go_wp2_with fail
  refine named ?_
  intro W hW
  have hb : Below w.heap.size w W := by rw [hW]; exact (below_alloc _ _).alloc (by simp) _
  have x1 : Box3 W w.heap.size 29 (.int .i64 m.size) (.slice a m.doors.length c) (.slice b m.keys.length d) := by rw [hW]; exact (Box3.new _ _ _ _ rfl).alloc _
  have y1 : Box3 W (w.heap.size + 1) 29 (.int .i64 0) (.slice none 0 0) (.slice none 0 0) := by rw [hW]; exact Box3.new _ _ _ _ (by simp)
  clear hW
  have hzw := hb.size
  refine (isMaze_any W lo hi m a b c d (H.out.below hb hz) (by omega)).mono ?_
  rintro e w1 ⟨rfl, hb1⟩
  have X1 := Lib.hid (x1.below hb1)
  have Y1 := Lib.hid (y1.below hb1)
  have hbl := Y1.out.lt
  have HB1 := Lib.hid (hb.trans (hb1.mono hzw))
  have hz1w := hb1.size
  clear hb hb1 x1 y1
  obtain ⟨c0, c1, c2⟩ := X1.out.cells
  obtain ⟨k0, k1, k2⟩ := Y1.out.cells
  obtain ⟨f0, f1, f2⟩ := Y1.out.free
  cases q0 : M.mazeB m with
  | false =>
    have HF : Hid (M.addB m x y n = false) := Lib.hid (by unfold M.addB; rw [q0]; rfl)
    have HV := Lib.hid (M.addV_no HF.out)
    clear q0
    go_wp2_with fail
    refine bodyPost_ret (v := .tuple #[.agg #[.int .i64 0, .slice none 0 0, .slice none 0 0], .bool false]) (by simp [results, Try.results38, go_sem, k0, k1, k2]) rfl ?_
    rw [HF.out, HV.out]
    exact mzNo_end HB1.out
  | true =>
    have HVA := Lib.hid (M.valid_of q0)
    have HF := Lib.hid (M.addB_sorted (a := x) (b := y) (n := n) q0)
    have HV := Lib.hid (M.addV_sorted (a := x) (b := y) (n := n) q0)
    have hdl := HVA.out.few
    have hkl := HVA.out.keysLen
    have hs12 := HVA.out.size12
    clear q0
    go_wp2_with fail
    refine (clone_row w1 lo hi m a b c d (H.out.below HB1.out hz) (by omega) (by omega) (by omega)).mono ?_
    rintro e w3 ⟨ca, cc, cb, cd, rfl, od, oi, hb3⟩
    have hz3 := hb3.size
    have Y3 := Lib.hid (Y1.out.below hb3)
    have HB3 := Lib.hid (HB1.out.trans (hb3.mono (by omega)))
    have OD := Lib.hid od
    have OI := Lib.hid oi
    have hy3 := Y3.out.lt
    clear od oi hb3 c0 c1 c2 k0 k1 k2 f0 f1 f2
    go_wp2_with fail
    refine wp_named ?_
    intro W4 hW4
    have hb4 : Below w3.heap.size w3 W4 := by rw [hW4]; exact below_alloc _ _
    have t4 : Box3 W4 w3.heap.size 29 (.int .i64 m.size) (.slice ca m.doors.length cc) (.slice cb m.keys.length cd) := by rw [hW4]; exact Box3.new _ _ _ _ rfl
    clear hW4
    have hz4 := hb4.size
    have T4 := Lib.hid t4
    have HT4 := t4.lt
    have Y4 := Lib.hid (Y3.out.below hb4)
    have HB4 := Lib.hid (HB3.out.trans (hb4.mono (by omega)))
    have OD4 := Lib.hid (own_below OD.out hb4)
    have OI4 := Lib.hid (own_below OI.out hb4)
    have hdrew : W4.drew.heap.size = W4.heap.size := rfl
    obtain ⟨c0, c1, c2⟩ := t4.cells
    clear hb4 t4
    have eg : ∀ args w, (callFunc 69 args).run Try.prog w = .ok (.enter 69 args) w := enters_of Try.func69 (by kernel_rfl) rfl
    go_region_law (first
      | (refine step_append_own rfl (.tmp 18) (.tmp 23) 22 rfl w1.heap.size 59 i0 (.agg #[.int .i64 0, .int .i64 0, .int .i64 0]) 3 24 Try.underlying22 hi0 hz0 hz1 hz2 rfl (by decide) _ _ _ (o5.alloc _) (by simp [Act.eval, Act.put]) ⟨w5.heap.size, 0, none⟩ 1 1 (M.encD (M.doorOf x y n)) (by simp [Act.eval, Act.put]) (show (M.encD (M.doorOf x y n)).length = 1 * 3 from rfl) (news3 (Box3.new _ _ _ _ rfl)) (encD_one _) (by unfold maxLen; omega) (by omega) (by have := hb5'.size; simp; omega) ?_; intro v6 w6 hown6 hgrow6 hnil6; have bx6 := (t5.alloc _).grown hgrow6 (own_ne_box o5 t5 (by decide)); obtain ⟨va, vc, rfl, hv1, hv2, hv3⟩ := own_slice hown6; obtain ⟨c0, c1, c2⟩ := bx6.cells; obtain ⟨f0, f1, f2⟩ := bx6.free; have hl6 := bx6.lt)
      | (refine step_call (by rfl) 69 #[.int .i64 x, .int .i64 y, .int .i64 n] (by go_simp) (doorBetween_any x y n _) ?_; rintro e w5 ⟨rfl, hb5⟩; refine ⟨_, rfl, ?_⟩; have hb5' : Below W4.heap.size W4 w5 := (Below.refl W4.heap.size W4).drew.trans hb5; have t5 := T4.out.below hb5'; obtain ⟨c0, c1, c2⟩ := t5.cells; obtain ⟨f0, f1, f2⟩ := t5.free; have hl5 := t5.lt; have o5 := own_below OD4.out hb5'))
    all_goals
      have hz5 := hb5'.size
      have Y5 := Y4.out.below hb5'
      have Y6 := (Y5.alloc (.cells #[.int .i64 (M.doorOf x y n).1, .int .i64 (M.doorOf x y n).2.1, .int .i64 (M.doorOf x y n).2.2] 59)).grown hgrow6 (own_ne_box o5 Y5 (by decide))
      have O6 : w6.ownsRow w1.heap.size 59 3 (.slice va (m.doors.length + 1) vc) (m.doors.length + 1) (M.encDs (M.withDoor m x y n).doors) := by
        show w6.ownsRow _ _ _ _ _ (M.encDs (m.doors ++ [M.doorOf x y n]))
        rw [M.encDs_append, encDs_single]; exact hown6
      have oi5 := own_below OI4.out hb5'
      have I6 : w6.ownsRow w1.heap.size 3 1 (.slice cb m.keys.length cd) m.keys.length (M.encIs m.keys) := (oi5.alloc _).kept hgrow6 (own_ne_own2 o5 oi5 (by decide))
      have HB6 : Below w.heap.size w w6 := ((HB4.out.trans (hb5'.mono (by omega))).alloc (by omega) _).grown hgrow6 (by simp; omega) (fun g hg => by have := own_base o5 g hg; omega)
      have hyn : w.heap.size + 1 ≠ w3.heap.size := by omega
      have TT := Lib.hid (bx6.set1 (.slice va (m.doors.length + 1) vc))
      have YY := Lib.hid (Y6.other hyn 1 (.slice va (m.doors.length + 1) vc))
      have OO := Lib.hid (own_setBox O6 bx6 (by decide) 1 (.slice va (m.doors.length + 1) vc))
      have II := Lib.hid (own_setBox I6 bx6 (by decide) 1 (.slice va (m.doors.length + 1) vc))
      have BB := Lib.hid (HB6.setCell (p := ⟨w3.heap.size, 1, none⟩) (by show w.heap.size ≤ w3.heap.size; omega) (.slice va (m.doors.length + 1) vc))
      clear hown6 hgrow6 hnil6 bx6 Y5 Y6 O6 oi5 I6 HB6 t5 o5 hb5' hv3 c0 c1 c2 f0 f1 f2
      generalize w6.setCell ⟨w3.heap.size, 1, none⟩ (.slice va (m.doors.length + 1) vc) = W7 at TT YY OO II BB ⊢
      obtain ⟨c0, c1, c2⟩ := TT.out.cells
      obtain ⟨k0, k1, k2⟩ := YY.out.cells
      obtain ⟨f0, f1, f2⟩ := YY.out.free
      have hyl := YY.out.lt
      have e1 : (M.withDoor m x y n).doors.length = m.doors.length + 1 := by show (m.doors ++ [_]).length = _; simp
      have hmo : MzOwn w1.heap.size W7.heap.size W7 (M.withDoor m x y n) va vc cb cd := by
        obtain ⟨i1, i2, i3, i4, i5, i6⟩ := own_slice II.out
        injection i3 with j1 j2 j3
        subst j1; subst j3
        exact ⟨OwnAt.of_own OO.out, i6, by rw [e1]; exact hv1, hv2, i4, i5⟩
      have IN := inOrder_any W7 w1.heap.size W7.heap.size (M.withDoor m x y n) va cb vc cd hmo (Nat.le_refl _) (by rw [e1]; omega) (by show m.keys.length ≤ _; omega)
      rw [e1, show (M.withDoor m x y n).keys.length = m.keys.length from rfl, show (M.withDoor m x y n).size = m.size from rfl] at IN
      clear hmo e1
      go_wp2_with fail
      refine IN.mono ?_
      rintro e w8 ⟨ra, rc, rb, rd, rfl, ho, ht⟩
      have hz8 := ht.size
      have Y8 := YY.out.turned ht (.inl (by omega))
      have HO := Lib.hid ho
      have HT := Lib.hid ht
      have HBZ := BB.out.size
      clear IN ho ht c0 c1 c2 k0 k1 k2 f0 f1 f2
      obtain ⟨k0, k1, k2⟩ := Y8.cells
      obtain ⟨f0, f1, f2⟩ := Y8.free
      have hyl8 := Y8.lt
      clear Y8
      go_wp2_with fail
      refine bodyPost_ret (v := .tuple #[.agg #[.int .i64 (M.sortedV (M.withDoor m x y n)).size, .slice ra (M.sortedV (M.withDoor m x y n)).doors.length rc, .slice rb (M.sortedV (M.withDoor m x y n)).keys.length rd], .bool (M.sortedB (M.withDoor m x y n))]) (by simp [results, Try.results38, go_sem, k0, k1, k2]) rfl ?_
      rw [HF.out, HV.out]
      exact mzOk_end (Below.thenTurned BB.out HT.out (by omega) (by omega)) HO.out (by omega) (Nat.le_refl _)
end C
end Go.Proofs.Ytjbapfmplbphbaa
