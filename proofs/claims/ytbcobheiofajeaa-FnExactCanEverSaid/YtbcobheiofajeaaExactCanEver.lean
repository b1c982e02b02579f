/-
  PROVED: for all worlds aW and every int aI the law laws.FnExactCanEver returns true, that is, impl.CanEver answers as the model does; its arguments read afterwards as before. Conditions: none.
-/
import Derived.Test.YtbcobheiofajeaaRows
import Derived.Test.YtbcobheiofajeaaWAMem
import Derived.Test.YtbcobheiofajeaaClo
import Derived.Test.YtbcobheiofajeaaWlM
import Derived.Test.YtbcobheiofajeaaWrdC
import Derived.Test.YtbcobheiofajeaaWrdE
import Derived.WalkKit
import Derived.ProofKit
import Derived.JoinedOf
import Derived.OpenShut
import Derived.ShutString
import Derived.Deep.RegionWith
import Derived.Deep.DeepCutAuto
namespace Go.Proofs.Ytbcobheiofajeaa.fnExactCanEver
open Go.ChangeShapes Go.WideShapes Go.ChangeAt Go.RowKit
open Go.ChangeMaps (open_string shut_string)
set_option linter.unusedVariables false

set_option maxHeartbeats 4000000 in
set_option maxRecDepth 100000 in
theorem walk (w : World) (m0 : M.Wl) (a0 : Option Addr) (c0 : Nat) (b0 : Option Addr) (d0 : Nat) (w0 : C.WlIn 0 w.heap.size w m0 a0 c0 b0 d0) (a1 : Int) (w1 : (Lit.int .i64 a1).wf = true) :
    Calls Try.prog 10 #[(.agg #[.slice a0 m0.mazes.length c0, .slice b0 m0.owners.length d0]), .int .i64 a1] w fun e w' => e = .returned (.bool true) ∧ Below w.heap.size w w' := by
  have wd1 := Go.bounds_i64 w1
  have mw0 := M.mkW_le m0
  have y0 := Nat.le_trans w0.c1 w0.c2
  have z0 := Nat.le_trans w0.d1 w0.d2
  have x0 := Lib.hid w0
  clear w0
  by_cases s0 : 1048576 < M.szW m0
  · go_enter Try.func10, Try.ntmps10
    have bb_1 := Lib.hid (Below.refl w.heap.size w)
    go_wp2_with fail
    refine C.named ?_
    intro W0 hW0
    have kW0 : Below w.heap.size w W0 := by rw [hW0]; exact (by (repeat (first | exact Below.refl _ _ | (refine Below.alloc ?_ (by first | omega | (simp; done) | (simp; omega)) _))))
    have bx_2p : C.Box2 W0 (w.heap.size) 25 (.slice a0 m0.mazes.length c0) (.slice b0 m0.owners.length d0) := by rw [hW0]; exact C.Box2.new _ _ _ (by simp)
    have bx_2q := bx_2p.lt
    have bx_2 := Lib.hid bx_2p
    clear bx_2p
    clear hW0
    have tt_3 := Lib.hid (C.Turned.of_below kW0 0 0)
    have zz_4 := tt_3.out.size
    have ff_5 := Lib.hid (x0.out.turned tt_3.out (by omega) (by omega))
    clear x0
    have bb_6 := Lib.hid (C.Below.far bb_1.out tt_3.out)
    clear tt_3 bb_1
    clear kW0
    refine (C.szWorlds_any W0 0 w.heap.size m0 a0 b0 c0 d0 ff_5.out (by omega) (1048576) (by omega) (by omega)).mono ?_
    rintro e W1 ⟨rfl, hb⟩
    have tt_7 := Lib.hid (C.Turned.of_below hb 0 0)
    have zz_8 := tt_7.out.size
    have ff_9 := Lib.hid (ff_5.out.turned tt_7.out (by omega) (by omega))
    clear ff_5
    have ff_10 := Lib.hid (bx_2.out.turned tt_7.out (by omega))
    clear bx_2
    have bb_11 := Lib.hid (C.Below.far bb_6.out tt_7.out)
    clear tt_7 bb_6
    clear hb
    rw [if_pos (by omega)]
    obtain ⟨cl_12, cl_13⟩ := ff_10.out.cells
    have cq_14 := ff_10.out.lt
    go_wp2_with fail
    go_ret
    exact ⟨rfl, bb_11.out⟩
  go_enter Try.func10, Try.ntmps10
  have bb_1 := Lib.hid (Below.refl w.heap.size w)
  go_wp2_with fail
  refine C.named ?_
  intro W0 hW0
  have kW0 : Below w.heap.size w W0 := by rw [hW0]; exact (by (repeat (first | exact Below.refl _ _ | (refine Below.alloc ?_ (by first | omega | (simp; done) | (simp; omega)) _))))
  have bx_2p : C.Box2 W0 (w.heap.size) 25 (.slice a0 m0.mazes.length c0) (.slice b0 m0.owners.length d0) := by rw [hW0]; exact C.Box2.new _ _ _ (by simp)
  have bx_2q := bx_2p.lt
  have bx_2 := Lib.hid bx_2p
  clear bx_2p
  clear hW0
  have tt_3 := Lib.hid (C.Turned.of_below kW0 0 0)
  have zz_4 := tt_3.out.size
  have ff_5 := Lib.hid (x0.out.turned tt_3.out (by omega) (by omega))
  clear x0
  have bb_6 := Lib.hid (C.Below.far bb_1.out tt_3.out)
  clear tt_3 bb_1
  clear kW0
  refine (C.szWorlds_any W0 0 w.heap.size m0 a0 b0 c0 d0 ff_5.out (by omega) (1048576) (by omega) (by omega)).mono ?_
  rintro e W1 ⟨rfl, hb⟩
  have tt_7 := Lib.hid (C.Turned.of_below hb 0 0)
  have zz_8 := tt_7.out.size
  have ff_9 := Lib.hid (ff_5.out.turned tt_7.out (by omega) (by omega))
  clear ff_5
  have ff_10 := Lib.hid (bx_2.out.turned tt_7.out (by omega))
  clear bx_2
  have bb_11 := Lib.hid (C.Below.far bb_6.out tt_7.out)
  clear tt_7 bb_6
  clear hb
  rw [if_neg (by omega)]
  obtain ⟨cl_12, cl_13⟩ := ff_10.out.cells
  have cq_14 := ff_10.out.lt
  go_wp2_with fail
  refine (C.toWorlds_any W1 0 w.heap.size m0 a0 b0 c0 d0 ff_9.out (by omega) (by omega)).mono ?_
  rintro e W2 ⟨t_15, t_16, t_17, t_18, rfl, ho, hb⟩
  clear cl_12 cl_13 cq_14
  have tt_19 := Lib.hid (C.Turned.of_below hb 0 0)
  have zz_20 := tt_19.out.size
  have ff_21 := Lib.hid (ff_9.out.turned tt_19.out (by omega) (by omega))
  clear ff_9
  have ff_22 := Lib.hid (ff_10.out.turned tt_19.out (by omega))
  clear ff_10
  have bb_23 := Lib.hid (C.Below.far bb_11.out tt_19.out)
  clear tt_19 bb_11
  clear hb
  have fo_24 := Lib.hid ho
  clear ho
  obtain ⟨cl_25, cl_26⟩ := ff_22.out.cells
  have cq_27 := ff_22.out.lt
  go_wp2_with fail
  refine (C.specCan_lw W2 (W1.heap.size) (W2.heap.size) m0 t_15 t_17 t_16 t_18 fo_24.out.mz (by omega) (by omega) a1 (by omega) (by omega)).mono ?_
  rintro e W3 ⟨rfl, hb⟩
  clear cl_25 cl_26 cq_27
  have tt_28 := Lib.hid (C.Turned.of_below hb 0 0)
  have zz_29 := tt_28.out.size
  have ff_30 := Lib.hid (ff_21.out.turned tt_28.out (by omega) (by omega))
  clear ff_21
  have ff_31 := Lib.hid (fo_24.out.turned tt_28.out (by omega) (by omega))
  clear fo_24
  have ff_32 := Lib.hid (ff_22.out.turned tt_28.out (by omega))
  clear ff_22
  have bb_33 := Lib.hid (C.Below.far bb_23.out tt_28.out)
  clear tt_28 bb_23
  clear hb
  obtain ⟨cl_34, cl_35⟩ := ff_32.out.cells
  have cq_36 := ff_32.out.lt
  clear ff_31
  go_wp2_with fail
  refine (C.toWorlds_any W3 0 w.heap.size m0 a0 b0 c0 d0 ff_30.out (by omega) (by omega)).mono ?_
  rintro e W4 ⟨t_37, t_38, t_39, t_40, rfl, ho, hb⟩
  clear cl_34 cl_35 cq_36
  have tt_41 := Lib.hid (C.Turned.of_below hb 0 0)
  have zz_42 := tt_41.out.size
  have ff_43 := Lib.hid (ff_30.out.turned tt_41.out (by omega) (by omega))
  clear ff_30
  have ff_44 := Lib.hid (ff_32.out.turned tt_41.out (by omega))
  clear ff_32
  have bb_45 := Lib.hid (C.Below.far bb_33.out tt_41.out)
  clear tt_41 bb_33
  clear hb
  have fo_46 := Lib.hid ho
  clear ho
  obtain ⟨cl_47, cl_48⟩ := ff_44.out.cells
  have cq_49 := ff_44.out.lt
  go_wp2_with fail
  refine C.named ?_
  intro W5 hW5
  have kW5 : Below W4.heap.size W4 W5 := by rw [hW5]; exact (by (repeat (first | exact Below.refl _ _ | (refine Below.alloc ?_ (by first | omega | (simp; done) | (simp; omega)) _))))
  have bx_50p : C.Box2 W5 (W4.heap.size) 30 (.slice t_37 m0.mazes.length t_38) (.slice t_39 m0.owners.length t_40) := by rw [hW5]; exact C.Box2.new _ _ _ (by simp)
  have bx_50q := bx_50p.lt
  have bx_50 := Lib.hid bx_50p
  clear bx_50p
  clear hW5
  clear cl_47 cl_48 cq_49
  have tt_51 := Lib.hid (C.Turned.of_below kW5 0 0)
  have zz_52 := tt_51.out.size
  have ff_53 := Lib.hid (ff_43.out.turned tt_51.out (by omega) (by omega))
  clear ff_43
  have ff_54 := Lib.hid (fo_46.out.turned tt_51.out (by omega) (by omega))
  clear fo_46
  have ff_55 := Lib.hid (ff_44.out.turned tt_51.out (by omega))
  clear ff_44
  have bb_56 := Lib.hid (C.Below.far bb_45.out tt_51.out)
  clear tt_51 bb_45
  clear kW5
  refine (C.implCan_lw W5 (W3.heap.size) (W4.heap.size) m0 t_37 t_39 t_38 t_40 ff_54.out.mz (by omega) (by omega) a1 (by omega) (by omega)).mono ?_
  rintro e W6 ⟨rfl, hb⟩
  have tt_57 := Lib.hid (C.Turned.of_below hb 0 0)
  have zz_58 := tt_57.out.size
  have ff_59 := Lib.hid (ff_53.out.turned tt_57.out (by omega) (by omega))
  clear ff_53
  have ff_60 := Lib.hid (ff_54.out.turned tt_57.out (by omega) (by omega))
  clear ff_54
  have ff_61 := Lib.hid (ff_55.out.turned tt_57.out (by omega))
  clear ff_55
  have ff_62 := Lib.hid (bx_50.out.turned tt_57.out (by omega))
  clear bx_50
  have bb_63 := Lib.hid (C.Below.far bb_56.out tt_57.out)
  clear tt_57 bb_56
  clear hb
  obtain ⟨cl_64, cl_65⟩ := ff_61.out.cells
  have cq_66 := ff_61.out.lt
  obtain ⟨cl_67, cl_68⟩ := ff_62.out.cells
  have cq_69 := ff_62.out.lt
  go_upto_region 10 with fail
  go_cut [43] (fun sl wx => sl = .bool false ∧ Below W6.heap.size W6 wx)
  case first =>
    go_region_with (first | (go_at_call 17; refine (C.toWorlds_any W6.drew 0 w.heap.size m0 a0 b0 c0 d0 (ff_59.out.turned (C.Turned.of_below (Below.refl W6.heap.size W6).drew 0 0) (by omega) (by omega)) (show w.heap.size ≤ W6.heap.size by omega) (by omega)).mono ?_; rintro e w2 ⟨t_70, t_71, t_72, t_73, rfl, ho, hb⟩; have hbq : Below W6.heap.size W6 w2 := (Below.refl W6.heap.size W6).drew.trans hb; have hzq := hbq.size; obtain ⟨cm_74, cm_75⟩ := (ff_61.out.turned (C.Turned.of_below hbq 0 0) (by omega)).cells; obtain ⟨cm_76, cm_77⟩ := (ff_62.out.turned (C.Turned.of_below hbq 0 0) (by omega)).cells) | (go_at_call 19; refine (C.eqWorlds_any w2 (W3.heap.size) (W4.heap.size) _ _ m0 _ _ _ _ _ _ _ _ (C.WlOwn.mz (C.WlOwn.turned ff_60.out (C.Turned.of_below hbq 0 0) (by omega) (by omega))) ho.mz (by omega) (Nat.le_refl _) (by omega)).mono ?_; rintro e w3 ⟨rfl, hb3⟩))
    all_goals (go_wp2_with fail; go_meet; exact ⟨rfl, C.Below.more hbq hb3⟩)
  case rest =>
    obtain ⟨rfl, hb⟩ := hcut
    obtain ⟨W7, rfl⟩ : ∃ W, W = wc := ⟨_, rfl⟩
    clear cl_64 cl_65 cq_66 cl_67 cl_68 cq_69
    have tt_78 := Lib.hid (C.Turned.of_below hb 0 0)
    have zz_79 := tt_78.out.size
    have ff_80 := Lib.hid (ff_59.out.turned tt_78.out (by omega) (by omega))
    clear ff_59
    have ff_81 := Lib.hid (ff_60.out.turned tt_78.out (by omega) (by omega))
    clear ff_60
    have ff_82 := Lib.hid (ff_61.out.turned tt_78.out (by omega))
    clear ff_61
    have ff_83 := Lib.hid (ff_62.out.turned tt_78.out (by omega))
    clear ff_62
    have bb_84 := Lib.hid (C.Below.far bb_63.out tt_78.out)
    clear tt_78 bb_63
    clear hb
    obtain ⟨cl_85, cl_86⟩ := ff_82.out.cells
    have cq_87 := ff_82.out.lt
    obtain ⟨cl_88, cl_89⟩ := ff_83.out.cells
    have cq_90 := ff_83.out.lt
    go_wp2_with fail
    go_ret
    exact ⟨rfl, bb_84.out⟩


set_option maxRecDepth 100000 in
theorem lifted (os : Os) (started : os.Started) (H : Type) (enc : TypeId × Value → H) :
    ReturnsInHanded {} Try.checked os 10 .any (Rows.fnExactCanEverSpec.pre6 enc Try.prog Try.f10 Rows.fnExactCanEverRow.domain false) (Rows.fnExactCanEverSpec.post enc Try.prog Try.f10 false true false false) := by
  refine returnsInHanded_of_change (C := Try.checked) P.own started (by kernel_rfl) Try.func10
    (ChangeSpec.witness6 (enc := enc) (C := Try.checked) false ⟨#[], #[.agg #[.slice none 0 0, .slice none 0 0], .int .i64 0], []⟩ 8 (by kernel_rfl) (by kernel_rfl) (by kernel_rfl) (by kernel_rfl)) ?_
  intro W base args ds gs before hval0 hW hcnd _
  have hval : ∀ (j : Nat) t v, Try.f10.params[j]? = some t → args[j]? = some v → Value.okWide Try.prog W .any base t v := hval0
  have hW' := hW
  obtain ⟨p, q, hA0, hV, rfl, hfz, hnd⟩ := hW
  have hA : DataW.TrodAll enc Try.prog W 0 (fun _ => true) true Try.f10.params.toList args.toList ds p := hA0
  rw [Try.params10] at hA hval
  obtain ⟨v0, vs0, d0, ds0, p0, q0, hargs, rfl, rfl, h0, r0⟩ := trodAll_cons hA
  obtain ⟨v1, vs1, d1, ds1, p1, q1, rfl, rfl, rfl, h1, r1⟩ := trodAll_cons r0
  obtain ⟨rfl, rfl, rfl⟩ := trodAll_nil r1
  obtain rfl : args = #[v0, v1] := by cases args; simp_all
  obtain ⟨rfl, rfl⟩ := trodVars_none hV
  have k0 := h0
  have lt0 : ∀ x ∈ p0, x.block < W.heap.size := by obtain ⟨m, hm⟩ := k0; exact DataW.trod_lt m _ _ _ hm
  obtain ⟨m0, a0, c0, b0, e0, rfl, w0⟩ := C.open_worlds (hval 0 25 v0 rfl rfl) h0
  obtain ⟨a1, rfl, rfl, rfl, w1⟩ := open_int Try.underlying3 (hval 1 3 v1 rfl rfl) h1
  clear hA0 hval0
  refine (walk W m0 a0 c0 b0 e0 w0 a1 w1).mono fun e W' ⟨he, hb⟩ => ?_
  subst he
  exact ⟨_, rfl, _, _, _, [], _, [], hW', trodAll_mk1 (shut_bool Try.underlying4 _), (trodAll_cons_mk (Below.trod P.laidOut (by kernel_rfl) (of_decide_eq_true (by kernel_rfl)) k0 hb lt0) (trodAll_cons_mk (shut_int Try.underlying3 w1) trodAll_mk0)), rfl, hb.frame _, fun h => by cases h⟩

theorem closed : joinedFacts Try.pinned.checked.prog 10 Try.f10 Rows.fnExactCanEverSpec Rows.fnExactCanEverRow = true := by
  show joinedFacts Try.prog 10 Try.f10 Rows.fnExactCanEverSpec Rows.fnExactCanEverRow = true
  unfold joinedFacts
  rw [P.cloEnter, P.cloMake, P.cloLift]
  kernel_rfl
theorem proved : Rows.FnExactCanEverSaid :=
  OpenClaim.holds_of_wide 10 Try.f10 rfl rfl rfl rfl rfl rfl rfl ⟨rfl, rfl, rfl, rfl, rfl⟩ rfl rfl rfl rfl rfl (by kernel_rfl) Try.func10 closed
    (of_decide_eq_true (by kernel_rfl)) (by unfold Func.isWrapper; first | (rw [if_pos (by decide +kernel)]; kernel_rfl) | (rw [if_neg (by decide +kernel)]; exact ⟨rfl, rfl⟩))
    (fun os started H enc _ => lifted os started H enc)
#print axioms proved
end Go.Proofs.Ytbcobheiofajeaa.fnExactCanEver
