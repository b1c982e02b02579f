/-
  PROVED: for every maze aM and every int aSet the law laws.FnExactCountFillings returns true, that is, impl.CountFillings answers as the model does; its arguments read afterwards as before. Conditions: none.
-/
import Derived.Test.YtddpjjdncmokmaaRows
import Derived.Test.YtddpjjdncmokmaaWAMem
import Derived.Test.YtddpjjdncmokmaaClo
import Derived.Test.YtddpjjdncmokmaaMaz2
import Derived.Test.YtddpjjdncmokmaaCntS
import Derived.WalkKit
import Derived.ProofKit
import Derived.JoinedOf
import Derived.OpenShut
import Derived.ShutString
import Derived.Deep.RegionWith
import Derived.Deep.DeepCutAuto
namespace Go.Proofs.Ytddpjjdncmokmaa.fnExactCountFillings
open Go.ChangeShapes Go.WideShapes Go.ChangeAt Go.RowKit
open Go.ChangeMaps (open_string shut_string)
set_option linter.unusedVariables false

set_option maxHeartbeats 4000000 in
set_option maxRecDepth 100000 in
theorem walk (w : World) (m0 : M.Mz) (a0 : Option Addr) (c0 : Nat) (b0 : Option Addr) (d0 : Nat) (w0 : C.MzIn 0 w.heap.size w m0 a0 c0 b0 d0) (a1 : Int) (w1 : (Lit.int .i64 a1).wf = true) :
    Calls Try.prog 7 #[(.agg #[.int .i64 m0.size, .slice a0 m0.doors.length c0, .slice b0 m0.keys.length d0]), .int .i64 a1] w fun e w' => e = .returned (.bool true) ∧ Below w.heap.size w w' := by
  have wd1 := Go.bounds_i64 w1
  have y0 := Nat.le_trans w0.c1 w0.c2
  have z0 := Nat.le_trans w0.d1 w0.d2
  have x0 := Lib.hid w0
  clear w0
  by_cases s0 : 1048576 < m0.doors.length + m0.keys.length
  · go_enter Try.func7, Try.ntmps7
    have bb_1 := Lib.hid (Below.refl w.heap.size w)
    go_wp2_with fail
    refine C.named ?_
    intro W0 hW0
    have kW0 : Below w.heap.size w W0 := by rw [hW0]; exact (by (repeat (first | exact Below.refl _ _ | (refine Below.alloc ?_ (by first | omega | (simp; done) | (simp; omega)) _))))
    have bx_2p : C.Box3 W0 (w.heap.size) 25 (.int .i64 m0.size) (.slice a0 m0.doors.length c0) (.slice b0 m0.keys.length d0) := by rw [hW0]; exact C.Box3.new _ _ _ _ (by simp)
    have bx_2q := bx_2p.lt
    have bx_2 := Lib.hid bx_2p
    clear bx_2p
    clear hW0
    have tt_3 := Lib.hid (C.Turned.of_below kW0 0 0)
    have zz_4 := tt_3.out.size
    have ff_5 := Lib.hid (x0.out.turned tt_3.out (by omega) (by omega))
    clear x0
    have bb_6 := Lib.hid (C.Below.far bb_1.out tt_3.out)
    clear tt_3 bb_1
    clear kW0
    refine (C.szMaze_any W0 m0 a0 b0 c0 d0 (1048576) (by omega) (by omega) (by omega) (by omega)).mono ?_
    rintro e W1 ⟨rfl, hb⟩
    have tt_7 := Lib.hid (C.Turned.of_below hb 0 0)
    have zz_8 := tt_7.out.size
    have ff_9 := Lib.hid (ff_5.out.turned tt_7.out (by omega) (by omega))
    clear ff_5
    have ff_10 := Lib.hid (bx_2.out.turned tt_7.out (by omega))
    clear bx_2
    have bb_11 := Lib.hid (C.Below.far bb_6.out tt_7.out)
    clear tt_7 bb_6
    clear hb
    rw [if_pos (by omega)]
    obtain ⟨cl_12, cl_13, cl_14⟩ := ff_10.out.cells
    have cq_15 := ff_10.out.lt
    go_wp2_with fail
    go_ret
    exact ⟨rfl, bb_11.out⟩
  go_enter Try.func7, Try.ntmps7
  have bb_1 := Lib.hid (Below.refl w.heap.size w)
  go_wp2_with fail
  refine C.named ?_
  intro W0 hW0
  have kW0 : Below w.heap.size w W0 := by rw [hW0]; exact (by (repeat (first | exact Below.refl _ _ | (refine Below.alloc ?_ (by first | omega | (simp; done) | (simp; omega)) _))))
  have bx_2p : C.Box3 W0 (w.heap.size) 25 (.int .i64 m0.size) (.slice a0 m0.doors.length c0) (.slice b0 m0.keys.length d0) := by rw [hW0]; exact C.Box3.new _ _ _ _ (by simp)
  have bx_2q := bx_2p.lt
  have bx_2 := Lib.hid bx_2p
  clear bx_2p
  clear hW0
  have tt_3 := Lib.hid (C.Turned.of_below kW0 0 0)
  have zz_4 := tt_3.out.size
  have ff_5 := Lib.hid (x0.out.turned tt_3.out (by omega) (by omega))
  clear x0
  have bb_6 := Lib.hid (C.Below.far bb_1.out tt_3.out)
  clear tt_3 bb_1
  clear kW0
  refine (C.szMaze_any W0 m0 a0 b0 c0 d0 (1048576) (by omega) (by omega) (by omega) (by omega)).mono ?_
  rintro e W1 ⟨rfl, hb⟩
  have tt_7 := Lib.hid (C.Turned.of_below hb 0 0)
  have zz_8 := tt_7.out.size
  have ff_9 := Lib.hid (ff_5.out.turned tt_7.out (by omega) (by omega))
  clear ff_5
  have ff_10 := Lib.hid (bx_2.out.turned tt_7.out (by omega))
  clear bx_2
  have bb_11 := Lib.hid (C.Below.far bb_6.out tt_7.out)
  clear tt_7 bb_6
  clear hb
  rw [if_neg (by omega)]
  obtain ⟨cl_12, cl_13, cl_14⟩ := ff_10.out.cells
  have cq_15 := ff_10.out.lt
  go_wp2_with fail
  refine (C.toMaze_any W1 0 w.heap.size m0 a0 b0 c0 d0 ff_9.out (by omega) (by omega) (by omega)).mono ?_
  rintro e W2 ⟨t_16, t_17, t_18, t_19, rfl, ho, hb⟩
  clear cl_12 cl_13 cl_14 cq_15
  have tt_20 := Lib.hid (C.Turned.of_below hb 0 0)
  have zz_21 := tt_20.out.size
  have ff_22 := Lib.hid (ff_9.out.turned tt_20.out (by omega) (by omega))
  clear ff_9
  have ff_23 := Lib.hid (ff_10.out.turned tt_20.out (by omega))
  clear ff_10
  have bb_24 := Lib.hid (C.Below.far bb_11.out tt_20.out)
  clear tt_20 bb_11
  clear hb
  have fo_25 := Lib.hid ho
  clear ho
  obtain ⟨cl_26, cl_27, cl_28⟩ := ff_23.out.cells
  have cq_29 := ff_23.out.lt
  go_wp2_with fail
  refine (C.specCount_lw W2 (W1.heap.size) (W2.heap.size) m0 t_16 t_18 t_17 t_19 fo_25.out.mz (by omega) (by omega) (by omega) a1 (by omega) (by omega)).mono ?_
  rintro e W3 ⟨rfl, hb⟩
  clear cl_26 cl_27 cl_28 cq_29
  have tt_30 := Lib.hid (C.Turned.of_below hb 0 0)
  have zz_31 := tt_30.out.size
  have ff_32 := Lib.hid (ff_22.out.turned tt_30.out (by omega) (by omega))
  clear ff_22
  have ff_33 := Lib.hid (fo_25.out.turned tt_30.out (by omega) (by omega))
  clear fo_25
  have ff_34 := Lib.hid (ff_23.out.turned tt_30.out (by omega))
  clear ff_23
  have bb_35 := Lib.hid (C.Below.far bb_24.out tt_30.out)
  clear tt_30 bb_24
  clear hb
  obtain ⟨cl_36, cl_37, cl_38⟩ := ff_34.out.cells
  have cq_39 := ff_34.out.lt
  clear ff_33
  go_wp2_with fail
  refine (C.toMaze_any W3 0 w.heap.size m0 a0 b0 c0 d0 ff_32.out (by omega) (by omega) (by omega)).mono ?_
  rintro e W4 ⟨t_40, t_41, t_42, t_43, rfl, ho, hb⟩
  clear cl_36 cl_37 cl_38 cq_39
  have tt_44 := Lib.hid (C.Turned.of_below hb 0 0)
  have zz_45 := tt_44.out.size
  have ff_46 := Lib.hid (ff_32.out.turned tt_44.out (by omega) (by omega))
  clear ff_32
  have ff_47 := Lib.hid (ff_34.out.turned tt_44.out (by omega))
  clear ff_34
  have bb_48 := Lib.hid (C.Below.far bb_35.out tt_44.out)
  clear tt_44 bb_35
  clear hb
  have fo_49 := Lib.hid ho
  clear ho
  obtain ⟨cl_50, cl_51, cl_52⟩ := ff_47.out.cells
  have cq_53 := ff_47.out.lt
  go_wp2_with fail
  refine C.named ?_
  intro W5 hW5
  have kW5 : Below W4.heap.size W4 W5 := by rw [hW5]; exact (by (repeat (first | exact Below.refl _ _ | (refine Below.alloc ?_ (by first | omega | (simp; done) | (simp; omega)) _))))
  have bx_54p : C.Box3 W5 (W4.heap.size) 27 (.int .i64 m0.size) (.slice t_40 m0.doors.length t_41) (.slice t_42 m0.keys.length t_43) := by rw [hW5]; exact C.Box3.new _ _ _ _ (by simp)
  have bx_54q := bx_54p.lt
  have bx_54 := Lib.hid bx_54p
  clear bx_54p
  clear hW5
  clear cl_50 cl_51 cl_52 cq_53
  have tt_55 := Lib.hid (C.Turned.of_below kW5 0 0)
  have zz_56 := tt_55.out.size
  have ff_57 := Lib.hid (ff_46.out.turned tt_55.out (by omega) (by omega))
  clear ff_46
  have ff_58 := Lib.hid (fo_49.out.turned tt_55.out (by omega) (by omega))
  clear fo_49
  have ff_59 := Lib.hid (ff_47.out.turned tt_55.out (by omega))
  clear ff_47
  have bb_60 := Lib.hid (C.Below.far bb_48.out tt_55.out)
  clear tt_55 bb_48
  clear kW5
  refine (C.implCount_lw W5 (W3.heap.size) (W4.heap.size) m0 t_40 t_42 t_41 t_43 ff_58.out.mz (by omega) (by omega) (by omega) a1 (by omega) (by omega)).mono ?_
  rintro e W6 ⟨rfl, hb⟩
  have tt_61 := Lib.hid (C.Turned.of_below hb 0 0)
  have zz_62 := tt_61.out.size
  have ff_63 := Lib.hid (ff_57.out.turned tt_61.out (by omega) (by omega))
  clear ff_57
  have ff_64 := Lib.hid (ff_58.out.turned tt_61.out (by omega) (by omega))
  clear ff_58
  have ff_65 := Lib.hid (ff_59.out.turned tt_61.out (by omega))
  clear ff_59
  have ff_66 := Lib.hid (bx_54.out.turned tt_61.out (by omega))
  clear bx_54
  have bb_67 := Lib.hid (C.Below.far bb_60.out tt_61.out)
  clear tt_61 bb_60
  clear hb
  obtain ⟨cl_68, cl_69, cl_70⟩ := ff_65.out.cells
  have cq_71 := ff_65.out.lt
  obtain ⟨cl_72, cl_73, cl_74⟩ := ff_66.out.cells
  have cq_75 := ff_66.out.lt
  go_upto_region 10 with fail
  go_cut [43] (fun sl wx => sl = .bool false ∧ Below W6.heap.size W6 wx)
  case first =>
    go_region_with (first | (go_at_call 17; refine (C.toMaze_any W6.drew 0 w.heap.size m0 a0 b0 c0 d0 (ff_63.out.turned (C.Turned.of_below (Below.refl W6.heap.size W6).drew 0 0) (by omega) (by omega)) (show w.heap.size ≤ W6.heap.size by omega) (by omega) (by omega)).mono ?_; rintro e w2 ⟨t_76, t_77, t_78, t_79, rfl, ho, hb⟩; have hbq : Below W6.heap.size W6 w2 := (Below.refl W6.heap.size W6).drew.trans hb; have hzq := hbq.size; obtain ⟨cm_80, cm_81, cm_82⟩ := (ff_65.out.turned (C.Turned.of_below hbq 0 0) (by omega)).cells; obtain ⟨cm_83, cm_84, cm_85⟩ := (ff_66.out.turned (C.Turned.of_below hbq 0 0) (by omega)).cells) | (go_at_call 20; refine (C.eqMaze_any w2 (W3.heap.size) (W4.heap.size) _ _ m0 _ _ _ _ _ _ _ _ (C.MzOwn.mz (C.MzOwn.turned ff_64.out (C.Turned.of_below hbq 0 0) (by omega) (by omega))) ho.mz (by omega) (Nat.le_refl _) (by omega) (by omega)).mono ?_; rintro e w3 ⟨rfl, hb3⟩))
    all_goals (go_wp2_with fail; go_meet; exact ⟨rfl, C.Below.more hbq hb3⟩)
  case rest =>
    obtain ⟨rfl, hb⟩ := hcut
    obtain ⟨W7, rfl⟩ : ∃ W, W = wc := ⟨_, rfl⟩
    clear cl_68 cl_69 cl_70 cq_71 cl_72 cl_73 cl_74 cq_75
    have tt_86 := Lib.hid (C.Turned.of_below hb 0 0)
    have zz_87 := tt_86.out.size
    have ff_88 := Lib.hid (ff_63.out.turned tt_86.out (by omega) (by omega))
    clear ff_63
    have ff_89 := Lib.hid (ff_64.out.turned tt_86.out (by omega) (by omega))
    clear ff_64
    have ff_90 := Lib.hid (ff_65.out.turned tt_86.out (by omega))
    clear ff_65
    have ff_91 := Lib.hid (ff_66.out.turned tt_86.out (by omega))
    clear ff_66
    have bb_92 := Lib.hid (C.Below.far bb_67.out tt_86.out)
    clear tt_86 bb_67
    clear hb
    obtain ⟨cl_93, cl_94, cl_95⟩ := ff_90.out.cells
    have cq_96 := ff_90.out.lt
    obtain ⟨cl_97, cl_98, cl_99⟩ := ff_91.out.cells
    have cq_100 := ff_91.out.lt
    go_wp2_with fail
    go_ret
    exact ⟨rfl, bb_92.out⟩


set_option maxRecDepth 100000 in
theorem lifted (os : Os) (started : os.Started) (H : Type) (enc : TypeId × Value → H) :
    ReturnsInHanded {} Try.checked os 7 .any (Rows.fnExactCountFillingsSpec.pre6 enc Try.prog Try.f7 Rows.fnExactCountFillingsRow.domain false) (Rows.fnExactCountFillingsSpec.post enc Try.prog Try.f7 false true false false) := by
  refine returnsInHanded_of_change (C := Try.checked) P.own started (by kernel_rfl) Try.func7
    (ChangeSpec.witness6 (enc := enc) (C := Try.checked) false ⟨#[], #[.agg #[.int .i64 0, .slice none 0 0, .slice none 0 0], .int .i64 0], []⟩ 8 (by kernel_rfl) (by kernel_rfl) (by kernel_rfl) (by kernel_rfl)) ?_
  intro W base args ds gs before hval0 hW hcnd _
  have hval : ∀ (j : Nat) t v, Try.f7.params[j]? = some t → args[j]? = some v → Value.okWide Try.prog W .any base t v := hval0
  have hW' := hW
  obtain ⟨p, q, hA0, hV, rfl, hfz, hnd⟩ := hW
  have hA : DataW.TrodAll enc Try.prog W 0 (fun _ => true) true Try.f7.params.toList args.toList ds p := hA0
  rw [Try.params7] at hA hval
  obtain ⟨v0, vs0, d0, ds0, p0, q0, hargs, rfl, rfl, h0, r0⟩ := trodAll_cons hA
  obtain ⟨v1, vs1, d1, ds1, p1, q1, rfl, rfl, rfl, h1, r1⟩ := trodAll_cons r0
  obtain ⟨rfl, rfl, rfl⟩ := trodAll_nil r1
  obtain rfl : args = #[v0, v1] := by cases args; simp_all
  obtain ⟨rfl, rfl⟩ := trodVars_none hV
  have k0 := h0
  have lt0 : ∀ x ∈ p0, x.block < W.heap.size := by obtain ⟨m, hm⟩ := k0; exact DataW.trod_lt m _ _ _ hm
  obtain ⟨m0, a0, c0, b0, e0, rfl, w0⟩ := C.open_maze (hval 0 25 v0 rfl rfl) h0
  obtain ⟨a1, rfl, rfl, rfl, w1⟩ := open_int Try.underlying3 (hval 1 3 v1 rfl rfl) h1
  clear hA0 hval0
  refine (walk W m0 a0 c0 b0 e0 w0 a1 w1).mono fun e W' ⟨he, hb⟩ => ?_
  subst he
  exact ⟨_, rfl, _, _, _, [], _, [], hW', trodAll_mk1 (shut_bool Try.underlying4 _), (trodAll_cons_mk (Below.trod P.laidOut (by kernel_rfl) (of_decide_eq_true (by kernel_rfl)) k0 hb lt0) (trodAll_cons_mk (shut_int Try.underlying3 w1) trodAll_mk0)), rfl, hb.frame _, fun h => by cases h⟩

theorem closed : joinedFacts Try.pinned.checked.prog 7 Try.f7 Rows.fnExactCountFillingsSpec Rows.fnExactCountFillingsRow = true := by
  show joinedFacts Try.prog 7 Try.f7 Rows.fnExactCountFillingsSpec Rows.fnExactCountFillingsRow = true
  unfold joinedFacts
  rw [P.cloEnter, P.cloMake, P.cloLift]
  kernel_rfl
theorem proved : Rows.FnExactCountFillingsSaid :=
  OpenClaim.holds_of_wide 7 Try.f7 rfl rfl rfl rfl rfl rfl rfl ⟨rfl, rfl, rfl, rfl, rfl⟩ rfl rfl rfl rfl rfl (by kernel_rfl) Try.func7 closed
    (of_decide_eq_true (by kernel_rfl)) (by unfold Func.isWrapper; first | (rw [if_pos (by decide +kernel)]; kernel_rfl) | (rw [if_neg (by decide +kernel)]; exact ⟨rfl, rfl⟩))
    (fun os started H enc _ => lifted os started H enc)
#print axioms proved
end Go.Proofs.Ytddpjjdncmokmaa.fnExactCountFillings
