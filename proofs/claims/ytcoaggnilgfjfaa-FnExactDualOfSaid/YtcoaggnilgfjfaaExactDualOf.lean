/-
  PROVED: for every list of ints aList the law laws.FnExactDualOf returns true, that is, impl.DualOf answers as the model does, in memory of its own at each call; its arguments read afterwards as before. Conditions: none.
-/
import Derived.Test.YtcoaggnilgfjfaaRows
import Derived.Test.YtcoaggnilgfjfaaSLaw
import Derived.Test.YtcoaggnilgfjfaaClo
import Derived.Test.YtcoaggnilgfjfaaCuI
import Derived.Test.YtcoaggnilgfjfaaCuS
import Derived.WalkKit
import Derived.ProofKit
import Derived.JoinedOf
import Derived.OpenShut
import Derived.ShutString
import Derived.Deep.RegionWith
import Derived.Deep.DeepCutAuto
namespace Go.Proofs.Ytcoaggnilgfjfaa.fnExactDualOf
open Go.ChangeShapes Go.WideShapes Go.ChangeAt Go.RowKit
open Go.ChangeMaps (open_string shut_string)
set_option linter.unusedVariables false

set_option maxHeartbeats 4000000 in
set_option maxRecDepth 100000 in
theorem walk (w : World) (a0 : Option Addr) (cap0 : Nat) (l0 : List Int) (w0 : C.RowIn 0 w.heap.size w a0 (M.encIs l0)) (u0 : l0.length ≤ cap0) (v0 : cap0 ≤ 9223372036854775807) (b0 : ∀ z ∈ l0, -9223372036854775808 ≤ z ∧ z ≤ 9223372036854775807) :
    Calls Try.prog 13 #[.slice a0 l0.length cap0] w fun e w' => e = .returned (.bool true) ∧ Below w.heap.size w w' := by
  have x0 := Lib.hid w0
  clear w0
  have B0 := Lib.hid b0
  clear b0
  by_cases s0 : 1048576 < l0.length
  · go_enter Try.func13, Try.ntmps13
    have bb_1 := Lib.hid (Below.refl w.heap.size w)
    go_wp2_with fail
    go_ret
    exact ⟨rfl, (by (repeat (first | exact Below.refl _ _ | (refine Below.alloc ?_ (by first | omega | (simp; done) | (simp; omega)) _))))⟩
  go_enter Try.func13, Try.ntmps13
  have bb_1 := Lib.hid (Below.refl w.heap.size w)
  have hbd : (M.dualV l0).length ≤ 1048576 := M.dualV_len _
  go_wp2_with fail
  refine (C.toInts_any w 0 w.heap.size a0 cap0 l0 x0.out (by omega) (by omega)).mono ?_
  rintro e W0 ⟨rfl, ho, hb⟩
  have tt_2 := Lib.hid (C.Turned.of_below hb 0 0)
  have zz_3 := tt_2.out.size
  have ff_4 := Lib.hid (x0.out.turned tt_2.out (by omega) (by omega))
  clear x0
  have bb_5 := Lib.hid (C.Below.far bb_1.out tt_2.out)
  clear tt_2 bb_1
  clear hb
  have fo_6 := Lib.hid ho
  clear ho
  go_wp2_with fail
  refine (C.specDu_lw W0 (w.heap.size) (W0.heap.size) (some ⟨w.heap.size, 0, none⟩) l0.length l0 fo_6.out.row (by omega) (by omega) (by omega) (by omega) B0.out).mono ?_
  rintro e W1 ⟨r_7, r_8, rfl, ho, hq1, hq2, hb⟩
  have tt_9 := Lib.hid (C.Turned.of_below hb 0 0)
  have zz_10 := tt_9.out.size
  have ff_11 := Lib.hid (ff_4.out.turned tt_9.out (by omega) (by omega))
  clear ff_4
  have ff_12 := Lib.hid (fo_6.out.turned tt_9.out (by omega) (by omega))
  clear fo_6
  have bb_13 := Lib.hid (C.Below.far bb_5.out tt_9.out)
  clear tt_9 bb_5
  clear hb
  have fo_14 := Lib.hid ho
  clear ho hq1 hq2
  clear ff_12
  go_wp2_with fail
  refine (C.toInts_any W1 0 w.heap.size a0 cap0 l0 ff_11.out (by omega) (by omega)).mono ?_
  rintro e W2 ⟨rfl, ho, hb⟩
  have tt_15 := Lib.hid (C.Turned.of_below hb 0 0)
  have zz_16 := tt_15.out.size
  have ff_17 := Lib.hid (ff_11.out.turned tt_15.out (by omega) (by omega))
  clear ff_11
  have ff_18 := Lib.hid (fo_14.out.turned tt_15.out (by omega) (by omega))
  clear fo_14
  have bb_19 := Lib.hid (C.Below.far bb_13.out tt_15.out)
  clear tt_15 bb_13
  clear hb
  have fo_20 := Lib.hid ho
  clear ho
  go_wp2_with fail
  refine (C.implDu_lw W2 (W1.heap.size) (W2.heap.size) (some ⟨W1.heap.size, 0, none⟩) l0.length l0 fo_20.out.row (by omega) (by omega) (by omega) (by omega) B0.out).mono ?_
  rintro e W3 ⟨r_21, r_22, rfl, ho, hq1, hq2, hb⟩
  have tt_23 := Lib.hid (C.Turned.of_below hb 0 0)
  have zz_24 := tt_23.out.size
  have ff_25 := Lib.hid (ff_17.out.turned tt_23.out (by omega) (by omega))
  clear ff_17
  have ff_26 := Lib.hid (ff_18.out.turned tt_23.out (by omega) (by omega))
  clear ff_18
  have ff_27 := Lib.hid (fo_20.out.turned tt_23.out (by omega) (by omega))
  clear fo_20
  have bb_28 := Lib.hid (C.Below.far bb_19.out tt_23.out)
  clear tt_23 bb_19
  clear hb
  have fo_29 := Lib.hid ho
  clear ho hq1 hq2
  go_wp2_with fail
  refine (C.eqInts_any W3 (W2.heap.size) (W3.heap.size) (W0.heap.size) (W1.heap.size) r_21 r_7 r_22 r_8 (M.dualV l0) (by omega) fo_29.out.row ff_26.out.row).mono ?_
  rintro e W4 ⟨rfl, nd_30, hW4⟩
  have hb : Below W3.heap.size W3 W4 := by rw [hW4]; exact C.below_drawn _ _
  clear hW4
  have tt_31 := Lib.hid (C.Turned.of_below hb 0 0)
  have zz_32 := tt_31.out.size
  have ff_33 := Lib.hid (ff_25.out.turned tt_31.out (by omega) (by omega))
  clear ff_25
  have ff_34 := Lib.hid (ff_26.out.turned tt_31.out (by omega) (by omega))
  clear ff_26
  have ff_35 := Lib.hid (ff_27.out.turned tt_31.out (by omega) (by omega))
  clear ff_27
  have ff_36 := Lib.hid (fo_29.out.turned tt_31.out (by omega) (by omega))
  clear fo_29
  have bb_37 := Lib.hid (C.Below.far bb_28.out tt_31.out)
  clear tt_31 bb_28
  clear hb
  go_wp2_with fail
  refine (C.toInts_any W4 0 w.heap.size a0 cap0 l0 ff_33.out (by omega) (by omega)).mono ?_
  rintro e W5 ⟨rfl, ho, hb⟩
  have tt_38 := Lib.hid (C.Turned.of_below hb 0 0)
  have zz_39 := tt_38.out.size
  have ff_40 := Lib.hid (ff_33.out.turned tt_38.out (by omega) (by omega))
  clear ff_33
  have ff_41 := Lib.hid (ff_34.out.turned tt_38.out (by omega) (by omega))
  clear ff_34
  have ff_42 := Lib.hid (ff_35.out.turned tt_38.out (by omega) (by omega))
  clear ff_35
  have ff_43 := Lib.hid (ff_36.out.turned tt_38.out (by omega) (by omega))
  clear ff_36
  have bb_44 := Lib.hid (C.Below.far bb_37.out tt_38.out)
  clear tt_38 bb_37
  clear hb
  have fo_45 := Lib.hid ho
  clear ho
  go_wp2_with fail
  refine (C.eqInts_any W5 (W1.heap.size) (W2.heap.size) (W4.heap.size) (W5.heap.size) (some ⟨W1.heap.size, 0, none⟩) (some ⟨W4.heap.size, 0, none⟩) l0.length l0.length l0 (by omega) ff_42.out.row fo_45.out.row).mono ?_
  rintro e W6 ⟨rfl, nd_46, hW6⟩
  have hb : Below W5.heap.size W5 W6 := by rw [hW6]; exact C.below_drawn _ _
  clear hW6
  have tt_47 := Lib.hid (C.Turned.of_below hb 0 0)
  have zz_48 := tt_47.out.size
  have ff_49 := Lib.hid (ff_40.out.turned tt_47.out (by omega) (by omega))
  clear ff_40
  have ff_50 := Lib.hid (ff_41.out.turned tt_47.out (by omega) (by omega))
  clear ff_41
  have ff_51 := Lib.hid (ff_42.out.turned tt_47.out (by omega) (by omega))
  clear ff_42
  have ff_52 := Lib.hid (ff_43.out.turned tt_47.out (by omega) (by omega))
  clear ff_43
  have ff_53 := Lib.hid (fo_45.out.turned tt_47.out (by omega) (by omega))
  clear fo_45
  have bb_54 := Lib.hid (C.Below.far bb_44.out tt_47.out)
  clear tt_47 bb_44
  clear hb
  clear ff_53
  go_wp2_with fail
  refine (C.markInts_any W6 (W1.heap.size) (W2.heap.size) (some ⟨W1.heap.size, 0, none⟩) l0.length l0.length (1) _ (M.encIs_len _) (by omega) (by omega) ff_51.out).mono ?_
  rintro e W7 ⟨rfl, hm, ht⟩
  have fm_55 := Lib.hid hm
  clear hm
  clear ff_51
  have tt_56 := Lib.hid (ht)
  have zz_57 := tt_56.out.size
  have ff_58 := Lib.hid (ff_49.out.turned tt_56.out (by omega) (by omega))
  clear ff_49
  have ff_59 := Lib.hid (ff_50.out.turned tt_56.out (by omega) (by omega))
  clear ff_50
  have ff_60 := Lib.hid (ff_52.out.turned tt_56.out (by omega) (by omega))
  clear ff_52
  have bb_61 := Lib.hid (C.Below.thenTurned bb_54.out tt_56.out (by omega) (by omega))
  clear tt_56 bb_54
  clear ht
  clear fm_55
  go_wp2_with fail
  refine (C.eqInts_any W7 (W2.heap.size) (W3.heap.size) (W0.heap.size) (W1.heap.size) r_21 r_7 r_22 r_8 (M.dualV l0) (by omega) ff_60.out.row ff_59.out.row).mono ?_
  rintro e W8 ⟨rfl, nd_62, hW8⟩
  have hb : Below W7.heap.size W7 W8 := by rw [hW8]; exact C.below_drawn _ _
  clear hW8
  have tt_63 := Lib.hid (C.Turned.of_below hb 0 0)
  have zz_64 := tt_63.out.size
  have ff_65 := Lib.hid (ff_58.out.turned tt_63.out (by omega) (by omega))
  clear ff_58
  have ff_66 := Lib.hid (ff_59.out.turned tt_63.out (by omega) (by omega))
  clear ff_59
  have ff_67 := Lib.hid (ff_60.out.turned tt_63.out (by omega) (by omega))
  clear ff_60
  have bb_68 := Lib.hid (C.Below.far bb_61.out tt_63.out)
  clear tt_63 bb_61
  clear hb
  go_wp2_with fail
  refine (C.markInts_any W8 (W2.heap.size) (W3.heap.size) r_21 r_22 (M.dualV l0).length (1) _ (M.encIs_len _) (by omega) (by omega) ff_67.out).mono ?_
  rintro e W9 ⟨rfl, hm, ht⟩
  have fm_69 := Lib.hid hm
  clear hm
  clear ff_67
  have tt_70 := Lib.hid (ht)
  have zz_71 := tt_70.out.size
  have ff_72 := Lib.hid (ff_65.out.turned tt_70.out (by omega) (by omega))
  clear ff_65
  have ff_73 := Lib.hid (ff_66.out.turned tt_70.out (by omega) (by omega))
  clear ff_66
  have bb_74 := Lib.hid (C.Below.thenTurned bb_68.out tt_70.out (by omega) (by omega))
  clear tt_70 bb_68
  clear ht
  go_wp2_with fail
  refine (C.heldInts_any W9 (W2.heap.size) (W3.heap.size) r_21 r_22 (M.dualV l0).length 1 (by omega) (by omega) fm_69.out.row).mono ?_
  rintro e W9 ⟨rfl, rfl⟩
  go_wp2_with fail
  refine (C.toInts_any W9 0 w.heap.size a0 cap0 l0 ff_72.out (by omega) (by omega)).mono ?_
  rintro e W11 ⟨rfl, ho, hb⟩
  have tt_75 := Lib.hid (C.Turned.of_below hb 0 0)
  have zz_76 := tt_75.out.size
  have ff_77 := Lib.hid (ff_72.out.turned tt_75.out (by omega) (by omega))
  clear ff_72
  have ff_78 := Lib.hid (ff_73.out.turned tt_75.out (by omega) (by omega))
  clear ff_73
  have ff_79 := Lib.hid (fm_69.out.turned tt_75.out (by omega) (by omega))
  clear fm_69
  have bb_80 := Lib.hid (C.Below.far bb_74.out tt_75.out)
  clear tt_75 bb_74
  clear hb
  have fo_81 := Lib.hid ho
  clear ho
  go_wp2_with fail
  refine (C.implDu_lw W11 (W9.heap.size) (W11.heap.size) (some ⟨W9.heap.size, 0, none⟩) l0.length l0 fo_81.out.row (by omega) (by omega) (by omega) (by omega) B0.out).mono ?_
  rintro e W12 ⟨r_82, r_83, rfl, ho, hq1, hq2, hb⟩
  have tt_84 := Lib.hid (C.Turned.of_below hb 0 0)
  have zz_85 := tt_84.out.size
  have ff_86 := Lib.hid (ff_77.out.turned tt_84.out (by omega) (by omega))
  clear ff_77
  have ff_87 := Lib.hid (ff_78.out.turned tt_84.out (by omega) (by omega))
  clear ff_78
  have ff_88 := Lib.hid (ff_79.out.turned tt_84.out (by omega) (by omega))
  clear ff_79
  have ff_89 := Lib.hid (fo_81.out.turned tt_84.out (by omega) (by omega))
  clear fo_81
  have bb_90 := Lib.hid (C.Below.far bb_80.out tt_84.out)
  clear tt_84 bb_80
  clear hb
  have fo_91 := Lib.hid ho
  clear ho hq1 hq2
  clear ff_89
  go_wp2_with fail
  refine (C.eqInts_any W12 (W11.heap.size) (W12.heap.size) (W0.heap.size) (W1.heap.size) r_82 r_7 r_83 r_8 (M.dualV l0) (by omega) fo_91.out.row ff_87.out.row).mono ?_
  rintro e W13 ⟨rfl, nd_92, hW13⟩
  have hb : Below W12.heap.size W12 W13 := by rw [hW13]; exact C.below_drawn _ _
  clear hW13
  have tt_93 := Lib.hid (C.Turned.of_below hb 0 0)
  have zz_94 := tt_93.out.size
  have ff_95 := Lib.hid (ff_86.out.turned tt_93.out (by omega) (by omega))
  clear ff_86
  have ff_96 := Lib.hid (ff_87.out.turned tt_93.out (by omega) (by omega))
  clear ff_87
  have ff_97 := Lib.hid (ff_88.out.turned tt_93.out (by omega) (by omega))
  clear ff_88
  have ff_98 := Lib.hid (fo_91.out.turned tt_93.out (by omega) (by omega))
  clear fo_91
  have bb_99 := Lib.hid (C.Below.far bb_90.out tt_93.out)
  clear tt_93 bb_90
  clear hb
  go_wp2_with fail
  refine (C.heldInts_any W13 (W2.heap.size) (W3.heap.size) r_21 r_22 (M.dualV l0).length 1 (by omega) (by omega) ff_97.out.row).mono ?_
  rintro e W13 ⟨rfl, rfl⟩
  go_wp2_with fail
  go_ret
  exact ⟨rfl, bb_99.out⟩


set_option maxRecDepth 100000 in
theorem lifted (os : Os) (started : os.Started) (H : Type) (enc : TypeId × Value → H) :
    ReturnsInHanded {} Try.checked os 13 .any (Rows.fnExactDualOfSpec.pre6 enc Try.prog Try.f13 Rows.fnExactDualOfRow.domain false) (Rows.fnExactDualOfSpec.post enc Try.prog Try.f13 false true false false) := by
  refine returnsInHanded_of_change (C := Try.checked) P.own started (by kernel_rfl) Try.func13
    (ChangeSpec.witness6 (enc := enc) (C := Try.checked) false ⟨#[], #[.slice none 0 0], []⟩ 8 (by kernel_rfl) (by kernel_rfl) (by kernel_rfl) (by kernel_rfl)) ?_
  intro W base args ds gs before hval0 hW hcnd _
  have hval : ∀ (j : Nat) t v, Try.f13.params[j]? = some t → args[j]? = some v → Value.okWide Try.prog W .any base t v := hval0
  have hW' := hW
  obtain ⟨p, q, hA0, hV, rfl, hfz, hnd⟩ := hW
  have hA : DataW.TrodAll enc Try.prog W 0 (fun _ => true) true Try.f13.params.toList args.toList ds p := hA0
  rw [Try.params13] at hA hval
  obtain ⟨v0, vs0, d0, ds0, p0, q0, hargs, rfl, rfl, h0, r0⟩ := trodAll_cons hA
  obtain ⟨rfl, rfl, rfl⟩ := trodAll_nil r0
  obtain rfl : args = #[v0] := by cases args; simp_all
  obtain ⟨rfl, rfl⟩ := trodVars_none hV
  have k0 := h0
  have lt0 : ∀ x ∈ p0, x.block < W.heap.size := by obtain ⟨m, hm⟩ := k0; exact DataW.trod_lt m _ _ _ hm
  obtain ⟨a0, len0, cap0, rfl⟩ := okWide_slice Try.underlying23 (hval 0 23 v0 rfl rfl)
  obtain ⟨l0, rfl, w0, u0, x0, y0⟩ : ∃ l : List Int, len0 = l.length ∧ C.RowIn 0 W.heap.size W a0 (M.encIs l) ∧ l.length ≤ cap0 ∧ cap0 ≤ maxLen ∧ ∀ z ∈ l, (Lit.int .i64 z).wf = true := by
    obtain ⟨fuel, hf⟩ := h0
    exact C.open_ints_at hf
  unfold maxLen at x0
  have b0 : ∀ z ∈ l0, -9223372036854775808 ≤ z ∧ z ≤ 9223372036854775807 := fun z hz => by have := Go.bounds_i64 (y0 z hz); omega
  clear hA0 hval0
  refine (walk W a0 cap0 l0 w0 u0 (by omega) b0).mono fun e W' ⟨he, hb⟩ => ?_
  subst he
  exact ⟨_, rfl, _, _, _, [], _, [], hW', trodAll_mk1 (shut_bool Try.underlying4 _), (trodAll_cons_mk (Below.trod P.laidOut (by kernel_rfl) (of_decide_eq_true (by kernel_rfl)) k0 hb lt0) trodAll_mk0), rfl, hb.frame _, fun h => by cases h⟩

theorem closed : joinedFacts Try.pinned.checked.prog 13 Try.f13 Rows.fnExactDualOfSpec Rows.fnExactDualOfRow = true := by
  show joinedFacts Try.prog 13 Try.f13 Rows.fnExactDualOfSpec Rows.fnExactDualOfRow = true
  unfold joinedFacts
  rw [P.cloEnter, P.cloMake, P.cloLift]
  kernel_rfl
theorem proved : Rows.FnExactDualOfSaid :=
  OpenClaim.holds_of_wide 13 Try.f13 rfl rfl rfl rfl rfl rfl rfl ⟨rfl, rfl, rfl, rfl, rfl⟩ rfl rfl rfl rfl rfl (by kernel_rfl) Try.func13 closed
    (of_decide_eq_true (by kernel_rfl)) (by unfold Func.isWrapper; first | (rw [if_pos (by decide +kernel)]; kernel_rfl) | (rw [if_neg (by decide +kernel)]; exact ⟨rfl, rfl⟩))
    (fun os started H enc _ => lifted os started H enc)
#print axioms proved
end Go.Proofs.Ytcoaggnilgfjfaa.fnExactDualOf
