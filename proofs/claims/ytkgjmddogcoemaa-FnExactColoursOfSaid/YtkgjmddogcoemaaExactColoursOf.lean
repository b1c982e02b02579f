/-
  PROVED: for every int aSet the law laws.FnExactColoursOf returns true, that is, impl.ColoursOf answers as the model does, in memory of its own at each call; its argument reads afterwards as before. Conditions: none.
-/
import Derived.Test.YtkgjmddogcoemaaRows
import Derived.Test.YtkgjmddogcoemaaOpen
import Derived.Test.YtkgjmddogcoemaaMaz2
import Derived.Test.YtkgjmddogcoemaaDigits
import Derived.WalkKit
import Derived.ProofKit
import Derived.OpenShut
import Derived.ShutString
import Derived.Deep.RegionWith
import Derived.Deep.DeepCutAuto
namespace Go.Proofs.Ytkgjmddogcoemaa.fnExactColoursOf
open Go.ChangeShapes Go.WideShapes Go.ChangeAt Go.RowKit
open Go.ChangeMaps (open_string shut_string)
set_option linter.unusedVariables false

set_option maxHeartbeats 4000000 in
set_option maxRecDepth 100000 in
theorem walk (w : World) (a0 : Int) (w0 : (Lit.int .i64 a0).wf = true) :
    Calls Try.prog 5 #[.int .i64 a0] w fun e w' => e = .returned (.bool true) ∧ Below w.heap.size w w' := by
  have wd0 := Go.bounds_i64 w0
  go_enter Try.func5, Try.ntmps5
  have bb_1 := Lib.hid (Below.refl w.heap.size w)
  have hbd : (M.colours a0).length ≤ 1048576 := C.colours_len _
  go_wp2_with fail
  refine (C.specColours_lw w a0 (by omega) (by omega)).mono ?_
  rintro e W0 ⟨r_2, r_3, rfl, ho, hq1, hq2, hb⟩
  have tt_4 := Lib.hid (C.Turned.of_below hb 0 0)
  have zz_5 := tt_4.out.size
  have bb_6 := Lib.hid (C.Below.far bb_1.out tt_4.out)
  clear tt_4 bb_1
  clear hb
  have fo_7 := Lib.hid ho
  clear ho hq1 hq2
  go_wp2_with fail
  refine (C.implColours_lw W0 a0 (by omega) (by omega)).mono ?_
  rintro e W1 ⟨r_8, r_9, rfl, ho, hq1, hq2, hb⟩
  have tt_10 := Lib.hid (C.Turned.of_below hb 0 0)
  have zz_11 := tt_10.out.size
  have ff_12 := Lib.hid (fo_7.out.turned tt_10.out (by omega) (by omega))
  clear fo_7
  have bb_13 := Lib.hid (C.Below.far bb_6.out tt_10.out)
  clear tt_10 bb_6
  clear hb
  have fo_14 := Lib.hid ho
  clear ho hq1 hq2
  go_wp2_with fail
  refine (C.eqInts_any W1 (W0.heap.size) (W1.heap.size) (w.heap.size) (W0.heap.size) r_8 r_2 r_9 r_3 (M.colours a0) (by omega) fo_14.out.row ff_12.out.row).mono ?_
  rintro e W2 ⟨rfl, nd_15, hW2⟩
  have hb : Below W1.heap.size W1 W2 := by rw [hW2]; exact C.below_drawn _ _
  clear hW2
  have tt_16 := Lib.hid (C.Turned.of_below hb 0 0)
  have zz_17 := tt_16.out.size
  have ff_18 := Lib.hid (ff_12.out.turned tt_16.out (by omega) (by omega))
  clear ff_12
  have ff_19 := Lib.hid (fo_14.out.turned tt_16.out (by omega) (by omega))
  clear fo_14
  have bb_20 := Lib.hid (C.Below.far bb_13.out tt_16.out)
  clear tt_16 bb_13
  clear hb
  go_wp2_with fail
  refine (C.markInts_any W2 (W0.heap.size) (W1.heap.size) r_8 r_9 (M.colours a0).length (1) _ (M.encIs_len _) (by omega) (by omega) ff_19.out).mono ?_
  rintro e W3 ⟨rfl, hm, ht⟩
  have fm_21 := Lib.hid hm
  clear hm
  clear ff_19
  have tt_22 := Lib.hid (ht)
  have zz_23 := tt_22.out.size
  have ff_24 := Lib.hid (ff_18.out.turned tt_22.out (by omega) (by omega))
  clear ff_18
  have bb_25 := Lib.hid (C.Below.thenTurned bb_20.out tt_22.out (by omega) (by omega))
  clear tt_22 bb_20
  clear ht
  go_wp2_with fail
  refine (C.heldInts_any W3 (W0.heap.size) (W1.heap.size) r_8 r_9 (M.colours a0).length 1 (by omega) (by omega) fm_21.out.row).mono ?_
  rintro e W3 ⟨rfl, rfl⟩
  go_wp2_with fail
  refine (C.implColours_lw W3 a0 (by omega) (by omega)).mono ?_
  rintro e W5 ⟨r_26, r_27, rfl, ho, hq1, hq2, hb⟩
  have tt_28 := Lib.hid (C.Turned.of_below hb 0 0)
  have zz_29 := tt_28.out.size
  have ff_30 := Lib.hid (ff_24.out.turned tt_28.out (by omega) (by omega))
  clear ff_24
  have ff_31 := Lib.hid (fm_21.out.turned tt_28.out (by omega) (by omega))
  clear fm_21
  have bb_32 := Lib.hid (C.Below.far bb_25.out tt_28.out)
  clear tt_28 bb_25
  clear hb
  have fo_33 := Lib.hid ho
  clear ho hq1 hq2
  go_wp2_with fail
  refine (C.eqInts_any W5 (W3.heap.size) (W5.heap.size) (w.heap.size) (W0.heap.size) r_26 r_2 r_27 r_3 (M.colours a0) (by omega) fo_33.out.row ff_30.out.row).mono ?_
  rintro e W6 ⟨rfl, nd_34, hW6⟩
  have hb : Below W5.heap.size W5 W6 := by rw [hW6]; exact C.below_drawn _ _
  clear hW6
  have tt_35 := Lib.hid (C.Turned.of_below hb 0 0)
  have zz_36 := tt_35.out.size
  have ff_37 := Lib.hid (ff_30.out.turned tt_35.out (by omega) (by omega))
  clear ff_30
  have ff_38 := Lib.hid (ff_31.out.turned tt_35.out (by omega) (by omega))
  clear ff_31
  have ff_39 := Lib.hid (fo_33.out.turned tt_35.out (by omega) (by omega))
  clear fo_33
  have bb_40 := Lib.hid (C.Below.far bb_32.out tt_35.out)
  clear tt_35 bb_32
  clear hb
  go_wp2_with fail
  refine (C.heldInts_any W6 (W0.heap.size) (W1.heap.size) r_8 r_9 (M.colours a0).length 1 (by omega) (by omega) ff_38.out.row).mono ?_
  rintro e W6 ⟨rfl, rfl⟩
  go_wp2_with fail
  go_ret
  exact ⟨rfl, bb_40.out⟩


set_option maxRecDepth 100000 in
theorem lifted (os : Os) (started : os.Started) (H : Type) (enc : TypeId × Value → H) :
    ReturnsInHanded {} Try.checked os 5 .any (Rows.fnExactColoursOfSpec.pre6 enc Try.prog Try.f5 Rows.fnExactColoursOfRow.domain false) (Rows.fnExactColoursOfSpec.post enc Try.prog Try.f5 false true false false) := by
  refine returnsInHanded_of_change (C := Try.checked) P.own started (by kernel_rfl) Try.func5
    (ChangeSpec.witness6 (enc := enc) (C := Try.checked) false ⟨#[], #[.int .i64 0], []⟩ 8 (by kernel_rfl) (by kernel_rfl) (by kernel_rfl) (by kernel_rfl)) ?_
  intro W base args ds gs before hval0 hW hcnd _
  have hval : ∀ (j : Nat) t v, Try.f5.params[j]? = some t → args[j]? = some v → Value.okWide Try.prog W .any base t v := hval0
  have hW' := hW
  obtain ⟨p, q, hA0, hV, rfl, hfz, hnd⟩ := hW
  have hA : DataW.TrodAll enc Try.prog W 0 (fun _ => true) true Try.f5.params.toList args.toList ds p := hA0
  rw [Try.params5] at hA hval
  obtain ⟨v0, vs0, d0, ds0, p0, q0, hargs, rfl, rfl, h0, r0⟩ := trodAll_cons hA
  obtain ⟨rfl, rfl, rfl⟩ := trodAll_nil r0
  obtain rfl : args = #[v0] := by cases args; simp_all
  obtain ⟨rfl, rfl⟩ := trodVars_none hV
  obtain ⟨a0, rfl, rfl, rfl, w0⟩ := open_int Try.underlying3 (hval 0 3 v0 rfl rfl) h0
  clear hA0 hval0
  simp only [List.append_nil] at hW'
  refine (walk W a0 w0).mono fun e W' ⟨he, hb⟩ => ?_
  subst he
  exact ⟨_, rfl, P.post_of_below (pa := []) (pv := []) hW' (fun _ _ _ => trodAll_mk1 (shut_bool Try.underlying4 _)) (fun sp _ => (trodAll_cons_mk (shut_int Try.underlying3 w0) trodAll_mk0)) (fun _ _ => rfl) rfl hb (ok_one (by kernel_rfl) rfl (okWide_bool_mk Try.underlying4 _))⟩

theorem proved : Rows.FnExactColoursOfSaid :=
  OpenClaim.holds_of_wide 5 Try.f5 rfl rfl rfl rfl rfl rfl rfl ⟨rfl, rfl, rfl, rfl, rfl⟩ rfl rfl rfl rfl rfl (by kernel_rfl) Try.func5 (by kernel_rfl)
    (of_decide_eq_true (by kernel_rfl)) (by unfold Func.isWrapper; first | (rw [if_pos (by decide +kernel)]; kernel_rfl) | (rw [if_neg (by decide +kernel)]; exact ⟨rfl, rfl⟩))
    (fun os started H enc _ => lifted os started H enc)
#print axioms proved
end Go.Proofs.Ytkgjmddogcoemaa.fnExactColoursOf
