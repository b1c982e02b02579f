/-
  PROVED: for every list of ints aList the law laws.FnExactIsClutter returns true, that is, impl.IsClutter answers as the model does; its arguments read afterwards as before. Conditions: none.
-/
import Derived.Test.YtcoaggnilgfjfaaRows
import Derived.Test.YtcoaggnilgfjfaaSLaw
import Derived.Test.YtcoaggnilgfjfaaClo
import Derived.Test.YtcoaggnilgfjfaaCuI
import Derived.Test.YtcoaggnilgfjfaaCuS
import Derived.WalkKit
import Derived.ProofKit
import Derived.JoinedOf
import Derived.OpenShut
import Derived.ShutString
import Derived.Deep.RegionWith
import Derived.Deep.DeepCutAuto
namespace Go.Proofs.Ytcoaggnilgfjfaa.fnExactIsClutter
open Go.ChangeShapes Go.WideShapes Go.ChangeAt Go.RowKit
open Go.ChangeMaps (open_string shut_string)
set_option linter.unusedVariables false

set_option maxHeartbeats 4000000 in
set_option maxRecDepth 100000 in
theorem walk (w : World) (a0 : Option Addr) (cap0 : Nat) (l0 : List Int) (w0 : C.RowIn 0 w.heap.size w a0 (M.encIs l0)) (u0 : l0.length ≤ cap0) (v0 : cap0 ≤ 9223372036854775807) (b0 : ∀ z ∈ l0, -9223372036854775808 ≤ z ∧ z ≤ 9223372036854775807) :
    Calls Try.prog 11 #[.slice a0 l0.length cap0] w fun e w' => e = .returned (.bool true) ∧ Below w.heap.size w w' := by
  have x0 := Lib.hid w0
  clear w0
  have B0 := Lib.hid b0
  clear b0
  by_cases s0 : 1048576 < l0.length
  · go_enter Try.func11, Try.ntmps11
    have bb_1 := Lib.hid (Below.refl w.heap.size w)
    go_wp2_with fail
    go_ret
    exact ⟨rfl, (by (repeat (first | exact Below.refl _ _ | (refine Below.alloc ?_ (by first | omega | (simp; done) | (simp; omega)) _))))⟩
  go_enter Try.func11, Try.ntmps11
  have bb_1 := Lib.hid (Below.refl w.heap.size w)
  go_wp2_with fail
  refine (C.toInts_any w 0 w.heap.size a0 cap0 l0 x0.out (by omega) (by omega)).mono ?_
  rintro e W0 ⟨rfl, ho, hb⟩
  have tt_2 := Lib.hid (C.Turned.of_below hb 0 0)
  have zz_3 := tt_2.out.size
  have ff_4 := Lib.hid (x0.out.turned tt_2.out (by omega) (by omega))
  clear x0
  have bb_5 := Lib.hid (C.Below.far bb_1.out tt_2.out)
  clear tt_2 bb_1
  clear hb
  have fo_6 := Lib.hid ho
  clear ho
  go_wp2_with fail
  refine (C.specIcu_lw W0 (w.heap.size) (W0.heap.size) (some ⟨w.heap.size, 0, none⟩) l0.length l0 fo_6.out.row (by omega) (by omega) (by omega) (by omega) B0.out).mono ?_
  rintro e W1 ⟨rfl, hb⟩
  have tt_7 := Lib.hid (C.Turned.of_below hb 0 0)
  have zz_8 := tt_7.out.size
  have ff_9 := Lib.hid (ff_4.out.turned tt_7.out (by omega) (by omega))
  clear ff_4
  have ff_10 := Lib.hid (fo_6.out.turned tt_7.out (by omega) (by omega))
  clear fo_6
  have bb_11 := Lib.hid (C.Below.far bb_5.out tt_7.out)
  clear tt_7 bb_5
  clear hb
  clear ff_10
  go_wp2_with fail
  refine (C.toInts_any W1 0 w.heap.size a0 cap0 l0 ff_9.out (by omega) (by omega)).mono ?_
  rintro e W2 ⟨rfl, ho, hb⟩
  have tt_12 := Lib.hid (C.Turned.of_below hb 0 0)
  have zz_13 := tt_12.out.size
  have ff_14 := Lib.hid (ff_9.out.turned tt_12.out (by omega) (by omega))
  clear ff_9
  have bb_15 := Lib.hid (C.Below.far bb_11.out tt_12.out)
  clear tt_12 bb_11
  clear hb
  have fo_16 := Lib.hid ho
  clear ho
  go_wp2_with fail
  refine (C.implIcu_lw W2 (W1.heap.size) (W2.heap.size) (some ⟨W1.heap.size, 0, none⟩) l0.length l0 fo_16.out.row (by omega) (by omega) (by omega) (by omega) B0.out).mono ?_
  rintro e W3 ⟨rfl, hb⟩
  have tt_17 := Lib.hid (C.Turned.of_below hb 0 0)
  have zz_18 := tt_17.out.size
  have ff_19 := Lib.hid (ff_14.out.turned tt_17.out (by omega) (by omega))
  clear ff_14
  have ff_20 := Lib.hid (fo_16.out.turned tt_17.out (by omega) (by omega))
  clear fo_16
  have bb_21 := Lib.hid (C.Below.far bb_15.out tt_17.out)
  clear tt_17 bb_15
  clear hb
  go_wp2_with fail
  refine (C.toInts_any W3 0 w.heap.size a0 cap0 l0 ff_19.out (by omega) (by omega)).mono ?_
  rintro e W4 ⟨rfl, ho, hb⟩
  have tt_22 := Lib.hid (C.Turned.of_below hb 0 0)
  have zz_23 := tt_22.out.size
  have ff_24 := Lib.hid (ff_19.out.turned tt_22.out (by omega) (by omega))
  clear ff_19
  have ff_25 := Lib.hid (ff_20.out.turned tt_22.out (by omega) (by omega))
  clear ff_20
  have bb_26 := Lib.hid (C.Below.far bb_21.out tt_22.out)
  clear tt_22 bb_21
  clear hb
  have fo_27 := Lib.hid ho
  clear ho
  go_wp2_with fail
  refine (C.eqInts_any W4 (W1.heap.size) (W2.heap.size) (W3.heap.size) (W4.heap.size) (some ⟨W1.heap.size, 0, none⟩) (some ⟨W3.heap.size, 0, none⟩) l0.length l0.length l0 (by omega) ff_25.out.row fo_27.out.row).mono ?_
  rintro e W5 ⟨rfl, nd_28, hW5⟩
  have hb : Below W4.heap.size W4 W5 := by rw [hW5]; exact C.below_drawn _ _
  clear hW5
  have tt_29 := Lib.hid (C.Turned.of_below hb 0 0)
  have zz_30 := tt_29.out.size
  have ff_31 := Lib.hid (ff_24.out.turned tt_29.out (by omega) (by omega))
  clear ff_24
  have ff_32 := Lib.hid (ff_25.out.turned tt_29.out (by omega) (by omega))
  clear ff_25
  have ff_33 := Lib.hid (fo_27.out.turned tt_29.out (by omega) (by omega))
  clear fo_27
  have bb_34 := Lib.hid (C.Below.far bb_26.out tt_29.out)
  clear tt_29 bb_26
  clear hb
  clear ff_33
  go_wp2_with fail
  go_ret
  exact ⟨rfl, bb_34.out⟩


set_option maxRecDepth 100000 in
theorem lifted (os : Os) (started : os.Started) (H : Type) (enc : TypeId × Value → H) :
    ReturnsInHanded {} Try.checked os 11 .any (Rows.fnExactIsClutterSpec.pre6 enc Try.prog Try.f11 Rows.fnExactIsClutterRow.domain false) (Rows.fnExactIsClutterSpec.post enc Try.prog Try.f11 false true false false) := by
  refine returnsInHanded_of_change (C := Try.checked) P.own started (by kernel_rfl) Try.func11
    (ChangeSpec.witness6 (enc := enc) (C := Try.checked) false ⟨#[], #[.slice none 0 0], []⟩ 8 (by kernel_rfl) (by kernel_rfl) (by kernel_rfl) (by kernel_rfl)) ?_
  intro W base args ds gs before hval0 hW hcnd _
  have hval : ∀ (j : Nat) t v, Try.f11.params[j]? = some t → args[j]? = some v → Value.okWide Try.prog W .any base t v := hval0
  have hW' := hW
  obtain ⟨p, q, hA0, hV, rfl, hfz, hnd⟩ := hW
  have hA : DataW.TrodAll enc Try.prog W 0 (fun _ => true) true Try.f11.params.toList args.toList ds p := hA0
  rw [Try.params11] at hA hval
  obtain ⟨v0, vs0, d0, ds0, p0, q0, hargs, rfl, rfl, h0, r0⟩ := trodAll_cons hA
  obtain ⟨rfl, rfl, rfl⟩ := trodAll_nil r0
  obtain rfl : args = #[v0] := by cases args; simp_all
  obtain ⟨rfl, rfl⟩ := trodVars_none hV
  have k0 := h0
  have lt0 : ∀ x ∈ p0, x.block < W.heap.size := by obtain ⟨m, hm⟩ := k0; exact DataW.trod_lt m _ _ _ hm
  obtain ⟨a0, len0, cap0, rfl⟩ := okWide_slice Try.underlying23 (hval 0 23 v0 rfl rfl)
  obtain ⟨l0, rfl, w0, u0, x0, y0⟩ : ∃ l : List Int, len0 = l.length ∧ C.RowIn 0 W.heap.size W a0 (M.encIs l) ∧ l.length ≤ cap0 ∧ cap0 ≤ maxLen ∧ ∀ z ∈ l, (Lit.int .i64 z).wf = true := by
    obtain ⟨fuel, hf⟩ := h0
    exact C.open_ints_at hf
  unfold maxLen at x0
  have b0 : ∀ z ∈ l0, -9223372036854775808 ≤ z ∧ z ≤ 9223372036854775807 := fun z hz => by have := Go.bounds_i64 (y0 z hz); omega
  clear hA0 hval0
  refine (walk W a0 cap0 l0 w0 u0 (by omega) b0).mono fun e W' ⟨he, hb⟩ => ?_
  subst he
  exact ⟨_, rfl, _, _, _, [], _, [], hW', trodAll_mk1 (shut_bool Try.underlying4 _), (trodAll_cons_mk (Below.trod P.laidOut (by kernel_rfl) (of_decide_eq_true (by kernel_rfl)) k0 hb lt0) trodAll_mk0), rfl, hb.frame _, fun h => by cases h⟩

theorem closed : joinedFacts Try.pinned.checked.prog 11 Try.f11 Rows.fnExactIsClutterSpec Rows.fnExactIsClutterRow = true := by
  show joinedFacts Try.prog 11 Try.f11 Rows.fnExactIsClutterSpec Rows.fnExactIsClutterRow = true
  unfold joinedFacts
  rw [P.cloEnter, P.cloMake, P.cloLift]
  kernel_rfl
theorem proved : Rows.FnExactIsClutterSaid :=
  OpenClaim.holds_of_wide 11 Try.f11 rfl rfl rfl rfl rfl rfl rfl ⟨rfl, rfl, rfl, rfl, rfl⟩ rfl rfl rfl rfl rfl (by kernel_rfl) Try.func11 closed
    (of_decide_eq_true (by kernel_rfl)) (by unfold Func.isWrapper; first | (rw [if_pos (by decide +kernel)]; kernel_rfl) | (rw [if_neg (by decide +kernel)]; exact ⟨rfl, rfl⟩))
    (fun os started H enc _ => lifted os started H enc)
#print axioms proved
end Go.Proofs.Ytcoaggnilgfjfaa.fnExactIsClutter
