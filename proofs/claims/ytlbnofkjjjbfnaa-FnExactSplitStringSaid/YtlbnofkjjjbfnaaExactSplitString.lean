/-
  PROVED: for all strings aS and aSep the law laws.FnExactSplitString returns true, that is, impl.SplitString answers as the model does, and what it answers is a row of its own at each call; both arguments read afterwards as before. Conditions: none.
-/
import Derived.Test.YtlbnofkjjjbfnaaRows
import Derived.Test.YtlbnofkjjjbfnaaPlain
import Derived.Test.YtlbnofkjjjbfnaaSplitB
import Derived.Test.YtlbnofkjjjbfnaaMark
import Derived.WalkKit
import Derived.ProofKit
import Derived.OpenShut
import Derived.ShutString
namespace Go.Proofs.Ytlbnofkjjjbfnaa.fnExactSplitString
open Go.ChangeShapes Go.WideShapes Go.ChangeAt Go.RowKit
open Go.ChangeMaps (open_string shut_string)
set_option linter.unusedVariables false

set_option maxRecDepth 100000 in
theorem walk (w : World) (a0 : ByteArray) (w0 : a0.size ≤ maxLen) (a1 : ByteArray) (w1 : a1.size ≤ maxLen) :
    Calls Try.prog 4 #[.string a0, .string a1] w fun e w' => e = .returned (.bool true) ∧ Below w.heap.size w w' := by
  unfold maxLen at w0 w1
  by_cases hb0 : 1048576 < (a0.size : Int)
  · go_enter Try.func4, Try.ntmps4
    go_wp2_with fail
    go_ret
    exact ⟨rfl, Below.refl _ _⟩
  by_cases hb1 : 1048576 < (a1.size : Int)
  · go_enter Try.func4, Try.ntmps4
    go_wp2_with fail
    go_ret
    exact ⟨rfl, Below.refl _ _⟩
  obtain ⟨ss, sb, hl, ci, cs, _⟩ := C.split_both a0 a1 (by omega) (by omega)
  have CI := Lib.hid ci
  have CS := Lib.hid cs
  clear ci cs
  go_enter Try.func4, Try.ntmps4
  go_wp2_with fail
  refine (CS.out _).mono ?_
  rintro e w1 ⟨g1, c1, rfl, hc1, ho1, hb1⟩
  have S1 := Lib.hid (C.strs_of_own ho1 (C.own_lt ho1))
  have B1 := Lib.hid hb1
  clear ho1 hb1
  go_wp2_with fail
  refine (CI.out _).mono ?_
  rintro e w2 ⟨g2, c2, rfl, hc2, ho2, hb2⟩
  have S2 := Lib.hid (C.strs_of_own ho2 (C.own_lt ho2))
  have S1b := Lib.hid (S1.out.below hb2)
  have B2 := Lib.hid (C.Below.more B1.out hb2)
  have O2 := Lib.hid ho2
  have Z2 := Lib.hid hb2.size
  clear ho2 hb2
  go_wp2_with fail
  refine (C.eq_any _ _ _ _ _ _ ss (by omega) S2.out (S1b.out.more Z2.out)).mono ?_
  rintro e w3 ⟨rfl, m3, rfl⟩
  go_wp2_with fail
  have O3 := Lib.hid (O2.out.kept (C.grown_of_below (C.below_drawn w2 m3)) (.inr (by simp [Value.ownBlock])))
  refine (C.markS_any (w2.drewN m3) w1.heap.size g2 c2 ss.length _ (by omega) O3.out Z2.out).mono ?_
  rintro e w4 ⟨rfl, ho4, hb4⟩
  have B4 := Lib.hid (B2.out.trans (Below.trans ((C.below_drawn w2 m3).mono B2.out.size) (hb4.mono B1.out.size)))
  have S1d := Lib.hid (((S1b.out.below ((C.below_drawn w2 m3).mono Z2.out))).below hb4)
  have SM := Lib.hid (C.strs_of_own (ss := (List.range ss.length).map fun i => M.mark (1 + i)) (by rw [List.map_map]; exact ho4) (C.own_lt ho4))
  have Z4 := Lib.hid (Nat.le_trans Z2.out hb4.size)
  clear ho4 hb4
  go_wp2_with fail
  refine (C.heldS_any w4 w4.heap.size (some ⟨g2, 0, none⟩) c2 ss.length (by omega) SM.out (Nat.le_refl _)).mono ?_
  rintro e w5 ⟨rfl, hb5⟩
  have B5 := Lib.hid (C.Below.more B4.out hb5)
  have SM5 := Lib.hid (SM.out.below hb5)
  have S1e := Lib.hid (S1d.out.below (hb5.mono Z4.out))
  have Z5 := Lib.hid hb5.size
  clear hb5
  go_wp2_with fail
  refine (CI.out _).mono ?_
  rintro e w6 ⟨g3, c3, rfl, hc3, ho6, hb6⟩
  have S3 := Lib.hid (C.strs_of_own ho6 (C.own_lt ho6))
  have B6 := Lib.hid (C.Below.more B5.out hb6)
  have SM6 := Lib.hid (SM5.out.below (hb6.mono Z5.out))
  have S1f := Lib.hid (S1e.out.below (hb6.mono (Nat.le_trans Z4.out Z5.out)))
  have Z6 := Lib.hid hb6.size
  clear ho6 hb6
  go_wp2_with fail
  refine (C.eq_any _ _ _ _ _ _ ss (by omega) S3.out (S1f.out.more (Nat.le_trans (Nat.le_trans Z4.out Z5.out) Z6.out))).mono ?_
  rintro e w7 ⟨rfl, m7, rfl⟩
  go_wp2_with fail
  refine (C.heldS_any (w6.drewN m7) w4.heap.size (some ⟨g2, 0, none⟩) c2 ss.length (by omega) (SM6.out.below ((C.below_drawn w6 m7).mono (Nat.le_trans Z5.out Z6.out))) (Nat.le_trans Z5.out Z6.out)).mono ?_
  rintro e w8 ⟨rfl, hb8⟩
  have B8 := Lib.hid (C.Below.more (C.Below.more B6.out (C.below_drawn w6 m7)) hb8)
  clear hb8
  go_wp2_with fail
  go_ret
  exact ⟨rfl, B8.out⟩


set_option maxRecDepth 100000 in
theorem lifted (os : Os) (started : os.Started) (H : Type) (enc : TypeId × Value → H) :
    ReturnsInHanded {} Try.checked os 4 .any (Rows.fnExactSplitStringSpec.pre6 enc Try.prog Try.f4 Rows.fnExactSplitStringRow.domain false) (Rows.fnExactSplitStringSpec.post enc Try.prog Try.f4 false true false false) := by
  refine returnsInHanded_of_change (C := Try.checked) P.own started (by kernel_rfl) Try.func4
    (ChangeSpec.witness6 (enc := enc) (C := Try.checked) false ⟨#[], #[.string ByteArray.empty, .string ByteArray.empty], []⟩ 8 (by kernel_rfl) (by kernel_rfl) (by kernel_rfl) (by kernel_rfl)) ?_
  intro W base args ds gs before hval0 hW hcnd _
  have hval : ∀ (j : Nat) t v, Try.f4.params[j]? = some t → args[j]? = some v → Value.okWide Try.prog W .any base t v := hval0
  have hW' := hW
  obtain ⟨p, q, hA0, hV, rfl, hfz, hnd⟩ := hW
  have hA : DataW.TrodAll enc Try.prog W 0 (fun _ => true) true Try.f4.params.toList args.toList ds p := hA0
  rw [Try.params4] at hA hval
  obtain ⟨v0, vs0, d0, ds0, p0, q0, hargs, rfl, rfl, h0, r0⟩ := trodAll_cons hA
  obtain ⟨v1, vs1, d1, ds1, p1, q1, rfl, rfl, rfl, h1, r1⟩ := trodAll_cons r0
  obtain ⟨rfl, rfl, rfl⟩ := trodAll_nil r1
  obtain rfl : args = #[v0, v1] := by cases args; simp_all
  obtain ⟨rfl, rfl⟩ := trodVars_none hV
  obtain ⟨a0, rfl, rfl, rfl, w0⟩ := open_string Try.underlying9 (hval 0 9 v0 rfl rfl) h0
  obtain ⟨a1, rfl, rfl, rfl, w1⟩ := open_string Try.underlying9 (hval 1 9 v1 rfl rfl) h1
  clear hA0 hval0
  simp only [List.append_nil] at hW'
  refine (walk W a0 w0 a1 w1).mono fun e W' ⟨he, hb⟩ => ?_
  subst he
  exact ⟨_, rfl, P.post_of_below (pa := []) (pv := []) hW' (fun _ _ _ => trodAll_mk1 (shut_bool Try.underlying4 _)) (fun sp _ => (trodAll_cons_mk (shut_string Try.underlying9 w0) (trodAll_cons_mk (shut_string Try.underlying9 w1) trodAll_mk0))) (fun _ _ => rfl) rfl hb (ok_one (by kernel_rfl) rfl (okWide_bool_mk Try.underlying4 _))⟩

theorem proved : Rows.FnExactSplitStringSaid :=
  OpenClaim.holds_of_wide 4 Try.f4 rfl rfl rfl rfl rfl rfl rfl ⟨rfl, rfl, rfl, rfl, rfl⟩ rfl rfl rfl rfl rfl (by kernel_rfl) Try.func4 (by kernel_rfl)
    (of_decide_eq_true (by kernel_rfl)) (by unfold Func.isWrapper; first | (rw [if_pos (by decide +kernel)]; kernel_rfl) | (rw [if_neg (by decide +kernel)]; exact ⟨rfl, rfl⟩))
    (fun os started H enc _ => lifted os started H enc)
#print axioms proved
end Go.Proofs.Ytlbnofkjjjbfnaa.fnExactSplitString
