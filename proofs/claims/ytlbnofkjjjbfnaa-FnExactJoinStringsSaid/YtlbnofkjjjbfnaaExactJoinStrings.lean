/-
  PROVED: for every slice of strings aParts (nil included) and every string aSep the law laws.FnExactJoinStrings returns true, that is, impl.JoinStrings answers as the model does and leaves its argument alone; both arguments read afterwards as before. Conditions: none.
-/
import Derived.Test.YtlbnofkjjjbfnaaRows
import Derived.Test.YtlbnofkjjjbfnaaPlain
import Derived.Test.YtlbnofkjjjbfnaaJoin3
import Derived.WalkKit
import Derived.ProofKit
import Derived.OpenShut
import Derived.ShutString
namespace Go.Proofs.Ytlbnofkjjjbfnaa.fnExactJoinStrings
open Go.ChangeShapes Go.WideShapes Go.ChangeAt Go.RowKit
open Go.ChangeMaps (open_string shut_string)
set_option linter.unusedVariables false

set_option maxRecDepth 100000 in
theorem walk (w : World) (a0 : Option Addr) (cap0 : Nat) (l0 : List ByteArray) (w0 : C.StrsAt w.heap.size w a0 l0 ∧ l0.length ≤ maxLen ∧ ∀ s ∈ l0, s.size ≤ maxLen) (a1 : ByteArray) (w1 : a1.size ≤ maxLen) :
    Calls Try.prog 5 #[.slice a0 l0.length cap0, .string a1] w fun e w' => e = .returned (.bool true) ∧ Below w.heap.size w w' := by
  obtain ⟨hst, hlm, hsm⟩ := w0
  unfold maxLen at w1
  by_cases hb : 1048576 < (a1.size : Int)
  · clear hst hlm hsm
    go_enter Try.func5, Try.ntmps5
    go_wp2_with fail
    go_ret
    exact ⟨rfl, Below.refl _ _⟩
  · have hsz := C.sz_any w w.heap.size a0 cap0 l0 1048576 (by omega) (by omega) hlm hsm hst
    have HST := Lib.hid hst
    have HSZ := Lib.hid hsz
    unfold maxLen at hlm
    clear hst hsm hsz
    go_enter Try.func5, Try.ntmps5
    go_wp2_with fail
    refine HSZ.out.mono ?_
    rintro e w' ⟨⟨r, rfl, hr0, hr1, hr2⟩, rfl⟩
    by_cases hneg : r < 0
    · clear hr2
      go_wp2_with fail
      go_ret
      exact ⟨rfl, Below.refl _ _⟩
    · have htot := hr2 (by omega)
      have hl : l0.length ≤ 1048576 := by omega
      have ht : M.tot l0 ≤ 1048576 := by omega
      have hs : ∀ s ∈ l0, s.size ≤ 1048576 := fun s hs => Nat.le_trans (C.tot_mem hs) ht
      obtain ⟨jv, jb, ci, cs, _⟩ := C.join_both l0 a1 hl ht hs
      have CI := Lib.hid ci
      have CS := Lib.hid cs
      have TS := Lib.hid (fun W a cap h => C.toS_any W a cap l0 hl h)
      clear hr2 htot hs ci cs
      go_wp2_with fail
      -- the model's copy
      refine (TS.out _ _ _ HST.out).mono ?_
      rintro e w1 ⟨rfl, hown1, hb1⟩
      have B1 := Lib.hid hb1
      have S1 := Lib.hid (C.strs_of_own hown1 (C.own_lt hown1))
      clear hown1 hb1
      go_wp2_with fail
      refine (CS.out _ _ _ S1.out).mono ?_
      rintro e w2 ⟨rfl, hb2⟩
      have B2 := Lib.hid (C.Below.more B1.out hb2)
      clear hb2
      go_wp2_with fail
      -- the program's copy
      refine (TS.out _ _ _ ((HST.out.below B2.out).more B2.out.size)).mono ?_
      rintro e w3 ⟨rfl, hown3, hb3⟩
      have B3 := Lib.hid (C.Below.more B2.out hb3)
      have S3 := Lib.hid (C.strs_of_own hown3 (C.own_lt hown3))
      clear hown3 hb3
      go_wp2_with fail
      refine (CI.out _ _ _ (Nat.le_refl _) S3.out).mono ?_
      rintro e w4 ⟨rfl, hb4⟩
      have B4 := Lib.hid (C.Below.more B3.out hb4)
      have S4 := Lib.hid ((S3.out.below hb4).more hb4.size)
      clear hb4
      go_wp2_with fail
      -- the argument's own look
      refine (TS.out _ _ _ ((HST.out.below B4.out).more B4.out.size)).mono ?_
      rintro e w5 ⟨rfl, hown5, hb5⟩
      have B5 := Lib.hid (C.Below.more B4.out hb5)
      have S5 := Lib.hid (C.strs_of_own hown5 (C.own_lt hown5))
      have S45 := Lib.hid ((S4.out.below hb5).more hb5.size)
      clear hown5 hb5
      go_wp2_with fail
      refine (C.eq_any _ _ _ _ _ _ l0 hl S45.out S5.out).mono ?_
      rintro e w6 ⟨rfl, m, rfl⟩
      go_wp2_with fail
      go_ret
      exact ⟨rfl, C.Below.more B5.out (C.below_drawn _ _)⟩


set_option maxRecDepth 100000 in
theorem lifted (os : Os) (started : os.Started) (H : Type) (enc : TypeId × Value → H) :
    ReturnsInHanded {} Try.checked os 5 .any (Rows.fnExactJoinStringsSpec.pre6 enc Try.prog Try.f5 Rows.fnExactJoinStringsRow.domain false) (Rows.fnExactJoinStringsSpec.post enc Try.prog Try.f5 false true false false) := by
  refine returnsInHanded_of_change (C := Try.checked) P.own started (by kernel_rfl) Try.func5
    (ChangeSpec.witness6 (enc := enc) (C := Try.checked) false ⟨#[], #[.slice none 0 0, .string ByteArray.empty], []⟩ 8 (by kernel_rfl) (by kernel_rfl) (by kernel_rfl) (by kernel_rfl)) ?_
  intro W base args ds gs before hval0 hW hcnd _
  have hval : ∀ (j : Nat) t v, Try.f5.params[j]? = some t → args[j]? = some v → Value.okWide Try.prog W .any base t v := hval0
  have hW' := hW
  obtain ⟨p, q, hA0, hV, rfl, hfz, hnd⟩ := hW
  have hA : DataW.TrodAll enc Try.prog W 0 (fun _ => true) true Try.f5.params.toList args.toList ds p := hA0
  rw [Try.params5] at hA hval
  obtain ⟨v0, vs0, d0, ds0, p0, q0, hargs, rfl, rfl, h0, r0⟩ := trodAll_cons hA
  obtain ⟨v1, vs1, d1, ds1, p1, q1, rfl, rfl, rfl, h1, r1⟩ := trodAll_cons r0
  obtain ⟨rfl, rfl, rfl⟩ := trodAll_nil r1
  obtain rfl : args = #[v0, v1] := by cases args; simp_all
  obtain ⟨rfl, rfl⟩ := trodVars_none hV
  obtain ⟨a0, len0, cap0, rfl⟩ := okWide_slice Try.underlying26 (hval 0 26 v0 rfl rfl)
  have k0 := h0
  have lt0 : ∀ x ∈ p0, x.block < W.heap.size := by obtain ⟨m, hm⟩ := k0; exact DataW.trod_lt m _ _ _ hm
  obtain ⟨l0, rfl, w0⟩ : ∃ l : List ByteArray, len0 = l.length ∧ C.StrsAt W.heap.size W a0 l ∧ l.length ≤ maxLen ∧ ∀ s ∈ l, s.size ≤ maxLen := by
    obtain ⟨fuel, hf⟩ := h0
    exact C.open_strs_at hf
  obtain ⟨a1, rfl, rfl, rfl, w1⟩ := open_string Try.underlying9 (hval 1 9 v1 rfl rfl) h1
  clear hA0 hval0
  refine (walk W a0 cap0 l0 w0 a1 w1).mono fun e W' ⟨he, hb⟩ => ?_
  subst he
  exact ⟨_, rfl, _, _, _, [], _, [], hW', trodAll_mk1 (shut_bool Try.underlying4 _), (trodAll_cons_mk (Below.trod P.laidOut (by kernel_rfl) (of_decide_eq_true (by kernel_rfl)) k0 hb lt0) (trodAll_cons_mk (shut_string Try.underlying9 w1) trodAll_mk0)), rfl, hb.frame _, fun h => by cases h⟩

theorem proved : Rows.FnExactJoinStringsSaid :=
  OpenClaim.holds_of_wide 5 Try.f5 rfl rfl rfl rfl rfl rfl rfl ⟨rfl, rfl, rfl, rfl, rfl⟩ rfl rfl rfl rfl rfl (by kernel_rfl) Try.func5 (by kernel_rfl)
    (of_decide_eq_true (by kernel_rfl)) (by unfold Func.isWrapper; first | (rw [if_pos (by decide +kernel)]; kernel_rfl) | (rw [if_neg (by decide +kernel)]; exact ⟨rfl, rfl⟩))
    (fun os started H enc _ => lifted os started H enc)
#print axioms proved
end Go.Proofs.Ytlbnofkjjjbfnaa.fnExactJoinStrings
