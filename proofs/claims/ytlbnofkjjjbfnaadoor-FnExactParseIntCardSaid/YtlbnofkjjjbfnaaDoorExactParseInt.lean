/-
  PROVED: for every string aS the law laws.FnExactParseInt returns true, that is, impl.ParseInt answers as the model does, and its argument reads afterwards as before. Conditions: the listed package-level variables start as the program's own text lays them, which the card ties.
-/
import Derived.Test.YtlbnofkjjjbfnaaDoorRows
import Derived.Test.YtlbnofkjjjbfnaaDoorTie
import Derived.Test.YtlbnofkjjjbfnaaDoorCards
import Derived.Test.YtlbnofkjjjbfnaaDoorDoor
import Derived.Test.YtlbnofkjjjbfnaaDoorDoorE
import Derived.Test.YtlbnofkjjjbfnaaDoorParse
import Derived.WalkKit
import Derived.ProofKit
import Derived.OpenShut
import Derived.ShutString
import Derived.SevenTiedAt
namespace Go.Proofs.YtlbnofkjjjbfnaaDoor.fnExactParseInt
open Go.ChangeShapes Go.WideShapes Go.ChangeAt Go.RowKit
open Go.ChangeMaps (open_string shut_string)
set_option linter.unusedVariables false

theorem walk (a0 : ByteArray) (w0 : a0.size ≤ maxLen) (w : World) (he : C.Env5 w) :
    Calls Tryd.prog 5 #[.string a0] w fun e w' => e = .returned (.bool true) ∧ Below w.heap.size w w' := by
  unfold maxLen at w0
  have he' := Lib.hid he
  clear he
  by_cases hb : 1048576 < (a0.size : Int)
  · go_enter Tryd.func5, Tryd.ntmps5
    go_wp2_with fail
    go_ret
    exact ⟨rfl, Below.refl _ _⟩
  · by_cases hr : M.rdOk a0.data.toList
    · obtain ⟨x, h0, h1, hx⟩ := (M.rdOk_iff _).1 hr
      have hx' := Lib.hid hx
      have hr' := Lib.hid hr
      have hg : Hid (M.sg a0.data.toList = x) := Lib.hid (by rw [hx]; exact M.sg_itoa x)
      clear hx hr
      go_enter Tryd.func5, Tryd.ntmps5
      go_wp2_with fail
      refine (C.specParse_any a0 _ (by unfold maxLen; omega)).mono ?_
      rintro e w1 ⟨hp, hb1⟩
      obtain rfl : e = .returned (.tuple #[.int .i64 x, .bool true]) := by
        rcases hp with ⟨_, hp⟩ | ⟨hp, _⟩
        · rw [hg.out] at hp; exact hp
        · exact absurd hr'.out hp
      clear hp
      go_wp2_with fail
      refine (C.implParse_ok a0 x _ hx'.out h0 h1 (by omega) (he'.out.keep hb1)).mono ?_
      rintro e w2 ⟨rfl, hb2⟩
      go_wp2_with fail
      go_ret
      exact ⟨rfl, C.Below.more hb1 hb2⟩
    · have hr' := Lib.hid hr
      clear hr
      go_enter Tryd.func5, Tryd.ntmps5
      go_wp2_with fail
      refine (C.specParse_any a0 _ (by unfold maxLen; omega)).mono ?_
      rintro e w1 ⟨hp, hb1⟩
      obtain rfl : e = .returned (.tuple #[.int .i64 0, .bool false]) := by
        rcases hp with ⟨hp, _⟩ | ⟨_, hp⟩
        · exact absurd hp hr'.out
        · exact hp
      clear hp
      go_wp2_with fail
      refine (C.implParse_no a0 _ hr'.out (by omega) (he'.out.keep hb1)).mono ?_
      rintro e w2 ⟨rfl, hb2⟩
      go_wp2_with fail
      go_ret
      exact ⟨rfl, C.Below.more hb1 hb2⟩


set_option maxRecDepth 100000 in
theorem lifted (os : Os) (started : os.Started) (H : Type) (enc : TypeId × Value → H) :
    ReturnsInHanded {} Tryd.checked os 5 .any (fun w args => (Rows.fnExactParseIntSpec.pre enc Tryd.prog Tryd.f5 [] false w args ∧ laidMetH Tryd.prog D.list5 w) ∧ sizedMet enc Tryd.prog Tryd.f5 (OpenSpec.ofChange Rows.fnExactParseIntSpec) false w args)
      (Rows.fnExactParseIntSpec.post enc Tryd.prog Tryd.f5 false true false false) := by
  refine returnsInHanded_of_change_and (C := Tryd.checked) (X := fun w _ => laidMetH Tryd.prog D.list5 w) (fun _ _ _ hh h => h.of_heap hh) D.own started (by kernel_rfl) Tryd.func5
    (ChangeSpec.witness_shaped (enc := enc) (C := Tryd.checked) (os := os) (X := fun w _ => laidMetH Tryd.prog D.list5 w) false (World.doorLaid Tryd.prog 62 os) #[.string ByteArray.empty] 65 rfl (World.shaped_of_RefB (by kernel_rfl) (by kernel_rfl)) (by kernel_rfl) (by kernel_rfl) (by kernel_rfl) (D.met5 os _)) ?_
  intro W base args ds gs before hval0 hW _ _ hL _
  have hval : ∀ (j : Nat) t v, Tryd.f5.params[j]? = some t → args[j]? = some v → Value.okWide Tryd.prog W .any base t v := hval0
  have hW' := hW
  obtain ⟨p, q, hA0, hV, rfl, hfz, hnd⟩ := hW
  have hA : DataW.TrodAll enc Tryd.prog W 0 (fun _ => true) true Tryd.f5.params.toList args.toList ds p := hA0
  rw [Tryd.params5] at hA hval
  obtain ⟨v0, vs0, d0, ds0, p0, q0, hargs, rfl, rfl, h0, r0⟩ := trodAll_cons hA
  obtain ⟨rfl, rfl, rfl⟩ := trodAll_nil r0
  obtain rfl : args = #[v0] := by cases args; simp_all
  obtain ⟨rfl, rfl⟩ := trodVars_none hV
  obtain ⟨a0, rfl, rfl, rfl, w0⟩ := open_string Tryd.underlying9 (hval 0 9 v0 rfl rfl) h0
  clear hA0 hval0
  simp only [List.append_nil] at hW'
  refine (walk a0 w0 W (D.env5 hL)).mono fun e W' ⟨he, hb⟩ => ?_
  subst he
  exact ⟨_, rfl, D.post_of_below (pa := []) (pv := []) hW' (fun _ _ _ => trodAll_mk1 (shut_bool Tryd.underlying4 _)) (fun sp _ => (trodAll_cons_mk (shut_string Tryd.underlying9 w0) trodAll_mk0)) (fun _ _ => rfl) rfl hb (ok_one (by kernel_rfl) rfl (okWide_bool_mk Tryd.underlying4 _))⟩

theorem row_holds : Rows.FnExactParseIntSaid :=
  OpenClaim.holds_of_wide 5 Tryd.f5 rfl rfl rfl rfl rfl rfl rfl ⟨rfl, rfl, rfl, rfl, rfl⟩ rfl rfl rfl rfl rfl (by kernel_rfl) Tryd.func5 (by kernel_rfl)
    (of_decide_eq_true (by kernel_rfl)) (by unfold Func.isWrapper; first | (rw [if_pos (by decide +kernel)]; kernel_rfl) | (rw [if_neg (by decide +kernel)]; exact ⟨rfl, rfl⟩))
    (fun os started H enc _ => lifted os started H enc)

theorem proved : Rows.FnExactParseIntCardSaid :=
  Claim7.holds_tied_plain_at .later [] [.data, .data, .data, .sentinel, .sentinel] true (true, "f693c37053186393b47b1a8c14fc92f15a00cd015fb17f7efae85116544c18a4") true
    row_holds (fun _ h => by cases h) (by kernel_rfl) (fun _ h => by cases h) fnExactParseInt_row_tie rfl ⟨rfl, rfl⟩ (by kernel_rfl) rfl
    (fun f fn hf hfn => by
      obtain rfl : f = 5 := Option.some.inj ((show Tryd.prog.funcNamed "loop.example/g01158/laws.FnExactParseInt" = some 5 by kernel_rfl).symm.trans hf) |>.symm
      obtain rfl : fn = Tryd.f5 := (Option.some.inj (Tryd.func5.symm.trans hfn)).symm
      exact ⟨by kernel_rfl, fun j t ht => by
        rw [Tryd.params5] at ht
        have hm : t ∈ [9] := by simpa using Array.mem_of_getElem? ht
        have hall : ([9].all fun u => !Tryd.prog.wantsStandIn u) = true := by kernel_rfl
        exact (show Tryd.prog.wantsStandIn t = false by simpa using List.all_eq_true.1 hall t hm)⟩)
    (by kernel_rfl)
#print axioms proved
end Go.Proofs.YtlbnofkjjjbfnaaDoor.fnExactParseInt
