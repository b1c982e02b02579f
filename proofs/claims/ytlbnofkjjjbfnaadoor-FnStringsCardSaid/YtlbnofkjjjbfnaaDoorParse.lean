/-
  CONTRACTS of impl.ParseInt and spec.ParseInt: at the numeral of a number within -999999..999999 both return that number and true, at every other string 0 and false; what lay in memory stays. Condition for impl.ParseInt: the library's listed variables read as laid.
-/
import Derived.Test.YtlbnofkjjjbfnaaDoorAtoi
import Derived.WalkKit
import Derived.WalkSpells
import Derived.WalkLawsBesides
import Derived.Lib.Hide
namespace Go.Proofs.YtlbnofkjjjbfnaaDoor
open Go.RowKit
namespace C

theorem same_text (x : Int) {s : ByteArray} (h : s.data.toList = Lib.itoa x) : ((decB x).toList == s.toList) = true := by
  rw [ByteArray.toList_eq, ByteArray.toList_eq, h]
  unfold decB
  simp
theorem other_text (x : Int) {s : ByteArray} (h : s.data.toList ≠ Lib.itoa x) : ((decB x).toList == s.toList) = false := by
  rw [ByteArray.toList_eq, ByteArray.toList_eq]
  unfold decB
  simp
  exact fun e => h e.symm

set_option maxHeartbeats 400000 in
theorem implParse_ok (s : ByteArray) (x : Int) (w : World) (hx : s.data.toList = Lib.itoa x) (h0 : -999999 ≤ x) (h1 : x ≤ 999999) (hs : s.size ≤ 1048576) (he : Env5 w) :
    Calls Tryd.prog 13 #[.string s] w fun e w' => e = .returned (.tuple #[.int .i64 x, .bool true]) ∧ Below w.heap.size w w' := by
  have ha := Lib.hid (show Lib.atoiAll s.data.toList = .ok x by rw [hx]; exact M.atoiAll_itoa x h0 h1)
  have hsame := same_text x hx
  have he' := Lib.hid he
  clear he hx
  go_enter Tryd.func13, Tryd.ntmps13
  go_wp2_with fail
  refine (atoi_ok s (by omega) x ha.out _).mono ?_
  rintro e w1 ⟨rfl, hb1⟩
  go_wp2_with fail
  refine (implForm_ok x _ h0 h1 (he'.out.1.keep hb1)).mono ?_
  rintro e w2 ⟨rfl, hb2⟩
  go_wp2_with fail
  go_ret2
  exact ⟨rfl, C.Below.more hb1 hb2⟩

set_option maxHeartbeats 400000 in
theorem implParse_no (s : ByteArray) (w : World) (hx : ¬ M.rdOk s.data.toList) (hs : s.size ≤ 1048576) (he : Env5 w) :
    Calls Tryd.prog 13 #[.string s] w fun e w' => e = .returned (.tuple #[.int .i64 0, .bool false]) ∧ Below w.heap.size w w' := by
  rw [M.rdOk_iff] at hx
  by_cases ho : ∃ v, Lib.atoiAll s.data.toList = .ok v
  · obtain ⟨v, hv⟩ := ho
    have hv' := Lib.hid hv
    have he' := Lib.hid he
    clear he
    by_cases hin : -999999 ≤ v ∧ v ≤ 999999
    · obtain ⟨h0, h1⟩ := hin
      have hne := other_text v (fun e => hx ⟨v, h0, h1, e⟩)
      clear hv hx
      go_enter Tryd.func13, Tryd.ntmps13
      go_wp2_with fail
      refine (atoi_ok s (by omega) v hv'.out _).mono ?_
      rintro e w1 ⟨rfl, hb1⟩
      go_wp2_with fail
      refine (implForm_ok v _ h0 h1 (he'.out.1.keep hb1)).mono ?_
      rintro e w2 ⟨rfl, hb2⟩
      go_wp2_with fail
      go_ret2
      exact ⟨rfl, C.Below.more hb1 hb2⟩
    · have hout : v < -999999 ∨ 999999 < v := by omega
      clear hv hx
      go_enter Tryd.func13, Tryd.ntmps13
      go_wp2_with fail
      refine (atoi_ok s (by omega) v hv'.out _).mono ?_
      rintro e w1 ⟨rfl, hb1⟩
      go_wp2_with fail
      refine (implForm_no v _ hout).mono ?_
      rintro e w2 ⟨rfl, hb2⟩
      go_wp2_with fail
      go_ret2
      exact ⟨rfl, C.Below.more hb1 hb2⟩
  · have ho' := Lib.hid (fun v e => ho ⟨v, e⟩ : ∀ v, Lib.atoiAll s.data.toList ≠ .ok v)
    have he' := Lib.hid he
    clear he ho hx
    go_enter Tryd.func13, Tryd.ntmps13
    go_wp2_with fail
    refine (atoi_bad s (by omega) ho'.out _ he'.out).mono ?_
    rintro e w1 ⟨n, N, rfl, hb1⟩
    go_wp2_with fail
    go_ret2
    exact ⟨rfl, hb1⟩

theorem specParse_any (s : ByteArray) (w : World) (hs : s.size ≤ maxLen) :
    Calls Tryd.prog 14 #[.string s] w fun e w' => RdPost s.data.toList e ∧ Below w.heap.size w w' := by
  go_enter Tryd.func14, Tryd.ntmps14
  go_wp2_with fail
  refine (l1Read_any s _ hs).mono ?_
  rintro e w1 ⟨hp, k, rfl⟩
  rcases hp with ⟨h, rfl⟩ | ⟨h, rfl⟩
  · go_wp2_with fail
    go_ret2
    exact ⟨.inl ⟨h, rfl⟩, below_drawn _ _⟩
  · go_wp2_with fail
    go_ret2
    exact ⟨.inr ⟨h, rfl⟩, below_drawn _ _⟩

end C
end Go.Proofs.YtlbnofkjjjbfnaaDoor
