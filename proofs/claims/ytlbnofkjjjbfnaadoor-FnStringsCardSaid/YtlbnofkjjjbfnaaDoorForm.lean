/-
  CONTRACTS of impl.FormatInt and spec.FormatInt: within -999999..999999 both return the decimal numeral and true, beyond it the empty string and false; what lay in memory stays. Condition for impl.FormatInt: the library's table of powers of ten reads as its initialiser lays it.
-/
import Derived.Test.YtlbnofkjjjbfnaaDoorNum
import Derived.Test.YtlbnofkjjjbfnaaDoorRead
import Derived.Test.YtlbnofkjjjbfnaaDoorShelf
import Derived.WalkKit
import Derived.WalkSpells
import Derived.WalkLawsBesides
import Derived.Lib.Hide
namespace Go.Proofs.YtlbnofkjjjbfnaaDoor
open Go.RowKit
namespace C

/-- what the library's table reads as -/
def Env (w : World) : Prop := Lib.TabIs Tryd.prog w "internal/strconv.uint64pow10" .u64 Lib.pow10Tab

theorem var_keep {n : String} {w w' : World} {cs : Array Value} (h : w.var? Tryd.prog n = some cs) (hb : Below w.heap.size w w') : w'.var? Tryd.prog n = some cs := by
  have h' := h
  unfold World.var? at h'
  cases hg : Tryd.prog.globalNamed n with
  | none => simp [hg] at h'
  | some g =>
    simp only [hg, Option.bind_some] at h'
    have hlt : g < w.heap.size := by
      rcases Nat.lt_or_ge g w.heap.size with h1 | h1
      · exact h1
      · rw [Array.getElem?_eq_none h1] at h'; simp at h'
    exact var?_below hb hg hlt h
theorem Env.keep {w w' : World} (h : Env w) (hb : Below w.heap.size w w') : Env w' := var_keep h hb

theorem below_grown (w : World) (k : Nat) (os : Array Obj) : Below w.heap.size w (Sort.grow (w.drewN k) os) :=
  ⟨rfl, rfl, rfl, by simp, fun i hi => by
    show (w.heap ++ os)[i]? = _
    rw [Array.getElem?_append_left hi]⟩
theorem below_drawn (w : World) (k : Nat) : Below w.heap.size w (w.drewN k) := ⟨rfl, rfl, rfl, Nat.le_refl _, fun _ _ => rfl⟩
theorem Below.more {a b c : World} (h : Below a.heap.size a b) (k : Below b.heap.size b c) : Below a.heap.size a c := h.trans (k.mono h.size)

set_option maxHeartbeats 400000 in
theorem implForm_ok (x : Int) (w : World) (h0 : -999999 ≤ x) (h1 : x ≤ 999999) (he : Env w) :
    Calls Tryd.prog 10 #[.int .i64 x] w fun e w' => e = .returned (.tuple #[.string (decB x), .bool true]) ∧ Below w.heap.size w w' := by
  have h0' : ¬ x < -999999 := by omega
  have h1' : ¬ 999999 < x := by omega
  have c := fun W hW => Tryd.strconv_Itoa x (by omega) (by omega) W hW
  have he' := Lib.hid he
  clear he
  go_enter Tryd.func10, Tryd.ntmps10
  go_wp2_with fail
  refine (c _ he'.out).mono ?_
  rintro e w' ⟨rfl, k, os, rfl⟩
  go_wp2_with fail
  go_ret2
  exact ⟨rfl, below_grown _ _ _⟩

set_option maxHeartbeats 400000 in
theorem implForm_no (x : Int) (w : World) (h : x < -999999 ∨ 999999 < x) :
    Calls Tryd.prog 10 #[.int .i64 x] w fun e w' => e = .returned (.tuple #[.string ⟨#[]⟩, .bool false]) ∧ Below w.heap.size w w' := by
  rcases h with h | h
  · go_enter Tryd.func10, Tryd.ntmps10
    go_wp2_with fail
    go_ret2
    exact ⟨rfl, Below.refl _ _⟩
  · have h' : ¬ x < -999999 := by omega
    go_enter Tryd.func10, Tryd.ntmps10
    go_wp2_with fail
    go_ret2
    exact ⟨rfl, Below.refl _ _⟩

set_option maxHeartbeats 400000 in
theorem specForm_ok (x : Int) (w : World) (h0 : -999999 ≤ x) (h1 : x ≤ 999999) :
    Calls Tryd.prog 11 #[.int .i64 x] w fun e w' => e = .returned (.tuple #[.string (decB x), .bool true]) ∧ Below w.heap.size w w' := by
  go_enter Tryd.func11, Tryd.ntmps11
  go_wp2_with (go_at_call 24; refine (l1In_yes _ _ _ _ (by omega) (by omega)).mono ?_; rintro e w' ⟨rfl, rfl⟩)
  refine (l1Num_any _ _ (by omega) (by omega)).mono ?_
  rintro e w' ⟨rfl, k, rfl⟩
  go_wp2_with fail
  go_ret2
  exact ⟨rfl, below_drawn _ _⟩

set_option maxHeartbeats 400000 in
theorem specForm_no (x : Int) (w : World) (h : x < -999999 ∨ 999999 < x) :
    Calls Tryd.prog 11 #[.int .i64 x] w fun e w' => e = .returned (.tuple #[.string ⟨#[]⟩, .bool false]) ∧ Below w.heap.size w w' := by
  go_enter Tryd.func11, Tryd.ntmps11
  go_wp2_with (go_at_call 24; refine (l1In_no _ _ _ _ (by omega)).mono ?_; rintro e w' ⟨rfl, rfl⟩)
  go_ret2
  exact ⟨rfl, Below.refl _ _⟩

end C
end Go.Proofs.YtlbnofkjjjbfnaaDoor
