/-
  CONTRACTS over sets of colours: whether a number is one, the set of a list, the digits of a number: the program's and the model's functions answer alike; what lay in memory stays. Condition: lists of at most 1048576 numbers.
-/
import Derived.Test.YtdgfceiobpnchaaInts
import Derived.Test.YtdgfceiobpnchaaReachMath
namespace Go.Proofs.Ytdgfceiobpnchaa
open Go.RowKit
namespace C
theorem own_slice {w : World} {base size n : Nat} {e : TypeId} {v : Value} {xs : List Value} (h : w.ownsRow base e size v n xs) : ∃ a c, v = .slice a n c ∧ n ≤ c ∧ c ≤ 9223372036854775807 ∧ OwnAt base w.heap.size w e a xs := by
  have h0 := h
  rcases h.2 with ⟨rfl, rfl⟩ | ⟨g, cap, cur, rfl, _, _, hn, hm, _⟩
  · exact ⟨none, 0, rfl, Nat.le_refl _, by omega, OwnAt.of_own h0⟩
  · unfold maxLen at hm
    exact ⟨_, _, rfl, hn, by omega, OwnAt.of_own h0⟩
theorem own_base {w : World} {B : Nat} {e : TypeId} {size n : Nat} {v : Value} {xs : List Value} (h : w.ownsRow B e size v n xs) : ∀ k, v.ownBlock = some k → B ≤ k := fun k hk => (h.lt k hk).1
theorem ownsRow_empty (w : World) (B : Nat) (e : TypeId) (size : Nat) (hB : B ≤ w.heap.size) : (w.alloc (.cells #[] e)).ownsRow B e size (.slice (some ⟨w.heap.size, 0, none⟩) 0 0) 0 [] :=
  ⟨by simp, .inr ⟨w.heap.size, 0, #[], rfl, hB, heap_alloc_new w _, Nat.le_refl _, by unfold maxLen; omega, by simp, by simp⟩⟩

/-- a list of numbers handed back in memory of the call's own -/
def IntsPost (w : World) (l : List Int) (e : Ending) (w' : World) : Prop :=
  ∃ a c, e = .returned (.slice a l.length c) ∧ OwnAt w.heap.size w'.heap.size w' 3 a (M.encIs l) ∧ l.length ≤ c ∧ c ≤ 9223372036854775807 ∧ Below w.heap.size w w'
/-- the same, and whether it could be done -/
def IntsOkPost (w : World) (l : List Int) (ok : Bool) (e : Ending) (w' : World) : Prop :=
  ∃ a c, e = .returned (.tuple #[.slice a l.length c, .bool ok]) ∧ OwnAt w.heap.size w'.heap.size w' 3 a (M.encIs l) ∧ l.length ≤ c ∧ c ≤ 9223372036854775807 ∧ Below w.heap.size w w'
theorem ints_end {w w' : World} {l : List Int} {v : Value} (h : w'.ownsRow w.heap.size 3 1 v l.length (M.encIs l)) (hb : Below w.heap.size w w') : IntsPost w l (.returned v) w' := by
  obtain ⟨a, c, rfl, h1, h2, h3⟩ := own_slice h
  exact ⟨a, c, rfl, h3, h1, h2, hb⟩
theorem intsOk_end {w w' : World} {l : List Int} {v : Value} {ok : Bool} (h : w'.ownsRow w.heap.size 3 1 v l.length (M.encIs l)) (hb : Below w.heap.size w w') : IntsOkPost w l ok (.returned (.tuple #[v, .bool ok])) w' := by
  obtain ⟨a, c, rfl, h1, h2, h3⟩ := own_slice h
  exact ⟨a, c, rfl, h3, h1, h2, hb⟩

section
set_option maxHeartbeats 800000
set_option maxRecDepth 20000
theorem l1In_any (x a b : Int) (w : World) : Calls Try.prog 65 #[.int .i64 x, .int .i64 a, .int .i64 b] w fun e w' => e = .returned (.bool (M.inB x a b)) ∧ w = w' := by
  have hb : M.inB x a b = (decide (a ≤ x) && decide (x ≤ b)) := by unfold M.inB; simp
  by_cases h : a ≤ x
  · have e : M.inB x a b = decide (x ≤ b) := by rw [hb]; simp [h]
    rw [e]
    clear hb e
    go_enter Try.func65, Try.ntmps65
    go_wp2_with fail
    go_ret
    exact ⟨rfl, rfl⟩
  · have e : M.inB x a b = false := by rw [hb]; simp [h]
    rw [e]
    clear hb e
    have h' : ¬ (a ≤ x) := h
    go_enter Try.func65, Try.ntmps65
    go_wp2_with fail
    go_ret
    exact ⟨rfl, rfl⟩
theorem l1In_yes (x a b : Int) (w : World) (h1 : a ≤ x) (h2 : x ≤ b) : Calls Try.prog 65 #[.int .i64 x, .int .i64 a, .int .i64 b] w fun e w' => e = .returned (.bool true) ∧ w = w' := by
  have := l1In_any x a b w
  rwa [show M.inB x a b = true from decide_eq_true ⟨h1, h2⟩] at this
theorem l1In_no (x a b : Int) (w : World) (h : ¬ (a ≤ x ∧ x ≤ b)) : Calls Try.prog 65 #[.int .i64 x, .int .i64 a, .int .i64 b] w fun e w' => e = .returned (.bool false) ∧ w = w' := by
  have := l1In_any x a b w
  rwa [show M.inB x a b = false from decide_eq_false h] at this
theorem l2Set_any (x : Int) (w : World) : Calls Try.prog 66 #[.int .i64 x] w fun e w' => e = .returned (.bool (M.setB x)) ∧ w = w' := by
  have hb : M.inB x 0 63 = M.setB x := by unfold M.inB M.setB; congr 1; apply propext; omega
  have H := Lib.hid hb
  clear hb
  go_enter Try.func66, Try.ntmps66
  go_wp2_with fail
  refine (l1In_any _ _ _ _).mono ?_
  rintro e w' ⟨rfl, rfl⟩
  rw [H.out]
  go_wp2_with fail
  go_ret
  exact ⟨rfl, rfl⟩
end
end C
end Go.Proofs.Ytdgfceiobpnchaa
