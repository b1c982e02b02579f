/-
  CONTRACTS over sets of colours: whether a number is one, the set of a list, the digits of a number: the program's and the model's functions answer alike; what lay in memory stays. Condition: lists of at most 1048576 numbers.
  CONTRACTS of impl's small functions over mazes: which numbers are nodes, how two doors compare; slices.Compare at two doors; slices.ContainsFunc at a predicate that only reads. No condition but that memory reads so.
  CONTRACTS of impl's small functions over mazes: doors compared, nodes, sizes; slices.ContainsFunc at a predicate that only reads; keys. No condition but that memory reads so.
  CONTRACT of impl.IsMaze: it tells whether a maze is valid; what lay in memory stays. No condition but that the maze reads so.
  CONTRACT of impl.IsMaze: it tells whether a maze is valid; what lay in memory stays. No condition but that the maze reads so.
  CONTRACT of impl.Maze.hasNode in a weaker form: what lay in memory stays. No condition.
  CONTRACT of spec.l2Before: it tells whether a door comes before another one; blocks of its own are all that it lays. No condition.
  CONTRACT of spec.l2Maze and spec.IsMaze: they tell whether a maze is valid; what lay in memory stays. No condition but that the maze reads so.
  WORDS for a row that the call grows beside its boxed parameters, own to these proofs. No condition.
  CONTRACTS of spec.l2Node and of DoorsAt on both sides: the places of all doors at a node, in a new list, ascending, or false; what lay in memory stays. No condition but that the maze reads so.
-/
import Derived.Test.YtcoaggnilgfjfaaInts
import Derived.Test.YtcoaggnilgfjfaaUBase
import Derived.Test.YtcoaggnilgfjfaaOpen
import Derived.Deep.RegionWith
import Derived.BigQuiet
import Derived.Deep.QuietTactic
import Derived.Sort.Row
import Derived.Shelf.Abstract
import Derived.Sort.Grow
import Derived.IntWalk
import Derived.Shelf.SlSortCmp.QuietGrown
namespace Go.Proofs.Ytcoaggnilgfjfaa
open Go.RowKit
namespace C
theorem own_slice {w : World} {base size n : Nat} {e : TypeId} {v : Value} {xs : List Value} (h : w.ownsRow base e size v n xs) : ∃ a c, v = .slice a n c ∧ n ≤ c ∧ c ≤ 9223372036854775807 ∧ OwnAt base w.heap.size w e a xs := by
  have h0 := h
  rcases h.2 with ⟨rfl, rfl⟩ | ⟨g, cap, cur, rfl, _, _, hn, hm, _⟩
  · exact ⟨none, 0, rfl, Nat.le_refl _, by omega, OwnAt.of_own h0⟩
  · unfold maxLen at hm
    exact ⟨_, _, rfl, hn, by omega, OwnAt.of_own h0⟩
theorem own_base {w : World} {B : Nat} {e : TypeId} {size n : Nat} {v : Value} {xs : List Value} (h : w.ownsRow B e size v n xs) : ∀ k, v.ownBlock = some k → B ≤ k := fun k hk => (h.lt k hk).1
theorem ownsRow_empty (w : World) (B : Nat) (e : TypeId) (size : Nat) (hB : B ≤ w.heap.size) : (w.alloc (.cells #[] e)).ownsRow B e size (.slice (some ⟨w.heap.size, 0, none⟩) 0 0) 0 [] :=
  ⟨by simp, .inr ⟨w.heap.size, 0, #[], rfl, hB, heap_alloc_new w _, Nat.le_refl _, by unfold maxLen; omega, by simp, by simp⟩⟩

/-- a list of numbers handed back in memory of the call's own -/
def IntsPost (w : World) (l : List Int) (e : Ending) (w' : World) : Prop :=
  ∃ a c, e = .returned (.slice a l.length c) ∧ OwnAt w.heap.size w'.heap.size w' 3 a (M.encIs l) ∧ l.length ≤ c ∧ c ≤ 9223372036854775807 ∧ Below w.heap.size w w'
/-- the same, and whether it could be done -/
def IntsOkPost (w : World) (l : List Int) (ok : Bool) (e : Ending) (w' : World) : Prop :=
  ∃ a c, e = .returned (.tuple #[.slice a l.length c, .bool ok]) ∧ OwnAt w.heap.size w'.heap.size w' 3 a (M.encIs l) ∧ l.length ≤ c ∧ c ≤ 9223372036854775807 ∧ Below w.heap.size w w'
theorem ints_end {w w' : World} {l : List Int} {v : Value} (h : w'.ownsRow w.heap.size 3 1 v l.length (M.encIs l)) (hb : Below w.heap.size w w') : IntsPost w l (.returned v) w' := by
  obtain ⟨a, c, rfl, h1, h2, h3⟩ := own_slice h
  exact ⟨a, c, rfl, h3, h1, h2, hb⟩
theorem intsOk_end {w w' : World} {l : List Int} {v : Value} {ok : Bool} (h : w'.ownsRow w.heap.size 3 1 v l.length (M.encIs l)) (hb : Below w.heap.size w w') : IntsOkPost w l ok (.returned (.tuple #[v, .bool ok])) w' := by
  obtain ⟨a, c, rfl, h1, h2, h3⟩ := own_slice h
  exact ⟨a, c, rfl, h3, h1, h2, hb⟩

section
set_option maxHeartbeats 800000
set_option maxRecDepth 20000
theorem l1In_any (x a b : Int) (w : World) : Calls Try.prog 84 #[.int .i64 x, .int .i64 a, .int .i64 b] w fun e w' => e = .returned (.bool (M.inB x a b)) ∧ w = w' := by
  have hb : M.inB x a b = (decide (a ≤ x) && decide (x ≤ b)) := by unfold M.inB; simp
  by_cases h : a ≤ x
  · have e : M.inB x a b = decide (x ≤ b) := by rw [hb]; simp [h]
    rw [e]
    clear hb e
    go_enter Try.func84, Try.ntmps84
    go_wp2_with fail
    go_ret
    exact ⟨rfl, rfl⟩
  · have e : M.inB x a b = false := by rw [hb]; simp [h]
    rw [e]
    clear hb e
    have h' : ¬ (a ≤ x) := h
    go_enter Try.func84, Try.ntmps84
    go_wp2_with fail
    go_ret
    exact ⟨rfl, rfl⟩
theorem l1In_yes (x a b : Int) (w : World) (h1 : a ≤ x) (h2 : x ≤ b) : Calls Try.prog 84 #[.int .i64 x, .int .i64 a, .int .i64 b] w fun e w' => e = .returned (.bool true) ∧ w = w' := by
  have := l1In_any x a b w
  rwa [show M.inB x a b = true from decide_eq_true ⟨h1, h2⟩] at this
theorem l1In_no (x a b : Int) (w : World) (h : ¬ (a ≤ x ∧ x ≤ b)) : Calls Try.prog 84 #[.int .i64 x, .int .i64 a, .int .i64 b] w fun e w' => e = .returned (.bool false) ∧ w = w' := by
  have := l1In_any x a b w
  rwa [show M.inB x a b = false from decide_eq_false h] at this
theorem l2Set_any (x : Int) (w : World) : Calls Try.prog 56 #[.int .i64 x] w fun e w' => e = .returned (.bool (M.setB x)) ∧ w = w' := by
  have hb : M.inB x 0 63 = M.setB x := by unfold M.inB M.setB; congr 1; apply propext; omega
  have H := Lib.hid hb
  clear hb
  go_enter Try.func56, Try.ntmps56
  go_wp2_with fail
  refine (l1In_any _ _ _ _).mono ?_
  rintro e w' ⟨rfl, rfl⟩
  rw [H.out]
  go_wp2_with fail
  go_ret
  exact ⟨rfl, rfl⟩
theorem isSet_any (x : Int) (w : World) : Calls Try.prog 60 #[.int .i64 x] w fun e w' => e = .returned (.bool (M.setB x)) ∧ w = w' := by
  have hb : M.setB x = (decide (0 ≤ x) && decide (x ≤ 63)) := by unfold M.setB; rw [show (decide (0 ≤ x) && decide (x ≤ 63)) = decide (0 ≤ x ∧ x ≤ 63) by simp]; congr 1; apply propext; omega
  by_cases h : 0 ≤ x
  · have e : M.setB x = decide (x ≤ 63) := by rw [hb]; simp [h]
    rw [e]
    clear hb e
    go_enter Try.func60, Try.ntmps60
    go_wp2_with fail
    go_ret
    exact ⟨rfl, rfl⟩
  · have e : M.setB x = false := by rw [hb]; simp [h]
    rw [e]
    clear hb e
    go_enter Try.func60, Try.ntmps60
    go_wp2_with fail
    go_ret
    exact ⟨rfl, rfl⟩
end
end C
end Go.Proofs.Ytcoaggnilgfjfaa
namespace Go.Proofs.Ytcoaggnilgfjfaa
open Go.RowKit
namespace M
def cmpI (x y : Int) : Int := if x < y then -1 else if y < x then 1 else 0
def cmpD (d e : Dr) : Int := if ltD d e then -1 else if ltD e d then 1 else 0
end M
namespace C
set_option maxHeartbeats 800000
set_option maxRecDepth 20000
theorem cmp_lt (x y : Int) (w : World) (h : x < y) : Calls Try.prog 103 #[.int .i64 x, .int .i64 y] w fun e w' => e = .returned (.int .i64 (-1)) ∧ w = w' := by
  have hn : ∀ x W, Calls Try.prog 130 #[.int .i64 x] W fun e w' => e = .returned (.bool false) ∧ W = w' := by
    intro x W
    go_enter Try.func130, Try.ntmps130
    go_wp2_with fail
    go_ret
    exact ⟨rfl, rfl⟩
  have HN := Lib.hid hn
  clear hn
  go_enter Try.func103, Try.ntmps103
  go_wp2_with (go_at_call 130; refine (HN.out _ _).mono ?_; rintro e w' ⟨rfl, rfl⟩)
  go_ret
  exact ⟨rfl, rfl⟩
theorem cmp_gt (x y : Int) (w : World) (h : y < x) : Calls Try.prog 103 #[.int .i64 x, .int .i64 y] w fun e w' => e = .returned (.int .i64 1) ∧ w = w' := by
  have hn : ∀ x W, Calls Try.prog 130 #[.int .i64 x] W fun e w' => e = .returned (.bool false) ∧ W = w' := by
    intro x W
    go_enter Try.func130, Try.ntmps130
    go_wp2_with fail
    go_ret
    exact ⟨rfl, rfl⟩
  have HN := Lib.hid hn
  clear hn
  have h' : ¬ x < y := by omega
  go_enter Try.func103, Try.ntmps103
  go_wp2_with (go_at_call 130; refine (HN.out _ _).mono ?_; rintro e w' ⟨rfl, rfl⟩)
  go_ret
  exact ⟨rfl, rfl⟩
theorem cmp_eq (x : Int) (w : World) : Calls Try.prog 103 #[.int .i64 x, .int .i64 x] w fun e w' => e = .returned (.int .i64 0) ∧ w = w' := by
  have hn : ∀ x W, Calls Try.prog 130 #[.int .i64 x] W fun e w' => e = .returned (.bool false) ∧ W = w' := by
    intro x W
    go_enter Try.func130, Try.ntmps130
    go_wp2_with fail
    go_ret
    exact ⟨rfl, rfl⟩
  have HN := Lib.hid hn
  clear hn
  have h' : ¬ x < x := by omega
  go_enter Try.func103, Try.ntmps103
  go_wp2_with (go_at_call 130; refine (HN.out _ _).mono ?_; rintro e w' ⟨rfl, rfl⟩)
  go_ret
  exact ⟨rfl, rfl⟩

theorem compare_any (g1 g2 : Nat) (c1 c2 : Nat) (x1 y1 z1 x2 y2 z2 : Int) (w : World)
    (a0 : w.cell? ⟨g1, 0, none⟩ = some (.int .i64 x1)) (a1 : w.cell? ⟨g1, 1, none⟩ = some (.int .i64 y1)) (a2 : w.cell? ⟨g1, 2, none⟩ = some (.int .i64 z1))
    (b0 : w.cell? ⟨g2, 0, none⟩ = some (.int .i64 x2)) (b1 : w.cell? ⟨g2, 1, none⟩ = some (.int .i64 y2)) (b2 : w.cell? ⟨g2, 2, none⟩ = some (.int .i64 z2)) :
    Calls Try.prog 139 #[.slice (some ⟨g1, 0, none⟩) 3 c1, .slice (some ⟨g2, 0, none⟩) 3 c2] w fun e w' => e = .returned (.int .i64 (M.cmpD (x1, y1, z1) (x2, y2, z2))) ∧ w = w' := by
  rcases Int.lt_trichotomy x1 x2 with h | rfl | h
  · have hc : Hid (M.cmpD (x1, y1, z1) (x2, y2, z2) = -1) := Lib.hid (by unfold M.cmpD M.ltD; simp [h])
    rw [hc.out]
    go_enter Try.func139, Try.ntmps139
    go_wp2_with fail
    refine wp_loop_rounds 4 ?_
    rw [rounds_succ]
    go_wp2_with (go_at_call 103; refine (cmp_lt _ _ _ h).mono ?_; rintro e w' ⟨rfl, rfl⟩)
    go_ret
    exact ⟨rfl, rfl⟩
  · rcases Int.lt_trichotomy y1 y2 with h | rfl | h
    · have hc : Hid (M.cmpD (x1, y1, z1) (x1, y2, z2) = -1) := Lib.hid (by unfold M.cmpD M.ltD; simp [h])
      rw [hc.out]
      go_enter Try.func139, Try.ntmps139
      go_wp2_with fail
      refine wp_loop_rounds 4 ?_
      rw [rounds_succ]
      go_wp2_with (go_at_call 103; refine (cmp_eq _ _).mono ?_; rintro e w' ⟨rfl, rfl⟩)
      rw [rounds_succ]
      go_wp2_with (go_at_call 103; refine (cmp_lt _ _ _ h).mono ?_; rintro e w' ⟨rfl, rfl⟩)
      go_ret
      exact ⟨rfl, rfl⟩
    · rcases Int.lt_trichotomy z1 z2 with h | rfl | h
      · have hc : Hid (M.cmpD (x1, y1, z1) (x1, y1, z2) = -1) := Lib.hid (by unfold M.cmpD M.ltD; simp [h])
        rw [hc.out]
        go_enter Try.func139, Try.ntmps139
        go_wp2_with fail
        refine wp_loop_rounds 4 ?_
        rw [rounds_succ]
        go_wp2_with (go_at_call 103; refine (cmp_eq _ _).mono ?_; rintro e w' ⟨rfl, rfl⟩)
        rw [rounds_succ]
        go_wp2_with (go_at_call 103; refine (cmp_eq _ _).mono ?_; rintro e w' ⟨rfl, rfl⟩)
        rw [rounds_succ]
        go_wp2_with (go_at_call 103; refine (cmp_lt _ _ _ h).mono ?_; rintro e w' ⟨rfl, rfl⟩)
        go_ret
        exact ⟨rfl, rfl⟩
      · have hc : Hid (M.cmpD (x1, y1, z1) (x1, y1, z1) = 0) := Lib.hid (by unfold M.cmpD M.ltD; simp)
        rw [hc.out]
        go_enter Try.func139, Try.ntmps139
        go_wp2_with fail
        refine wp_loop_rounds 4 ?_
        rw [rounds_succ]
        go_wp2_with (go_at_call 103; refine (cmp_eq _ _).mono ?_; rintro e w' ⟨rfl, rfl⟩)
        rw [rounds_succ]
        go_wp2_with (go_at_call 103; refine (cmp_eq _ _).mono ?_; rintro e w' ⟨rfl, rfl⟩)
        rw [rounds_succ]
        go_wp2_with (go_at_call 103; refine (cmp_eq _ _).mono ?_; rintro e w' ⟨rfl, rfl⟩)
        rw [rounds_succ]
        go_wp2_with fail
        go_ret
        exact ⟨rfl, rfl⟩
      · have hc : Hid (M.cmpD (x1, y1, z1) (x1, y1, z2) = 1) := Lib.hid (by unfold M.cmpD M.ltD; simp [h]; omega)
        rw [hc.out]
        go_enter Try.func139, Try.ntmps139
        go_wp2_with fail
        refine wp_loop_rounds 4 ?_
        rw [rounds_succ]
        go_wp2_with (go_at_call 103; refine (cmp_eq _ _).mono ?_; rintro e w' ⟨rfl, rfl⟩)
        rw [rounds_succ]
        go_wp2_with (go_at_call 103; refine (cmp_eq _ _).mono ?_; rintro e w' ⟨rfl, rfl⟩)
        rw [rounds_succ]
        go_wp2_with (go_at_call 103; refine (cmp_gt _ _ _ h).mono ?_; rintro e w' ⟨rfl, rfl⟩)
        go_ret
        exact ⟨rfl, rfl⟩
    · have hc : Hid (M.cmpD (x1, y1, z1) (x1, y2, z2) = 1) := Lib.hid (by unfold M.cmpD M.ltD; simp [h]; omega)
      rw [hc.out]
      go_enter Try.func139, Try.ntmps139
      go_wp2_with fail
      refine wp_loop_rounds 4 ?_
      rw [rounds_succ]
      go_wp2_with (go_at_call 103; refine (cmp_eq _ _).mono ?_; rintro e w' ⟨rfl, rfl⟩)
      rw [rounds_succ]
      go_wp2_with (go_at_call 103; refine (cmp_gt _ _ _ h).mono ?_; rintro e w' ⟨rfl, rfl⟩)
      go_ret
      exact ⟨rfl, rfl⟩
  · have hc : Hid (M.cmpD (x1, y1, z1) (x2, y2, z2) = 1) := Lib.hid (by unfold M.cmpD M.ltD; simp [h]; omega)
    rw [hc.out]
    go_enter Try.func139, Try.ntmps139
    go_wp2_with fail
    refine wp_loop_rounds 4 ?_
    rw [rounds_succ]
    go_wp2_with (go_at_call 103; refine (cmp_gt _ _ _ h).mono ?_; rintro e w' ⟨rfl, rfl⟩)
    go_ret
    exact ⟨rfl, rfl⟩
end C
end Go.Proofs.Ytcoaggnilgfjfaa
namespace Go.Proofs.Ytcoaggnilgfjfaa
open Go.RowKit
namespace C
set_option maxHeartbeats 800000
set_option maxRecDepth 20000
theorem compareDoors_any (d e : M.Dr) (w : World) :
    Calls Try.prog 116 #[.agg #[.int .i64 d.1, .int .i64 d.2.1, .int .i64 d.2.2], .agg #[.int .i64 e.1, .int .i64 e.2.1, .int .i64 e.2.2]] w fun en w' => en = .returned (.int .i64 (M.cmpD d e)) ∧ ∃ q os, w' = Sort.grow (w.drewN q) os := by
  obtain ⟨x1, y1, z1⟩ := d
  obtain ⟨x2, y2, z2⟩ := e
  go_enter Try.func116, Try.ntmps116
  go_wp2_with fail
  go_region_with (go_at_call 139; refine (compare_any _ _ _ _ x1 y1 z1 x2 y2 z2 _ (by go_simp) (by go_simp) (by go_simp) (by go_simp) (by go_simp) (by go_simp)).mono ?_; rintro e w' ⟨rfl, rfl⟩)
  all_goals
    go_wp2_with fail
    go_ret
    exact ⟨rfl, 1, _, by rw [Sort.alloc_eq_grow, Sort.alloc_eq_grow, Sort.grow_grow]; rfl⟩
theorem hasNode_any (m : M.Mz) (a b : Option Addr) (c d : Nat) (x : Int) (w : World) :
    Calls Try.prog 115 #[.agg #[.int .i64 m.size, .slice a m.doors.length c, .slice b m.keys.length d], .int .i64 x] w fun e w' => e = .returned (.bool (M.nodeB m.size x)) ∧ w.alloc (.cells #[.int .i64 m.size, .slice a m.doors.length c, .slice b m.keys.length d] 29) = w' := by
  have hb : M.nodeB m.size x = (decide (0 ≤ x) && decide (x < m.size)) := by unfold M.nodeB; simp
  by_cases h : 0 ≤ x
  · have e : M.nodeB m.size x = decide (x < m.size) := by rw [hb]; simp [h]
    rw [e]
    clear hb e
    go_enter Try.func115, Try.ntmps115
    go_wp2_with fail
    go_ret
    exact ⟨rfl, rfl⟩
  · have e : M.nodeB m.size x = false := by rw [hb]; simp [h]
    rw [e]
    clear hb e
    go_enter Try.func115, Try.ntmps115
    go_wp2_with fail
    go_ret
    exact ⟨rfl, rfl⟩
theorem validSize_any (m : M.Mz) (a b : Option Addr) (c d : Nat) (w : World) :
    Calls Try.prog 90 #[.agg #[.int .i64 m.size, .slice a m.doors.length c, .slice b m.keys.length d]] w fun e w' => e = .returned (.bool (M.sizeB m)) ∧ Below w.heap.size w w' := by
  have hb : M.sizeB m = (decide (1 ≤ m.size) && decide (m.size ≤ 12)) := by unfold M.sizeB; simp
  by_cases h : 1 ≤ m.size
  · have e : M.sizeB m = decide (m.size ≤ 12) := by rw [hb]; simp [h]
    rw [e]
    clear hb e
    go_enter Try.func90, Try.ntmps90
    go_wp2_with fail
    go_ret
    exact ⟨rfl, below_alloc _ _⟩
  · have e : M.sizeB m = false := by rw [hb]; simp [h]
    rw [e]
    clear hb e
    go_enter Try.func90, Try.ntmps90
    go_wp2_with fail
    go_ret
    exact ⟨rfl, below_alloc _ _⟩

/-- what is asked of a predicate handed to slices.ContainsFunc: it answers p, and leaves what lies in w as it is -/
def PredOk (g : Nat) (lb : Array Value) (p : Int → Bool) (w : World) : Prop :=
  ∀ W x, Below w.heap.size w W → Calls Try.prog g (#[.int .i64 x] ++ lb) W fun e w' => e = .returned (.bool (p x)) ∧ Below W.heap.size W w'
theorem indexFunc_any (g : Nat) (lb : Array Value) (p : Int → Bool) (eg : ∀ args w, (callFunc g args).run Try.prog w = .ok (.enter g args) w) (w : World) (lo hi : Nat) (a : Option Addr) (c : Nat) (l : List Int)
    (hp : PredOk g lb p w) (h : RowIn lo hi w a (M.encIs l)) (hz : hi ≤ w.heap.size) (hl : l.length ≤ 1048576) :
    Calls Try.prog 99 #[.slice a l.length c, .func (.func g) #[] lb] w fun e w' => (∃ i : Int, e = .returned (.int .i64 i) ∧ decide (0 ≤ i) = l.any p) ∧ Below w.heap.size w w' := by
  have h' := Lib.hid h
  have HP := Lib.hid hp
  clear h hp
  go_enter Try.func99, Try.ntmps99
  go_wp2_with fail
  go_loopw [5, 8] (fun _ i wr => ∃ (k : Nat), k ≤ l.length ∧ i = .int .i64 k ∧ (∀ j (hj : j < l.length), j < k → p l[j] = false) ∧ Below w.heap.size w wr) (fun _ i _ => l.length - (intOf i).toNat)
  case atStart => exact ⟨0, Nat.zero_le _, rfl, fun j _ h => by omega, Below.refl _ _⟩
  case round =>
    obtain ⟨k, hk, rfl, hall, hnx⟩ := hrel
    have HA := Lib.hid hall
    have HN := Lib.hid hnx
    have hzr := hnx.size
    clear hall hnx
    by_cases hlt : k < l.length
    · obtain ⟨b, off, rfl, _, hb, hc0⟩ := h'.out.at_ (k := k) (by rw [M.encIs_len]; exact hlt)
      have hc : wr.cell? ⟨b, off + k, none⟩ = some (.int .i64 l[k]) := (HN.out.cell (p := ⟨b, off + k, none⟩) (Nat.lt_of_lt_of_le hb hz)).trans (hc0 k _ (M.encIs_at hlt))
      clear hc0
      have CP := Lib.hid (HP.out wr l[k] HN.out)
      cases hq : p l[k] with
      | true =>
        rw [hq] at CP
        have HQ := Lib.hid hq
        clear hq
        go_wp2_with (go_at_fn g; refine (CP.out).mono ?_; rintro e w' ⟨rfl, hb2⟩)
        go_ret
        exact ⟨⟨k, rfl, by rw [List.any_eq_true.2 ⟨_, List.getElem_mem hlt, HQ.out⟩]; simp⟩, HN.out.trans (hb2.mono hzr)⟩
      | false =>
        rw [hq] at CP
        have HQ := Lib.hid hq
        clear hq
        go_wp2_with (go_at_fn g; refine (CP.out).mono ?_; rintro e w' ⟨rfl, hb2⟩)
        go_roundw
        case rel => exact ⟨k + 1, by omega, by go_num, fun j hj hjk => by
            rcases Nat.lt_or_ge j k with h | h
            · exact HA.out j hj h
            · obtain rfl : j = k := by omega
              exact HQ.out, HN.out.trans (hb2.mono hzr)⟩
        case measure => simp [intOf]; omega
    · obtain rfl : k = l.length := by omega
      have HF : Hid (l.any p = false) := Lib.hid (by
        rw [List.any_eq_false]
        intro x hx
        obtain ⟨j, hj, rfl⟩ := List.mem_iff_getElem.1 hx
        rw [HA.out j hj hj]
        decide)
      go_wp2_with fail
      go_ret
      exact ⟨⟨-1, rfl, by rw [HF.out]; rfl⟩, HN.out⟩
theorem containsFunc_any (g : Nat) (lb : Array Value) (p : Int → Bool) (eg : ∀ args w, (callFunc g args).run Try.prog w = .ok (.enter g args) w) (w : World) (lo hi : Nat) (a : Option Addr) (c : Nat) (l : List Int)
    (hp : PredOk g lb p w) (h : RowIn lo hi w a (M.encIs l)) (hz : hi ≤ w.heap.size) (hl : l.length ≤ 1048576) :
    Calls Try.prog 73 #[.slice a l.length c, .func (.func g) #[] lb] w fun e w' => e = .returned (.bool (l.any p)) ∧ Below w.heap.size w w' := by
  have CI := Lib.hid (indexFunc_any g lb p eg w lo hi a c l hp h hz hl)
  clear hp h
  go_enter Try.func73, Try.ntmps73
  go_wp2_with fail
  refine CI.out.mono ?_
  rintro e w1 ⟨⟨i, rfl, hi⟩, hb⟩
  have HI := Lib.hid hi
  have HB := Lib.hid hb
  clear hi hb
  go_wp2_with fail
  go_ret
  exact ⟨by rw [← HI.out]; rfl, HB.out⟩
end C
end Go.Proofs.Ytcoaggnilgfjfaa
namespace Go.Proofs.Ytcoaggnilgfjfaa
open Go.RowKit
namespace C
set_option maxHeartbeats 800000
set_option maxRecDepth 20000
theorem notSet_any (x : Int) (w : World) : Calls Try.prog 114 #[.int .i64 x] w fun e w' => e = .returned (.bool (!M.setB x)) ∧ w = w' := by
  go_enter Try.func114, Try.ntmps114
  go_wp2_with fail
  refine (isSet_any _ _).mono ?_
  rintro e w' ⟨rfl, rfl⟩
  go_wp2_with fail
  go_ret
  exact ⟨rfl, rfl⟩
theorem keysB_any (l : List Int) : M.keysB l = !(l.any fun x => !M.setB x) := by
  unfold M.keysB
  rw [List.all_eq_not_any_not]
def keysLenB (m : M.Mz) : Bool := decide ((m.keys.length : Int) = m.size)
theorem validKeys_any (w : World) (lo hi : Nat) (m : M.Mz) (a b : Option Addr) (c d : Nat) (h : MzIn lo hi w m a c b d) (hz : hi ≤ w.heap.size) (hs : m.size ≤ 12) :
    Calls Try.prog 91 #[.agg #[.int .i64 m.size, .slice a m.doors.length c, .slice b m.keys.length d]] w fun e w' => e = .returned (.bool (keysLenB m && M.keysB m.keys)) ∧ Below w.heap.size w w' := by
  have H := Lib.hid h
  have hd1 := h.d1
  have hd2 := h.d2
  clear h
  by_cases hl : (m.keys.length : Int) = m.size
  · have HL : Hid (keysLenB m = true) := Lib.hid (decide_eq_true hl)
    have hbl : (((m.keys.length : Nat) : Int) == m.size) = true := by simpa using hl
    have hle : m.keys.length ≤ 12 := by omega
    have HK := Lib.hid (keysB_any m.keys)
    rw [HL.out, Bool.true_and]
    clear hl
    go_enter Try.func91, Try.ntmps91
    go_wp2_with fail
    refine named ?_
    intro W hW
    have hb : Below w.heap.size w W := by rw [hW]; exact (Below.refl _ _).alloc (Nat.le_refl _) _
    clear hW
    have HB := Lib.hid hb
    have hzw := hb.size
    refine (containsFunc_any 114 #[] (fun x => !M.setB x) (enters_of Try.func114 (by kernel_rfl) rfl) W lo hi b d m.keys (fun W' x _ => (notSet_any x W').mono fun _ _ ⟨he, hw⟩ => ⟨he, by rw [← hw]; exact Below.refl _ _⟩) (H.out.below hb hz).keys (by omega) (by omega)).mono ?_
    rintro e w1 ⟨rfl, hb1⟩
    have HB1 := Lib.hid (hb.trans (hb1.mono hzw))
    clear hb1 hb
    go_wp2_with fail
    go_ret
    exact ⟨by rw [HK.out]; rfl, HB1.out⟩
  · have HL : Hid (keysLenB m = false) := Lib.hid (decide_eq_false hl)
    have hbl : (((m.keys.length : Nat) : Int) == m.size) = false := by simpa using hl
    rw [HL.out, Bool.false_and]
    clear hl
    go_enter Try.func91, Try.ntmps91
    go_wp2_with fail
    go_ret
    exact ⟨rfl, below_alloc _ _⟩
theorem cmpD_lt {d e : M.Dr} : M.cmpD d e < 0 ↔ M.ltD d e = true := by
  unfold M.cmpD
  split
  · rename_i h; simp [h]
  · rename_i h; split <;> simp_all

theorem stepB_no1 {n : Int} {l : List M.Dr} {k : Nat} (h : k < l.length) (hd : M.doorB n l[k] = false) : M.doorsB n l = false := by
  refine M.all_range_no h ?_
  rw [Bool.eq_false_iff]
  intro hs
  have := ((M.stepB_iff h).1 hs).1
  rw [hd] at this
  cases this
theorem stepB_no2 {n : Int} {l : List M.Dr} {k : Nat} (h : k < l.length) (h0 : 0 < k) (hd : M.ltD (l.getD (k - 1) default) l[k] = false) : M.doorsB n l = false := by
  refine M.all_range_no h ?_
  rw [Bool.eq_false_iff]
  intro hs
  have := ((M.stepB_iff h).1 hs).2 h0
  rw [hd] at this
  cases this
def fewB (m : M.Mz) : Bool := decide (m.doors.length ≤ 30)
def DoorsPost (w : World) (m : M.Mz) (e : Ending) (w' : World) : Prop := e = .returned (.bool (fewB m && M.doorsB m.size m.doors)) ∧ Below w.heap.size w w'
theorem validDoors_any (w : World) (lo hi : Nat) (m : M.Mz) (a b : Option Addr) (c d : Nat) (h : MzIn lo hi w m a c b d) (hz : hi ≤ w.heap.size) :
    Calls Try.prog 92 #[.agg #[.int .i64 m.size, .slice a m.doors.length c, .slice b m.keys.length d]] w (DoorsPost w m) := by
  have H := Lib.hid h
  have hc1 := h.c1
  have hc2 := h.c2
  clear h
  by_cases hl : m.doors.length ≤ 30
  · have HL : Hid (fewB m = true) := Lib.hid (decide_eq_true hl)
    go_enter Try.func92, Try.ntmps92
    go_wp2_with fail
    go_loopw [3, 4, 12] (fun _ _ i wr => ∃ (k : Nat), k ≤ m.doors.length ∧ i = .int .i64 k ∧ (∀ j, j < k → M.stepB m.size m.doors j = true) ∧ Box3 wr w.heap.size 29 (.int .i64 m.size) (.slice a m.doors.length c) (.slice b m.keys.length d) ∧ Below w.heap.size w wr) (fun _ _ i _ => m.doors.length - (intOf i).toNat)
    case atStart => exact ⟨0, Nat.zero_le _, rfl, fun j h => by omega, Box3.new _ _ _ _ rfl, below_alloc _ _⟩
    case round =>
      obtain ⟨k, hk, rfl, hall, hbox, hnx⟩ := hrel
      have HA := Lib.hid hall
      have HN := Lib.hid hnx
      have HBX := Lib.hid hbox
      have hzr := hnx.size
      have hbl := hbox.lt
      obtain ⟨x0, x1, x2⟩ := hbox.cells
      clear hall hnx hbox
      by_cases hlt : k < m.doors.length
      · obtain ⟨db, off, rfl, _, hb, hc0⟩ := (H.out.doors.below HN.out hz).at_ (k := k * 3) (by rw [M.encDs_len]; omega)
        have a0 := hc0 _ _ (M.encDs_at0 hlt)
        have a1 : wr.cell? ⟨db, off + k * 3 + 1, none⟩ = some (.int .i64 m.doors[k].2.1) := hc0 _ _ (M.encDs_at1 hlt)
        have a2 : wr.cell? ⟨db, off + k * 3 + 2, none⟩ = some (.int .i64 m.doors[k].2.2) := hc0 _ _ (M.encDs_at2 hlt)
        have HC := Lib.hid hc0
        clear hc0
        generalize hdk : m.doors[k] = dk at a0 a1 a2
        have HDK := Lib.hid hdk
        clear hdk
        obtain ⟨dx, dy, dz⟩ := dk
        have hD : M.doorB m.size m.doors[k] = (M.nodeB m.size dx && M.nodeB m.size dy && decide (dx < dy) && M.setB dz) := by
          rw [HDK.out]
          unfold M.doorB M.nodeB M.setB
          rw [Bool.eq_iff_iff]
          simp only [Bool.and_eq_true, decide_eq_true_eq]
          omega
        have HD := Lib.hid hD
        clear hD
        simp only at a0 a1 a2
        cases q0 : M.nodeB m.size dx with
        | false =>
          have HF : Hid (M.doorsB m.size m.doors = false) := Lib.hid (stepB_no1 hlt (by rw [HD.out, q0]; rfl))
          have Q0 := Lib.hid q0
          clear q0
          go_wp2_with fail
          refine (hasNode_any m _ _ _ _ _ _).mono ?_
          rintro e w1 ⟨rfl, rfl⟩
          rw [Q0.out]
          go_wp2_with fail
          go_ret
          exact ⟨by rw [HL.out, HF.out]; rfl, by (repeat (first | exact HN.out | (refine Below.alloc ?_ (by first | omega | (simp; omega)) _) | (refine Below.drawnN ?_ _)))⟩
        | true =>
          have Q0 := Lib.hid q0
          clear q0
          cases q1 : M.nodeB m.size dy with
          | false =>
            have HF : Hid (M.doorsB m.size m.doors = false) := Lib.hid (stepB_no1 hlt (by rw [HD.out, q1, Q0.out]; rfl))
            have Q1 := Lib.hid q1
            clear q1
            go_wp2_with fail
            refine (hasNode_any m _ _ _ _ _ _).mono ?_
            rintro e w1 ⟨rfl, rfl⟩
            rw [Q0.out]
            go_wp2_with fail
            refine (hasNode_any m _ _ _ _ _ _).mono ?_
            rintro e w1 ⟨rfl, rfl⟩
            rw [Q1.out]
            go_wp2_with fail
            go_ret
            exact ⟨by rw [HL.out, HF.out]; rfl, by (repeat (first | exact HN.out | (refine Below.alloc ?_ (by first | omega | (simp; omega)) _) | (refine Below.drawnN ?_ _)))⟩
          | true =>
            have Q1 := Lib.hid q1
            clear q1
            by_cases q2 : dx < dy
            · cases q3 : M.setB dz with
              | false =>
                have HF : Hid (M.doorsB m.size m.doors = false) := Lib.hid (stepB_no1 hlt (by rw [HD.out, q3, Q0.out, Q1.out]; simp))
                have Q3 := Lib.hid q3
                clear q3
                go_wp2_with fail
                refine (hasNode_any m _ _ _ _ _ _).mono ?_
                rintro e w1 ⟨rfl, rfl⟩
                rw [Q0.out]
                go_wp2_with fail
                refine (hasNode_any m _ _ _ _ _ _).mono ?_
                rintro e w1 ⟨rfl, rfl⟩
                rw [Q1.out]
                go_wp2_with fail
                refine (isSet_any _ _).mono ?_
                rintro e w1 ⟨rfl, rfl⟩
                rw [Q3.out]
                go_wp2_with fail
                go_ret
                exact ⟨by rw [HL.out, HF.out]; rfl, by (repeat (first | exact HN.out | (refine Below.alloc ?_ (by first | omega | (simp; omega)) _) | (refine Below.drawnN ?_ _)))⟩
              | true =>
                have Q3 := Lib.hid q3
                clear q3
                have HY : Hid (M.doorB m.size m.doors[k] = true) := Lib.hid (by rw [HD.out, Q0.out, Q1.out, Q3.out, decide_eq_true q2]; rfl)
                rcases Nat.eq_zero_or_pos k with hk0 | hk0
                · have hk1 : ¬ 0 < k := by omega
                  have hg : decide ((0 : Int) < (k : Int)) = false := decide_eq_false (by omega)
                  have HS : Hid (M.stepB m.size m.doors k = true) := Lib.hid ((M.stepB_iff hlt).2 ⟨HY.out, fun h => absurd h hk1⟩)
                  have HK0 := Lib.hid hk0
                  clear hk0
                  go_wp2_with fail
                  refine (hasNode_any m _ _ _ _ _ _).mono ?_
                  rintro e w1 ⟨rfl, rfl⟩
                  rw [Q0.out]
                  go_wp2_with fail
                  refine (hasNode_any m _ _ _ _ _ _).mono ?_
                  rintro e w1 ⟨rfl, rfl⟩
                  rw [Q1.out]
                  go_wp2_with fail
                  refine (isSet_any _ _).mono ?_
                  rintro e w1 ⟨rfl, rfl⟩
                  rw [Q3.out]
                  go_wp2_with fail
                  go_quiet (fail)
                  go_wp2_with fail
                  go_roundw
                  case rel => exact ⟨k + 1, by omega, by go_num, fun j hj => by
                    rcases Nat.lt_or_ge j k with h | h
                    · exact HA.out j h
                    · obtain rfl : j = k := by omega
                      exact HS.out, ((HBX.out.alloc _).alloc _).alloc _, by (repeat (first | exact HN.out | (refine Below.alloc ?_ (by first | omega | (simp; omega)) _) | (refine Below.drawnN ?_ _)))⟩
                  case measure => simp [intOf]; omega
                · obtain ⟨j, rfl⟩ : ∃ j, k = j + 1 := ⟨k - 1, by omega⟩
                  obtain ⟨r, hr⟩ : ∃ r, r = M.cmpD (m.doors[j]'(by omega)) (dx, dy, dz) := ⟨_, rfl⟩
                  have CP := Lib.hid (fun W => compareDoors_any (m.doors[j]'(by omega)) (dx, dy, dz) W)
                  rw [← hr] at CP
                  have hgd : M.ltD (m.doors.getD (j + 1 - 1) default) m.doors[j + 1] = M.ltD (m.doors[j]'(by omega)) (dx, dy, dz) := by
                    rw [HDK.out, Nat.add_sub_cancel, List.getD_eq_getElem?_getD, List.getElem?_eq_getElem (by omega)]
                    rfl
                  have HR : Hid (r < 0 ↔ M.ltD (m.doors.getD (j + 1 - 1) default) m.doors[j + 1] = true) := Lib.hid (by rw [hgd, hr]; exact cmpD_lt)
                  clear hr hgd
                  have p0 : wr.cell? ⟨db, off + j * 3, none⟩ = some (.int .i64 (m.doors[j]'(by omega)).1) := HC.out _ _ (M.encDs_at0 (by omega))
                  have p1 : wr.cell? ⟨db, off + j * 3 + 1, none⟩ = some (.int .i64 (m.doors[j]'(by omega)).2.1) := HC.out _ _ (M.encDs_at1 (by omega))
                  have p2 : wr.cell? ⟨db, off + j * 3 + 2, none⟩ = some (.int .i64 (m.doors[j]'(by omega)).2.2) := HC.out _ _ (M.encDs_at2 (by omega))
                  go_wp2_with fail
                  refine (hasNode_any m _ _ _ _ _ _).mono ?_
                  rintro e w1 ⟨rfl, rfl⟩
                  rw [Q0.out]
                  go_wp2_with fail
                  refine (hasNode_any m _ _ _ _ _ _).mono ?_
                  rintro e w1 ⟨rfl, rfl⟩
                  rw [Q1.out]
                  go_wp2_with fail
                  refine (isSet_any _ _).mono ?_
                  rintro e w1 ⟨rfl, rfl⟩
                  rw [Q3.out]
                  go_wp2_with fail
                  refine wp_named ?_
                  intro W hW
                  have hbW : Below wr.heap.size wr W := by rw [hW]; exact (((Below.refl _ _).alloc (by omega) _).alloc (by simp) _).alloc (by simp; omega) _
                  have hdb : Box3 W wr.heap.size 69 (.int .i64 dx) (.int .i64 dy) (.int .i64 dz) := by rw [hW]; exact ((Box3.new _ _ _ _ rfl).alloc _).alloc _
                  clear hW
                  have hmb := HBX.out.below hbW
                  obtain ⟨m0, m1, m2⟩ := hmb.cells
                  obtain ⟨e0, e1, e2⟩ := hdb.cells
                  have hdw : db < wr.heap.size := by omega
                  have hw1 : IntKind.i64.wrap ((j : Int) + 1 - 1) = (j : Int) := by rw [IntWalk.i64_in _ (by omega)]; omega
                  have hw2 : IntKind.i64.wrap (j : Int) = (j : Int) := IntWalk.i64_in _ (by omega)
                  have hjl : j < m.doors.length := by omega
                  have hjl2 : (j : Int) < (m.doors.length : Int) := by omega
                  have r0 := (hbW.cell (p := ⟨db, off + j * 3, none⟩) hdw).trans p0
                  have r1 := (hbW.cell (p := ⟨db, off + j * 3 + 1, none⟩) hdw).trans p1
                  have r2 := (hbW.cell (p := ⟨db, off + j * 3 + 2, none⟩) hdw).trans p2
                  have hdl := hdb.lt
                  have hml := hmb.lt
                  have M1 := cell_grown hml m1
                  have E0 := cell_grown hdl e0
                  have E1 := cell_grown hdl e1
                  have E2 := cell_grown hdl e2
                  have hdW : db < W.heap.size := by have := hbW.size; omega
                  have R0 := cell_grown (a := ⟨db, off + j * 3, none⟩) hdW r0
                  have R1 := cell_grown (a := ⟨db, off + j * 3 + 1, none⟩) hdW r1
                  have R2 := cell_grown (a := ⟨db, off + j * 3 + 2, none⟩) hdW r2
                  have mixed : Try.prog.follows .mixedOrders = true := by kernel_rfl
                  have HMB := Lib.hid hmb
                  have hzW := hbW.size
                  have HBW := Lib.hid (HN.out.trans (hbW.mono hzr))
                  clear hmb hdb p0 p1 p2 x0 x1 x2 a0 a1 a2 hbW m0 m1 m2 e0 e1 e2 r0 r1 r2
                  have hg : decide ((0 : Int) < (j : Int) + 1) = true := decide_eq_true (by omega)
                  by_cases hr0 : r < 0
                  · have HS : Hid (M.stepB m.size m.doors (j + 1) = true) := Lib.hid ((M.stepB_iff hlt).2 ⟨HY.out, fun _ => HR.out.1 hr0⟩)
                    go_quiet_grown (first | (go_at_call 116; refine Calls.grown_of (CP.out _)))
                    go_wp2_with fail
                    go_roundw
                    case rel => exact ⟨j + 1 + 1, by omega, by go_num, fun i hi => by
                      rcases Nat.lt_or_ge i (j + 1) with h | h
                      · exact HA.out i h
                      · obtain rfl : i = j + 1 := by omega
                        exact HS.out, HMB.out.below (below_grown W _ _), HBW.out.trans ((below_grown W _ _).mono (by omega))⟩
                    case measure => simp [intOf]; omega
                  · have HF : Hid (M.doorsB m.size m.doors = false) := Lib.hid (stepB_no2 hlt (by omega) (by
                      rw [Bool.eq_false_iff]
                      exact fun h => hr0 (HR.out.2 h)))
                    go_quiet_grown (first | (go_at_call 116; refine Calls.grown_of (CP.out _)))
                    go_wp2_with fail
                    go_ret
                    exact ⟨by rw [HL.out, HF.out]; rfl, HBW.out.trans ((below_grown W _ _).mono (by omega))⟩
            · have HF : Hid (M.doorsB m.size m.doors = false) := Lib.hid (stepB_no1 hlt (by rw [HD.out, decide_eq_false q2]; simp))
              go_wp2_with fail
              refine (hasNode_any m _ _ _ _ _ _).mono ?_
              rintro e w1 ⟨rfl, rfl⟩
              rw [Q0.out]
              go_wp2_with fail
              refine (hasNode_any m _ _ _ _ _ _).mono ?_
              rintro e w1 ⟨rfl, rfl⟩
              rw [Q1.out]
              go_wp2_with fail
              go_ret
              exact ⟨by rw [HL.out, HF.out]; rfl, by (repeat (first | exact HN.out | (refine Below.alloc ?_ (by first | omega | (simp; omega)) _) | (refine Below.drawnN ?_ _)))⟩
      · obtain rfl : k = m.doors.length := by omega
        have HF : Hid (M.doorsB m.size m.doors = true) := Lib.hid (M.all_range_take.2 HA.out)
        go_wp2_with fail
        go_ret
        exact ⟨by rw [HL.out, HF.out]; rfl, HN.out⟩
  · have HL : Hid (fewB m = false) := Lib.hid (decide_eq_false hl)
    have hl' : 30 < m.doors.length := by omega
    go_enter Try.func92, Try.ntmps92
    go_wp2_with fail
    go_ret
    exact ⟨by rw [HL.out]; rfl, below_alloc _ _⟩
end C
end Go.Proofs.Ytcoaggnilgfjfaa
namespace Go.Proofs.Ytcoaggnilgfjfaa
open Go.RowKit
namespace C
set_option maxHeartbeats 800000
set_option maxRecDepth 20000
theorem mazeB_parts (m : M.Mz) : M.mazeB m = (M.sizeB m && ((keysLenB m && M.keysB m.keys) && (fewB m && M.doorsB m.size m.doors))) := by
  unfold M.mazeB M.shapeB M.sizeB keysLenB fewB
  rw [Bool.eq_iff_iff]
  simp only [Bool.and_eq_true, decide_eq_true_eq]
  constructor
  · rintro ⟨⟨⟨h1, h2, h3, h4⟩, h5⟩, h6⟩
    exact ⟨⟨h1, h2⟩, ⟨h4, h6⟩, h3, h5⟩
  · rintro ⟨⟨h1, h2⟩, ⟨h4, h6⟩, h3, h5⟩
    exact ⟨⟨⟨h1, h2, h3, h4⟩, h5⟩, h6⟩
def BoolPost (w : World) (r : Bool) (e : Ending) (w' : World) : Prop := e = .returned (.bool r) ∧ Below w.heap.size w w'
theorem isMaze_any (w : World) (lo hi : Nat) (m : M.Mz) (a b : Option Addr) (c d : Nat) (h : MzIn lo hi w m a c b d) (hz : hi ≤ w.heap.size) :
    Calls Try.prog 59 #[.agg #[.int .i64 m.size, .slice a m.doors.length c, .slice b m.keys.length d]] w (BoolPost w (M.mazeB m)) := by
  have H := Lib.hid h
  have HP := Lib.hid (mazeB_parts m)
  clear h
  go_enter Try.func59, Try.ntmps59
  go_wp2_with fail
  refine wp_loop_rounds 4 ?_
  rw [rounds_succ]
  go_wp2_with fail
  refine named ?_
  intro W hW
  have hb : Below w.heap.size w W := by rw [hW]; exact ((Below.refl _ _).alloc (Nat.le_refl _) _).alloc (by simp) _
  have x1 : Box3 W w.heap.size 29 (.int .i64 m.size) (.slice a m.doors.length c) (.slice b m.keys.length d) := by rw [hW]; exact (Box3.new _ _ _ _ rfl).alloc _
  have x2 : Box3 W (w.heap.size + 1) 49 (.func (.func 90) #[] #[]) (.func (.func 91) #[] #[]) (.func (.func 92) #[] #[]) := by rw [hW]; exact Box3.new _ _ _ _ (by simp)
  clear hW
  have hzw := hb.size
  have HB := Lib.hid hb
  refine (validSize_any m a b c d W).mono ?_
  rintro e w1 ⟨rfl, hb1⟩
  have X1 := x1.below hb1
  have X2 := x2.below hb1
  obtain ⟨c10, c11, c12⟩ := X1.cells
  obtain ⟨c20, c21, c22⟩ := X2.cells
  have hz1 := hb1.size
  have HX1 := Lib.hid X1
  have HX2 := Lib.hid X2
  have HB1 := Lib.hid (hb.trans (hb1.mono hzw))
  clear x1 x2 hb hb1 X1 X2
  cases q0 : M.sizeB m with
  | false =>
    have HF : Hid (M.mazeB m = false) := Lib.hid (by rw [HP.out, q0]; rfl)
    clear q0
    go_wp2_with fail
    go_ret
    exact ⟨by rw [HF.out]; rfl, HB1.out⟩
  | true =>
    have hs12 : m.size ≤ 12 := by unfold M.sizeB at q0; exact (decide_eq_true_iff.1 q0).2
    have Q0 := Lib.hid q0
    clear q0
    go_wp2_with fail
    rw [rounds_succ]
    go_wp2_with fail
    refine (validKeys_any w1 lo hi m a b c d (H.out.below HB1.out hz) (by omega) hs12).mono ?_
    rintro e w2 ⟨rfl, hb2⟩
    clear c10 c11 c12 c20 c21 c22
    have X1 := HX1.out.below hb2
    have X2 := HX2.out.below hb2
    obtain ⟨c10, c11, c12⟩ := X1.cells
    obtain ⟨c20, c21, c22⟩ := X2.cells
    have hz2 := hb2.size
    have HB2 := Lib.hid (HB1.out.trans (hb2.mono (by omega)))
    clear hb2 X1 X2
    cases q1 : (keysLenB m && M.keysB m.keys) with
    | false =>
      have HF : Hid (M.mazeB m = false) := Lib.hid (by rw [HP.out, q1, Q0.out]; rfl)
      clear q1
      go_wp2_with fail
      go_ret
      exact ⟨by rw [HF.out]; rfl, HB2.out⟩
    | true =>
      have Q1 := Lib.hid q1
      clear q1
      go_wp2_with fail
      rw [rounds_succ]
      go_wp2_with fail
      refine (validDoors_any w2 lo hi m a b c d (H.out.below HB2.out hz) (by omega)).mono ?_
      rintro e w3 ⟨rfl, hb3⟩
      clear c10 c11 c12 c20 c21 c22
      have HB3 := Lib.hid (HB2.out.trans (hb3.mono (by omega)))
      clear hb3
      cases q2 : (fewB m && M.doorsB m.size m.doors) with
      | false =>
        have HF : Hid (M.mazeB m = false) := Lib.hid (by rw [HP.out, q2, Q0.out, Q1.out]; rfl)
        clear q2
        go_wp2_with fail
        go_ret
        exact ⟨by rw [HF.out]; rfl, HB3.out⟩
      | true =>
        have HF : Hid (M.mazeB m = true) := Lib.hid (by rw [HP.out, q2, Q0.out, Q1.out]; rfl)
        clear q2
        go_wp2_with fail
        rw [rounds_succ]
        go_wp2_with fail
        go_ret
        exact ⟨by rw [HF.out]; rfl, HB3.out⟩
end C
end Go.Proofs.Ytcoaggnilgfjfaa
namespace Go.Proofs.Ytcoaggnilgfjfaa
open Go.RowKit
namespace C
theorem hasNode_b (m : M.Mz) (a b : Option Addr) (c d : Nat) (x : Int) (w : World) :
    Calls Try.prog 115 #[.agg #[.int .i64 m.size, .slice a m.doors.length c, .slice b m.keys.length d], .int .i64 x] w fun e w' => e = .returned (.bool (M.nodeB m.size x)) ∧ Below w.heap.size w w' :=
  (hasNode_any m a b c d x w).mono fun _ _ ⟨h1, h2⟩ => ⟨h1, by rw [← h2]; exact below_alloc _ _⟩
end C
end Go.Proofs.Ytcoaggnilgfjfaa
namespace Go.Proofs.Ytcoaggnilgfjfaa
open Go.RowKit
namespace C
set_option maxHeartbeats 800000
set_option maxRecDepth 20000
theorem before_any (d e : M.Dr) (w : World) :
    Calls Try.prog 85 #[.agg #[.int .i64 d.1, .int .i64 d.2.1, .int .i64 d.2.2], .agg #[.int .i64 e.1, .int .i64 e.2.1, .int .i64 e.2.2]] w fun en w' => en = .returned (.bool (M.ltD d e)) ∧ ∃ q os, w' = Sort.grow (w.drewN q) os := by
  obtain ⟨x1, y1, z1⟩ := d
  obtain ⟨x2, y2, z2⟩ := e
  rcases Int.lt_trichotomy x1 x2 with h | rfl | h
  · have hc : Hid (M.ltD (x1, y1, z1) (x2, y2, z2) = true) := Lib.hid (by unfold M.ltD; simp [h])
    have hn1 : ((x1 : Int) == x2) = false := by simp; omega
    have hn2 : ((x1 : Int) != x2) = true := by simp; omega
    go_enter Try.func85, Try.ntmps85
    go_wp2_with fail
    refine wp_loop_rounds 4 ?_
    rw [rounds_succ]
    go_wp2_with fail
    go_quiet (fail)
    go_wp2_with fail
    go_quiet (fail)
    go_wp2_with fail
    go_ret
    exact ⟨by rw [hc.out]; first | rfl | exact congrArg (fun b => Ending.returned (.bool b)) (decide_eq_false (by omega)), _, _, by rw [Sort.alloc_eq_grow, Sort.alloc_eq_grow, Sort.grow_grow]; (try simp only [World.drewN_drewN]); rfl⟩
  · rcases Int.lt_trichotomy y1 y2 with h | rfl | h
    · have hc : Hid (M.ltD (x1, y1, z1) (x1, y2, z2) = true) := Lib.hid (by unfold M.ltD; simp [h])
      have hn1 : ((y1 : Int) == y2) = false := by simp; omega
      have hn2 : ((y1 : Int) != y2) = true := by simp; omega
      go_enter Try.func85, Try.ntmps85
      go_wp2_with fail
      refine wp_loop_rounds 4 ?_
      rw [rounds_succ]
      go_wp2_with fail
      go_quiet (fail)
      go_wp2_with fail
      rw [rounds_succ]
      go_wp2_with fail
      go_quiet (fail)
      go_wp2_with fail
      go_quiet (fail)
      go_wp2_with fail
      go_ret
      exact ⟨by rw [hc.out]; first | rfl | exact congrArg (fun b => Ending.returned (.bool b)) (decide_eq_false (by omega)), _, _, by rw [Sort.alloc_eq_grow, Sort.alloc_eq_grow, Sort.grow_grow]; (try simp only [World.drewN_drewN]); rfl⟩
    · rcases Int.lt_trichotomy z1 z2 with h | rfl | h
      · have hc : Hid (M.ltD (x1, y1, z1) (x1, y1, z2) = true) := Lib.hid (by unfold M.ltD; simp [h])
        have hn1 : ((z1 : Int) == z2) = false := by simp; omega
        have hn2 : ((z1 : Int) != z2) = true := by simp; omega
        go_enter Try.func85, Try.ntmps85
        go_wp2_with fail
        refine wp_loop_rounds 4 ?_
        rw [rounds_succ]
        go_wp2_with fail
        go_quiet (fail)
        go_wp2_with fail
        rw [rounds_succ]
        go_wp2_with fail
        go_quiet (fail)
        go_wp2_with fail
        rw [rounds_succ]
        go_wp2_with fail
        go_quiet (fail)
        go_wp2_with fail
        go_quiet (fail)
        go_wp2_with fail
        go_ret
        exact ⟨by rw [hc.out]; first | rfl | exact congrArg (fun b => Ending.returned (.bool b)) (decide_eq_false (by omega)), _, _, by rw [Sort.alloc_eq_grow, Sort.alloc_eq_grow, Sort.grow_grow]; (try simp only [World.drewN_drewN]); rfl⟩
      · have hc : Hid (M.ltD (x1, y1, z1) (x1, y1, z1) = false) := Lib.hid (M.ltD_irrefl _)
        go_enter Try.func85, Try.ntmps85
        go_wp2_with fail
        refine wp_loop_rounds 4 ?_
        rw [rounds_succ]
        go_wp2_with fail
        go_quiet (fail)
        go_wp2_with fail
        rw [rounds_succ]
        go_wp2_with fail
        go_quiet (fail)
        go_wp2_with fail
        rw [rounds_succ]
        go_wp2_with fail
        go_quiet (fail)
        go_wp2_with fail
        rw [rounds_succ]
        go_wp2_with fail
        go_ret
        exact ⟨by rw [hc.out]; first | rfl | exact congrArg (fun b => Ending.returned (.bool b)) (decide_eq_false (by omega)), _, _, by rw [Sort.alloc_eq_grow, Sort.alloc_eq_grow, Sort.grow_grow]; (try simp only [World.drewN_drewN]); rfl⟩
      · have hc : Hid (M.ltD (x1, y1, z1) (x1, y1, z2) = false) := Lib.hid (by unfold M.ltD; simp; omega)
        have hn1 : ((z1 : Int) == z2) = false := by simp; omega
        have hn2 : ((z1 : Int) != z2) = true := by simp; omega
        have hn3 : ¬ (z1 : Int) < z2 := by omega
        go_enter Try.func85, Try.ntmps85
        go_wp2_with fail
        refine wp_loop_rounds 4 ?_
        rw [rounds_succ]
        go_wp2_with fail
        go_quiet (fail)
        go_wp2_with fail
        rw [rounds_succ]
        go_wp2_with fail
        go_quiet (fail)
        go_wp2_with fail
        rw [rounds_succ]
        go_wp2_with fail
        go_quiet (fail)
        go_wp2_with fail
        go_quiet (fail)
        go_wp2_with fail
        go_ret
        exact ⟨by rw [hc.out]; first | rfl | exact congrArg (fun b => Ending.returned (.bool b)) (decide_eq_false (by omega)), _, _, by rw [Sort.alloc_eq_grow, Sort.alloc_eq_grow, Sort.grow_grow]; (try simp only [World.drewN_drewN]); rfl⟩
    · have hc : Hid (M.ltD (x1, y1, z1) (x1, y2, z2) = false) := Lib.hid (by unfold M.ltD; simp; omega)
      have hn1 : ((y1 : Int) == y2) = false := by simp; omega
      have hn2 : ((y1 : Int) != y2) = true := by simp; omega
      have hn3 : ¬ (y1 : Int) < y2 := by omega
      go_enter Try.func85, Try.ntmps85
      go_wp2_with fail
      refine wp_loop_rounds 4 ?_
      rw [rounds_succ]
      go_wp2_with fail
      go_quiet (fail)
      go_wp2_with fail
      rw [rounds_succ]
      go_wp2_with fail
      go_quiet (fail)
      go_wp2_with fail
      go_quiet (fail)
      go_wp2_with fail
      go_ret
      exact ⟨by rw [hc.out]; first | rfl | exact congrArg (fun b => Ending.returned (.bool b)) (decide_eq_false (by omega)), _, _, by rw [Sort.alloc_eq_grow, Sort.alloc_eq_grow, Sort.grow_grow]; (try simp only [World.drewN_drewN]); rfl⟩
  · have hc : Hid (M.ltD (x1, y1, z1) (x2, y2, z2) = false) := Lib.hid (by unfold M.ltD; simp; omega)
    have hn1 : ((x1 : Int) == x2) = false := by simp; omega
    have hn2 : ((x1 : Int) != x2) = true := by simp; omega
    have hn3 : ¬ (x1 : Int) < x2 := by omega
    go_enter Try.func85, Try.ntmps85
    go_wp2_with fail
    refine wp_loop_rounds 4 ?_
    rw [rounds_succ]
    go_wp2_with fail
    go_quiet (fail)
    go_wp2_with fail
    go_quiet (fail)
    go_wp2_with fail
    go_ret
    exact ⟨by rw [hc.out]; first | rfl | exact congrArg (fun b => Ending.returned (.bool b)) (decide_eq_false (by omega)), _, _, by rw [Sort.alloc_eq_grow, Sort.alloc_eq_grow, Sort.grow_grow]; (try simp only [World.drewN_drewN]); rfl⟩
end C
end Go.Proofs.Ytcoaggnilgfjfaa
namespace Go.Proofs.Ytcoaggnilgfjfaa
open Go.RowKit
namespace C
set_option maxHeartbeats 1600000
set_option maxRecDepth 20000
theorem same_grown {P : Program} {f : FuncId} {args : Array Value} {W : World} {v : Value} (h : Calls P f args W fun e w' => e = .returned v ∧ W = w') : Calls P f args W fun e w' => e = .returned v ∧ ∃ q os, w' = Sort.grow (W.drewN q) os :=
  h.mono fun _ _ ⟨he, hw⟩ => ⟨he, 0, #[], by rw [← hw, Sort.grow_empty]; rfl⟩
theorem shape_no {m : M.Mz} (h : M.shapeB m = false) : M.mazeB m = false := by unfold M.mazeB; rw [h]; rfl
theorem doors_no {m : M.Mz} (h : M.doorsB m.size m.doors = false) : M.mazeB m = false := by unfold M.mazeB; rw [h]; cases M.shapeB m <;> rfl
theorem keys_no {m : M.Mz} (h : M.keysB m.keys = false) : M.mazeB m = false := by unfold M.mazeB; rw [h]; cases M.shapeB m <;> cases M.doorsB m.size m.doors <;> rfl
theorem specMaze_any (w : World) (lo hi : Nat) (m : M.Mz) (a b : Option Addr) (c d : Nat) (h : MzIn lo hi w m a c b d) (hz : hi ≤ w.heap.size) :
    Calls Try.prog 55 #[.agg #[.int .i64 m.size, .slice a m.doors.length c, .slice b m.keys.length d]] w (BoolPost w (M.mazeB m)) := by
  have H := Lib.hid h
  have hc1 := h.c1
  have hc2 := h.c2
  have hd1 := h.d1
  have hd2 := h.d2
  clear h
  by_cases s1 : 1 ≤ m.size ∧ m.size ≤ 12
  · obtain ⟨s1, s12⟩ := s1
    by_cases s2 : m.doors.length ≤ 30
    · by_cases s3 : (m.keys.length : Int) = m.size
      · have HSH : Hid (M.shapeB m = true) := Lib.hid (decide_eq_true ⟨s1, s12, s2, s3⟩)
        have hne : (((m.keys.length : Nat) : Int) != m.size) = false := by simpa using s3
        have HS3 := Lib.hid s3
        have hkl : m.keys.length ≤ 12 := by omega
        clear s3
        go_enter Try.func55, Try.ntmps55
        go_wp2_with fail
        refine (l1In_yes _ _ _ _ (by omega) (by omega)).mono ?_
        rintro e w' ⟨rfl, rfl⟩
        go_wp2_with fail
        go_loopw [3, 4] (fun i _ wr => ∃ (k : Nat), k ≤ m.doors.length ∧ i = .int .i64 k ∧ (∀ j, j < k → M.stepB m.size m.doors j = true) ∧ Box3 wr w.heap.size 29 (.int .i64 m.size) (.slice a m.doors.length c) (.slice b m.keys.length d) ∧ Below w.heap.size w wr) (fun i _ _ => m.doors.length - (intOf i).toNat)
        case atStart => exact ⟨0, Nat.zero_le _, rfl, fun j h => by omega, Box3.new _ _ _ _ rfl, below_alloc _ _⟩
        case round =>
          obtain ⟨k, hk, rfl, hall, hbox, hnx⟩ := hrel
          have HA := Lib.hid hall
          have HN := Lib.hid hnx
          have HBX := Lib.hid hbox
          have hzr := hnx.size
          have hbl := hbox.lt
          obtain ⟨x0, x1, x2⟩ := hbox.cells
          clear hall hnx hbox
          by_cases hlt : k < m.doors.length
          · obtain ⟨db, off, rfl, _, hb, hc0⟩ := (H.out.doors.below HN.out hz).at_ (k := k * 3) (by rw [M.encDs_len]; omega)
            have a0 := hc0 _ _ (M.encDs_at0 hlt)
            have a1 : wr.cell? ⟨db, off + k * 3 + 1, none⟩ = some (.int .i64 m.doors[k].2.1) := hc0 _ _ (M.encDs_at1 hlt)
            have a2 : wr.cell? ⟨db, off + k * 3 + 2, none⟩ = some (.int .i64 m.doors[k].2.2) := hc0 _ _ (M.encDs_at2 hlt)
            have HC := Lib.hid hc0
            clear hc0
            go_wp2_with fail
            refine wp_named ?_
            intro W hW
            have hbW : Below wr.heap.size wr W := by rw [hW]; exact (Below.refl _ _).alloc (by omega) _
            have hdb : Box3 W wr.heap.size 69 (.int .i64 m.doors[k].1) (.int .i64 m.doors[k].2.1) (.int .i64 m.doors[k].2.2) := by rw [hW]; exact Box3.new _ _ _ _ rfl
            clear hW
            have hmb := HBX.out.below hbW
            obtain ⟨m0, m1, m2⟩ := hmb.cells
            obtain ⟨e0, e1, e2⟩ := hdb.cells
            have hdw : db < wr.heap.size := by omega
            have hdl := hdb.lt
            have hml := hmb.lt
            have M0 := cell_grown hml m0
            have M1 := cell_grown hml m1
            have E0 := cell_grown hdl e0
            have E1 := cell_grown hdl e1
            have E2 := cell_grown hdl e2
            have hdW : db < W.heap.size := by have := hbW.size; omega
            have mixed : Try.prog.follows .mixedOrders = true := by kernel_rfl
            have HMB := Lib.hid hmb
            have hzW := hbW.size
            have HW := Lib.hid hbW
            have HBW := Lib.hid (HN.out.trans (hbW.mono hzr))
            have hD : M.doorB m.size m.doors[k] = (M.inB m.doors[k].1 0 (m.size - 1) && M.inB m.doors[k].2.1 (m.doors[k].1 + 1) (m.size - 1) && M.setB m.doors[k].2.2) := by
              unfold M.doorB M.inB M.setB
              rw [Bool.eq_iff_iff]
              simp only [Bool.and_eq_true, decide_eq_true_eq]
              omega
            have HD := Lib.hid hD
            have hw1 : IntKind.i64.wrap (m.size - 1) = m.size - 1 := IntWalk.i64_in _ (by omega)
            clear hmb hdb x0 x1 x2 a0 a1 a2 hbW m0 m1 m2 e0 e1 e2 hD
            cases i0 : M.inB m.doors[k].1 0 (m.size - 1) with
            | false =>
              have HF : Hid (M.mazeB m = false) := Lib.hid (doors_no (stepB_no1 hlt (by rw [HD.out, i0]; rfl)))
              refine wp_region_quiet_grown (by assumption) (by kernel_rfl) ?_
              repeat (first | go_big_quiet_step (first | (go_at_call 84; refine Calls.grown_of (same_grown (l1In_any _ _ _ _)))) | quiet_step (first | (go_at_call 84; refine Calls.grown_of (same_grown (l1In_any _ _ _ _)))))
              refine wpQuiet_nil ?_
              intro _ hw'
              obtain ⟨⟨nq, osq⟩, hw''⟩ := hw'
              subst hw''
              go_wp2_with fail
              go_ret
              exact ⟨by rw [HF.out]; rfl, HBW.out.trans ((below_grown W _ _).mono (by omega))⟩
            | true =>
              have hx : 0 ≤ m.doors[k].1 ∧ m.doors[k].1 ≤ m.size - 1 := by unfold M.inB at i0; exact decide_eq_true_iff.1 i0
              obtain ⟨hx0, hx1⟩ := hx
              have hw2 : IntKind.i64.wrap (m.doors[k].1 + 1) = m.doors[k].1 + 1 := IntWalk.i64_in _ (by omega)
              cases i1 : M.inB m.doors[k].2.1 (m.doors[k].1 + 1) (m.size - 1) with
              | false =>
                have HF : Hid (M.mazeB m = false) := Lib.hid (doors_no (stepB_no1 hlt (by rw [HD.out, i0, i1]; rfl)))
                refine wp_region_quiet_grown (by assumption) (by kernel_rfl) ?_
                repeat (first | go_big_quiet_step (first | (go_at_call 84; refine Calls.grown_of (same_grown (l1In_any _ _ _ _)))) | quiet_step (first | (go_at_call 84; refine Calls.grown_of (same_grown (l1In_any _ _ _ _)))))
                refine wpQuiet_nil ?_
                intro _ hw'
                obtain ⟨⟨nq, osq⟩, hw''⟩ := hw'
                subst hw''
                go_wp2_with fail
                go_ret
                exact ⟨by rw [HF.out]; rfl, HBW.out.trans ((below_grown W _ _).mono (by omega))⟩
              | true =>
                cases i2 : M.setB m.doors[k].2.2 with
                | false =>
                  have HF : Hid (M.mazeB m = false) := Lib.hid (doors_no (stepB_no1 hlt (by rw [HD.out, i0, i1, i2]; rfl)))
                  refine wp_region_quiet_grown (by assumption) (by kernel_rfl) ?_
                  repeat (first | go_big_quiet_step (first | (go_at_call 84; refine Calls.grown_of (same_grown (l1In_any _ _ _ _))) | (go_at_call 56; refine Calls.grown_of (same_grown (l2Set_any _ _)))) | quiet_step (first | (go_at_call 84; refine Calls.grown_of (same_grown (l1In_any _ _ _ _))) | (go_at_call 56; refine Calls.grown_of (same_grown (l2Set_any _ _)))))
                  refine wpQuiet_nil ?_
                  intro _ hw'
                  obtain ⟨⟨nq, osq⟩, hw''⟩ := hw'
                  subst hw''
                  go_wp2_with fail
                  go_ret
                  exact ⟨by rw [HF.out]; rfl, HBW.out.trans ((below_grown W _ _).mono (by omega))⟩
                | true =>
                  have HY : Hid (M.doorB m.size m.doors[k] = true) := Lib.hid (by rw [HD.out, i0, i1, i2]; rfl)
                  rcases Nat.eq_zero_or_pos k with hk0 | hk0
                  · have hk1 : ¬ 0 < k := by omega
                    have hg : decide ((0 : Int) < (k : Int)) = false := decide_eq_false (by omega)
                    have HS : Hid (M.stepB m.size m.doors k = true) := Lib.hid ((M.stepB_iff hlt).2 ⟨HY.out, fun h => absurd h hk1⟩)
                    have HK0 := Lib.hid hk0
                    clear hk0
                    refine wp_region_quiet_grown (by assumption) (by kernel_rfl) ?_
                    repeat (first | go_big_quiet_step (first | (go_at_call 84; refine Calls.grown_of (same_grown (l1In_any _ _ _ _))) | (go_at_call 56; refine Calls.grown_of (same_grown (l2Set_any _ _)))) | quiet_step (first | (go_at_call 84; refine Calls.grown_of (same_grown (l1In_any _ _ _ _))) | (go_at_call 56; refine Calls.grown_of (same_grown (l2Set_any _ _)))))
                    refine wpQuiet_nil ?_
                    intro _ hw'
                    obtain ⟨⟨nq, osq⟩, hw''⟩ := hw'
                    subst hw''
                    go_wp2_with fail
                    go_roundw
                    case rel => exact ⟨k + 1, by omega, by go_num, fun j hj => by
                      rcases Nat.lt_or_ge j k with h | h
                      · exact HA.out j h
                      · obtain rfl : j = k := by omega
                        exact HS.out, HMB.out.below (below_grown W _ _), HBW.out.trans ((below_grown W _ _).mono (by omega))⟩
                    case measure => simp [intOf]; omega
                  · obtain ⟨j, rfl⟩ : ∃ j, k = j + 1 := ⟨k - 1, by omega⟩
                    have hg : decide ((0 : Int) < (j : Int) + 1) = true := decide_eq_true (by omega)
                    have hw3 : IntKind.i64.wrap ((j : Int) + 1 - 1) = (j : Int) := by rw [IntWalk.i64_in _ (by omega)]; omega
                    have hw4 : IntKind.i64.wrap (j : Int) = (j : Int) := IntWalk.i64_in _ (by omega)
                    have hjl : j < m.doors.length := by omega
                    have hjl2 : (j : Int) < (m.doors.length : Int) := by omega
                    have p0 : wr.cell? ⟨db, off + j * 3, none⟩ = some (.int .i64 m.doors[j].1) := HC.out _ _ (M.encDs_at0 hjl)
                    have p1 : wr.cell? ⟨db, off + j * 3 + 1, none⟩ = some (.int .i64 m.doors[j].2.1) := HC.out _ _ (M.encDs_at1 hjl)
                    have p2 : wr.cell? ⟨db, off + j * 3 + 2, none⟩ = some (.int .i64 m.doors[j].2.2) := HC.out _ _ (M.encDs_at2 hjl)
                    have R0 := cell_grown (a := ⟨db, off + j * 3, none⟩) hdW ((HW.out.cell (p := ⟨db, off + j * 3, none⟩) hdw).trans p0)
                    have R1 := cell_grown (a := ⟨db, off + j * 3 + 1, none⟩) hdW ((HW.out.cell (p := ⟨db, off + j * 3 + 1, none⟩) hdw).trans p1)
                    have R2 := cell_grown (a := ⟨db, off + j * 3 + 2, none⟩) hdW ((HW.out.cell (p := ⟨db, off + j * 3 + 2, none⟩) hdw).trans p2)
                    clear p0 p1 p2
                    have BF := Lib.hid (fun W => before_any m.doors[j] m.doors[j + 1] W)
                    have hgd : m.doors.getD (j + 1 - 1) default = m.doors[j] := by rw [Nat.add_sub_cancel, List.getD_eq_getElem?_getD, List.getElem?_eq_getElem hjl]; rfl
                    have HG := Lib.hid hgd
                    clear hgd
                    cases i3 : M.ltD m.doors[j] m.doors[j + 1] with
                    | false =>
                      have HF : Hid (M.mazeB m = false) := Lib.hid (doors_no (stepB_no2 hlt (by omega) (by rw [HG.out]; exact i3)))
                      rw [i3] at BF
                      clear i3
                      refine wp_region_quiet_grown (by assumption) (by kernel_rfl) ?_
                      repeat (first | go_big_quiet_step (first | (go_at_call 84; refine Calls.grown_of (same_grown (l1In_any _ _ _ _))) | (go_at_call 56; refine Calls.grown_of (same_grown (l2Set_any _ _))) | (go_at_call 85; refine Calls.grown_of (BF.out _))) | quiet_step (first | (go_at_call 84; refine Calls.grown_of (same_grown (l1In_any _ _ _ _))) | (go_at_call 56; refine Calls.grown_of (same_grown (l2Set_any _ _))) | (go_at_call 85; refine Calls.grown_of (BF.out _))))
                      refine wpQuiet_nil ?_
                      intro _ hw'
                      obtain ⟨⟨nq, osq⟩, hw''⟩ := hw'
                      subst hw''
                      go_wp2_with fail
                      go_ret
                      exact ⟨by rw [HF.out]; rfl, HBW.out.trans ((below_grown W _ _).mono (by omega))⟩
                    | true =>
                      have HS : Hid (M.stepB m.size m.doors (j + 1) = true) := Lib.hid ((M.stepB_iff hlt).2 ⟨HY.out, fun _ => by rw [HG.out]; exact i3⟩)
                      rw [i3] at BF
                      clear i3
                      refine wp_region_quiet_grown (by assumption) (by kernel_rfl) ?_
                      repeat (first | go_big_quiet_step (first | (go_at_call 84; refine Calls.grown_of (same_grown (l1In_any _ _ _ _))) | (go_at_call 56; refine Calls.grown_of (same_grown (l2Set_any _ _))) | (go_at_call 85; refine Calls.grown_of (BF.out _))) | quiet_step (first | (go_at_call 84; refine Calls.grown_of (same_grown (l1In_any _ _ _ _))) | (go_at_call 56; refine Calls.grown_of (same_grown (l2Set_any _ _))) | (go_at_call 85; refine Calls.grown_of (BF.out _))))
                      refine wpQuiet_nil ?_
                      intro _ hw'
                      obtain ⟨⟨nq, osq⟩, hw''⟩ := hw'
                      subst hw''
                      go_wp2_with fail
                      go_roundw
                      case rel => exact ⟨j + 1 + 1, by omega, by go_num, fun i hi => by
                        rcases Nat.lt_or_ge i (j + 1) with h | h
                        · exact HA.out i h
                        · obtain rfl : i = j + 1 := by omega
                          exact HS.out, HMB.out.below (below_grown W _ _), HBW.out.trans ((below_grown W _ _).mono (by omega))⟩
                      case measure => simp [intOf]; omega
          · obtain rfl : k = m.doors.length := by omega
            have HF : Hid (M.doorsB m.size m.doors = true) := Lib.hid (M.all_range_take.2 HA.out)
            have HKR := Lib.hid (H.out.keys.below HN.out hz)
            have hmk := HS3.out
            have hsz : m.size ≤ m.keys.length := by omega
            have hsz' : (m.keys.length : Int) ≤ m.size := by omega
            clear hmk
            go_wp2_with fail
            go_loop [5] (fun i => ∃ (k : Nat), k ≤ m.keys.length ∧ i = .int .i64 k ∧ (∀ j (hj : j < m.keys.length), j < k → M.setB m.keys[j] = true)) (fun i => m.keys.length - (intOf i).toNat)
            case atStart => exact ⟨0, Nat.zero_le _, rfl, fun j _ h => by omega⟩
            case round =>
              obtain ⟨k, hk, rfl, hall⟩ := hrel
              have HA2 := Lib.hid hall
              clear hall
              by_cases hlt : k < m.keys.length
              · obtain ⟨kb, off, rfl, _, _, hc0⟩ := HKR.out.at_ (k := k) (by rw [M.encIs_len]; exact hlt)
                have hc := hc0 k _ (M.encIs_at hlt)
                clear hc0
                cases q : M.setB m.keys[k] with
                | false =>
                  have HFF : Hid (M.mazeB m = false) := Lib.hid (keys_no (M.keysB_no hlt q))
                  have Q := Lib.hid q
                  clear q
                  go_wp2_with fail
                  refine (l2Set_any _ _).mono ?_
                  rintro e w' ⟨rfl, rfl⟩
                  rw [Q.out]
                  go_wp2_with fail
                  go_ret
                  exact ⟨by rw [HFF.out]; rfl, HN.out⟩
                | true =>
                  have Q := Lib.hid q
                  clear q
                  go_wp2_with fail
                  refine (l2Set_any _ _).mono ?_
                  rintro e w' ⟨rfl, rfl⟩
                  rw [Q.out]
                  go_wp2_with fail
                  go_round
                  case rel => exact ⟨k + 1, by omega, by go_num, fun j hj hjk => by
                    rcases Nat.lt_or_ge j k with h | h
                    · exact HA2.out j hj h
                    · obtain rfl : j = k := by omega
                      exact Q.out⟩
                  case measure => simp [intOf]; omega
              · obtain rfl : k = m.keys.length := by omega
                have HFF : Hid (M.mazeB m = true) := Lib.hid (by
                  unfold M.mazeB
                  rw [HSH.out, HF.out, M.keysB_iff.2 fun j hj => HA2.out j hj hj]
                  rfl)
                have hge : ¬ (m.keys.length : Int) < m.size := by omega
                go_wp2_with fail
                go_ret
                exact ⟨by rw [HFF.out]; rfl, HN.out⟩
      · have HF : Hid (M.mazeB m = false) := Lib.hid (shape_no (decide_eq_false fun h => s3 h.2.2.2))
        have hne : (((m.keys.length : Nat) : Int) != m.size) = true := by simpa using s3
        clear s3
        go_enter Try.func55, Try.ntmps55
        go_wp2_with fail
        refine (l1In_yes _ _ _ _ (by omega) (by omega)).mono ?_
        rintro e w' ⟨rfl, rfl⟩
        go_wp2_with fail
        go_ret
        exact ⟨by rw [HF.out]; rfl, below_alloc _ _⟩
    · have HF : Hid (M.mazeB m = false) := Lib.hid (shape_no (decide_eq_false fun h => s2 h.2.2.1))
      have s2' : 30 < m.doors.length := by omega
      go_enter Try.func55, Try.ntmps55
      go_wp2_with fail
      refine (l1In_yes _ _ _ _ (by omega) (by omega)).mono ?_
      rintro e w' ⟨rfl, rfl⟩
      go_wp2_with fail
      go_ret
      exact ⟨by rw [HF.out]; rfl, below_alloc _ _⟩
  · have HF : Hid (M.mazeB m = false) := Lib.hid (shape_no (decide_eq_false fun h => s1 ⟨h.1, h.2.1⟩))
    have HS := Lib.hid s1
    clear s1
    go_enter Try.func55, Try.ntmps55
    go_wp2_with fail
    refine (l1In_no _ _ _ _ HS.out).mono ?_
    rintro e w' ⟨rfl, rfl⟩
    go_wp2_with fail
    go_ret
    exact ⟨by rw [HF.out]; rfl, below_alloc _ _⟩
end C
end Go.Proofs.Ytcoaggnilgfjfaa
namespace Go.Proofs.Ytcoaggnilgfjfaa
open Go.RowKit
namespace C
theorem grown_of_below {w w' : World} (h : Below w.heap.size w w') (row : Option Nat) : w.grownBy w' row := ⟨h.os, h.tape, h.output, h.size, fun k hk _ => h.block k hk⟩
theorem own_below {w w' : World} {B : Nat} {e : TypeId} {size : Nat} {v : Value} {n : Nat} {xs : List Value} (h : w.ownsRow B e size v n xs) (hb : Below w.heap.size w w') : w'.ownsRow B e size v n xs := by
  rcases hv : v.ownBlock with _ | g
  · exact h.kept (grown_of_below hb none) (.inl hv)
  · exact h.kept (grown_of_below hb none) (.inr (by rw [hv]; simp))
/-- a row whose elements are of another type lies in another block than a box -/
theorem own_ne_box {w : World} {B g : Nat} {e T : TypeId} {size : Nat} {v x y z : Value} {n : Nat} {xs : List Value} (h : w.ownsRow B e size v n xs) (hb : Box3 w g T x y z) (hne : e ≠ T) : v.ownBlock ≠ some g := by
  rcases h.2 with ⟨rfl, _⟩ | ⟨g', cap, cur, rfl, _, hh, _⟩
  · simp [Value.ownBlock]
  · intro he
    have : g' = g := by simpa [Value.ownBlock] using he
    subst this
    unfold Box3 at hb
    rw [hh] at hb
    injection hb with hb
    injection hb with _ ht
    exact hne ht
theorem Box3.grown {w w' : World} {g : Nat} {T : TypeId} {x y z : Value} {row : Option Nat} (h : Box3 w g T x y z) (hg : w.grownBy w' row) (hne : row ≠ some g) : Box3 w' g T x y z := (hg.block g h.lt (fun e => hne e.symm)).trans h
end C
end Go.Proofs.Ytcoaggnilgfjfaa
namespace Go.Proofs.Ytcoaggnilgfjfaa
open Go.RowKit
namespace M
def mzNodeB (m : Mz) (x : Int) : Bool := mazeB m && nodeB m.size x
def touchB (d : Dr) (x : Int) : Bool := decide (d.1 = x ∨ d.2.1 = x)
/-- the places below k whose doors are at x -/
def placesTo (l : List Dr) (x : Int) (k : Nat) : List Int := ((List.range k).filter fun i => touchB (l.getD i default) x).map fun i : Nat => (i : Int)
theorem placesTo_yes {l : List Dr} {x : Int} {k : Nat} (hk : k < l.length) (h : touchB l[k] x = true) : placesTo l x (k + 1) = placesTo l x k ++ [(k : Int)] := by
  unfold placesTo
  have hg : l.getD k default = l[k] := by rw [List.getD_eq_getElem?_getD, List.getElem?_eq_getElem hk]; rfl
  rw [List.range_succ, List.filter_append, List.filter_cons_of_pos (by rw [hg]; exact h)]
  simp
theorem placesTo_no {l : List Dr} {x : Int} {k : Nat} (hk : k < l.length) (h : touchB l[k] x = false) : placesTo l x (k + 1) = placesTo l x k := by
  unfold placesTo
  have hg : l.getD k default = l[k] := by rw [List.getD_eq_getElem?_getD, List.getElem?_eq_getElem hk]; rfl
  rw [List.range_succ, List.filter_append, List.filter_cons_of_neg (by rw [hg, h]; decide)]
  simp
theorem placesTo_len (l : List Dr) (x : Int) (k : Nat) : (placesTo l x k).length ≤ k := by
  unfold placesTo
  rw [List.length_map]
  have := List.length_filter_le (fun i => touchB (l.getD i default) x) (List.range k)
  simpa using this
def doorsAtV (m : Mz) (x : Int) : List Int := if mzNodeB m x then placesTo m.doors x m.doors.length else []
theorem doorsAtV_yes {m : Mz} {x : Int} (h : mzNodeB m x = true) : doorsAtV m x = placesTo m.doors x m.doors.length := by unfold doorsAtV; rw [if_pos h]
theorem doorsAtV_no {m : Mz} {x : Int} (h : mzNodeB m x = false) : doorsAtV m x = [] := by unfold doorsAtV; rw [h]; rfl
theorem doorsAtV_len (m : Mz) (x : Int) : (doorsAtV m x).length ≤ 1048576 := by
  unfold doorsAtV
  split
  · rename_i h
    unfold mzNodeB at h
    rw [Bool.and_eq_true] at h
    have := placesTo_len m.doors x m.doors.length
    have := (valid_of h.1).few
    omega
  · simp
theorem mzNode_no {m : Mz} {x : Int} (h : mazeB m = false) : mzNodeB m x = false := by unfold mzNodeB; rw [h]; rfl
theorem mzNode_no2 {m : Mz} {x : Int} (h : nodeB m.size x = false) : mzNodeB m x = false := by unfold mzNodeB; rw [h]; cases mazeB m <;> rfl
theorem mzNode_yes {m : Mz} {x : Int} (h : mazeB m = true) (h2 : nodeB m.size x = true) : mzNodeB m x = true := by unfold mzNodeB; rw [h, h2]; rfl
end M
namespace C
set_option maxHeartbeats 1600000
set_option maxRecDepth 20000
end C
end Go.Proofs.Ytcoaggnilgfjfaa
