/-
  CONTRACTS of whether a gate is open: the model's l8Odd and l8Open, the program's parity and isGateOpen; what lay in memory stays. Condition: sets of levers from 0 to 63.
-/
import Derived.Test.YtdgfceiobpnchaaWkA
import Derived.Test.YtdgfceiobpnchaaManyW
import Derived.Test.YtdgfceiobpnchaaDigitsI
import Derived.Test.YtdgfceiobpnchaaWkB
namespace Go.Proofs.Ytdgfceiobpnchaa
open Go.RowKit
namespace M
theorem and_set {a b : Int} (h1 : 0 ≤ a) (h2 : a < 64) (h3 : 0 ≤ b) (h4 : b < 64) : 0 ≤ bits .and .i64 a b ∧ bits .and .i64 a b < 64 := by
  obtain ⟨x, rfl⟩ : ∃ x : Nat, a = x := ⟨a.toNat, by omega⟩
  obtain ⟨y, rfl⟩ : ∃ y : Nat, b = y := ⟨b.toNat, by omega⟩
  have := (bits_nat .i64 62 (by decide) wraps_i64 x y (by omega) (by omega)).1
  rw [this]
  have h6 : (2 : Nat) ^ 6 = 64 := rfl
  have : x &&& y < 64 := by rw [← h6] at *; exact Nat.and_lt_two_pow _ (by omega)
  omega
theorem parI_and {set lev : Int} (h1 : 0 ≤ set) (h2 : set < 64) (h3 : 0 ≤ lev) (h4 : lev < 64) : bits .and .i64 (many (bits .and .i64 set lev)) 1 = parI set lev := by
  obtain ⟨a1, a2⟩ := and_set h1 h2 h3 h4
  obtain ⟨m1, m2⟩ := many_le a1 a2
  unfold parI
  obtain ⟨x, hx⟩ : ∃ x : Nat, many (bits .and .i64 set lev) = x := ⟨(many (bits .and .i64 set lev)).toNat, by omega⟩
  rw [hx, and1 x (by omega)]
  omega
theorem parI_rng (set lev : Int) : 0 ≤ parI set lev ∧ parI set lev ≤ 1 := by unfold parI; omega
end M
namespace C
set_option maxHeartbeats 3200000
set_option maxRecDepth 20000
theorem l8Odd_any (set lev : Int) (w : World) (h1 : 0 ≤ set) (h2 : set < 64) (h3 : 0 ≤ lev) (h4 : lev < 64) : Calls Try.prog 99 #[.int .i64 set, .int .i64 lev] w fun e w' => e = .returned (.int .i64 (M.parI set lev)) ∧ w = w' := by
  have HP := Lib.hid (M.parI_and h1 h2 h3 h4)
  obtain ⟨a1, a2⟩ := M.and_set h1 h2 h3 h4
  obtain ⟨x, hx⟩ : ∃ x : Nat, bits .and .i64 set lev = x := ⟨(bits .and .i64 set lev).toNat, by omega⟩
  have HX := Lib.hid hx
  have hx64 : x < 64 := by omega
  clear a1 a2
  go_enter Try.func99, Try.ntmps99
  go_wp2_with fail
  refine (l2Many_any x _ hx64).mono ?_
  rintro e w1 ⟨rfl, rfl⟩
  clear hx
  go_wp2_with fail
  go_ret
  exact ⟨by rw [← HP.out, HX.out]; rfl, rfl⟩
theorem parity_any (set lev : Int) (w : World) (h1 : 0 ≤ set) (h2 : set < 64) (h3 : 0 ≤ lev) (h4 : lev < 64) : Calls Try.prog 102 #[.int .i64 set, .int .i64 lev] w fun e w' => e = .returned (.int .i64 (M.parI set lev)) ∧ w = w' := by
  obtain ⟨a1, a2⟩ := M.and_set h1 h2 h3 h4
  obtain ⟨m1, m2⟩ := M.many_le a1 a2
  have HP : Hid (M.parI set lev = M.many (bits .and .i64 set lev) % 2) := Lib.hid rfl
  obtain ⟨q, hq⟩ : ∃ q, bits .and .i64 set lev = q := ⟨_, rfl⟩
  rw [hq] at a1 a2 m1 m2 HP
  have hw : IntKind.u64.wrap q = q := by rw [IntKind.wrap_u64]; omega
  have HO := Lib.hid (fun W => ones_any q W a1 a2)
  generalize M.many q = r at *
  have hr : IntKind.i64.wrap (Int.tmod r 2) = r % 2 := by rw [Int.tmod_eq_emod_of_nonneg m1, IntKind.wrap_i64]; omega
  go_enter Try.func102, Try.ntmps102
  go_wp2_with fail
  refine (HO.out _).mono ?_
  rintro e w1 ⟨rfl, rfl⟩
  go_wp2_with fail
  go_ret
  exact ⟨by rw [HP.out]; rfl, rfl⟩
theorem l8Open_any (g : M.Gt) (lev : Int) (w : World) (h1 : 0 ≤ g.2.2.1) (h2 : g.2.2.1 < 64) (h3 : 0 ≤ lev) (h4 : lev < 64) :
    Calls Try.prog 67 #[.agg #[.int .i64 g.1, .int .i64 g.2.1, .int .i64 g.2.2.1, .int .i64 g.2.2.2], .int .i64 lev] w (BoolPost w (M.openG g lev)) := by
  obtain ⟨x, y, z, v⟩ := g
  show Calls _ _ #[.agg #[.int .i64 x, .int .i64 y, .int .i64 z, .int .i64 v], .int .i64 lev] _ _
  have h1 : 0 ≤ z := h1
  have h2 : z < 64 := h2
  have HF : Hid (M.openG (x, y, z, v) lev = (M.parI z lev == v)) := Lib.hid rfl
  have HO := Lib.hid (fun W => l8Odd_any z lev W h1 h2 h3 h4)
  generalize M.parI z lev = p at *
  go_enter Try.func67, Try.ntmps67
  go_wp2_with fail
  go_region_with (go_at_call 99; refine (HO.out _).mono ?_; rintro e w' ⟨rfl, rfl⟩)
  all_goals
    go_wp2_with fail
    go_ret
    exact ⟨by rw [HF.out]; rfl, Below.drawnN (below_alloc _ _) 1⟩
theorem isOpenG_any (g : M.Gt) (lev : Int) (w : World) (h1 : 0 ≤ g.2.2.1) (h2 : g.2.2.1 < 64) (h3 : 0 ≤ lev) (h4 : lev < 64) :
    Calls Try.prog 69 #[.agg #[.int .i64 g.1, .int .i64 g.2.1, .int .i64 g.2.2.1, .int .i64 g.2.2.2], .int .i64 lev] w (BoolPost w (M.openG g lev)) := by
  obtain ⟨x, y, z, v⟩ := g
  show Calls _ _ #[.agg #[.int .i64 x, .int .i64 y, .int .i64 z, .int .i64 v], .int .i64 lev] _ _
  have h1 : 0 ≤ z := h1
  have h2 : z < 64 := h2
  have HF : Hid (M.openG (x, y, z, v) lev = (M.parI z lev == v)) := Lib.hid rfl
  have HO := Lib.hid (fun W => parity_any z lev W h1 h2 h3 h4)
  generalize M.parI z lev = p at *
  go_enter Try.func69, Try.ntmps69
  go_wp2_with fail
  go_region_with (go_at_call 102; refine (HO.out _).mono ?_; rintro e w' ⟨rfl, rfl⟩)
  all_goals
    go_wp2_with fail
    go_ret
    exact ⟨by rw [HF.out]; rfl, Below.drawnN (below_alloc _ _) 1⟩
end C
end Go.Proofs.Ytdgfceiobpnchaa
