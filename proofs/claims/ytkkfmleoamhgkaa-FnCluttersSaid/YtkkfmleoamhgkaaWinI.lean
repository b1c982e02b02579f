/-
  CONTRACTS of impl.Maze.wins, impl.Maze.bars and impl.setsWith: whether a set wins or bars; the sets of which a test is true, in ascending order, in memory of the call's own; what lay in memory stays. Condition: a valid maze, a set of colours; a test that answers and leaves memory as it is.
-/
import Derived.Test.YtkkfmleoamhgkaaP3S
import Derived.Test.YtkkfmleoamhgkaaNode
import Derived.Test.YtkkfmleoamhgkaaMem
import Derived.Test.YtkkfmleoamhgkaaOpenTo
import Derived.Test.YtkkfmleoamhgkaaDigitsI
import Derived.Test.YtkkfmleoamhgkaaSpecMaze
import Derived.Test.YtkkfmleoamhgkaaPutMath
import Derived.Test.YtkkfmleoamhgkaaGainMath
import Derived.Deep.RegionWith
import Derived.Deep.DeepCutAuto
import Derived.OrdersHeld
import Derived.Deep.RegionHeld
import Derived.Test.YtkkfmleoamhgkaaOwn
import Derived.Test.YtkkfmleoamhgkaaSets
import Derived.Deep.RegionHeld3
import Derived.Deep.RegionLaw
import Derived.OwnWalk
import Derived.Test.YtkkfmleoamhgkaaClone
import Derived.Laws.StructEq
import Derived.ProofKit
import Derived.Test.YtkkfmleoamhgkaaOpen
import Derived.Test.YtkkfmleoamhgkaaInts
import Derived.WalkKit
import Derived.Test.YtkkfmleoamhgkaaOpenMath
import Derived.Test.YtkkfmleoamhgkaaWinM
namespace Go.Proofs.Ytkkfmleoamhgkaa
open Go.RowKit
namespace C
set_option maxHeartbeats 1600000
set_option maxRecDepth 20000
/-- what is asked of a test of sets -/
def TestOk (g : Nat) (pre lb : Array Value) (p : M.St6 → Bool) (w : World) : Prop :=
  ∀ W (s : M.St6), Below w.heap.size w W → Calls Try.prog g (pre ++ #[.int .i64 (s.val : Int)] ++ lb) W (BoolPost W (p s))
theorem setsWith_any (g : Nat) (pre lb : Array Value) (p : M.St6 → Bool) (eg : ∀ args w, (callFunc g args).run Try.prog w = .ok (.enter g args) w) (w : World) (hp : TestOk g pre lb p w) :
    Calls Try.prog 17 #[.func (.func g) pre lb] w (IntsPost w (M.intsF (M.selF p))) := by
  obtain ⟨ii0, hi0, hz0, hzz1, hz2⟩ := info_parts infoI
  have HP := Lib.hid hp
  clear hp
  go_enter Try.func17, Try.ntmps17
  go_wp2_with fail
  refine wp_named ?_
  intro W2 hW2
  have hb2 : Below w.heap.size w W2 := by rw [hW2]; exact below_alloc _ _
  have o2 : W2.ownsRow w.heap.size 3 1 (.slice (some ⟨w.heap.size, 0, none⟩) 0 0) 0 (M.encIs (M.intsF (M.selTo p 0))) := by rw [hW2, M.selTo_zero]; exact ownsRow_empty _ _ _ _ (by omega)
  have ST := Lib.hid (show W2.ownsRow w.heap.size 3 1 (.slice (some ⟨w.heap.size, 0, none⟩) 0 0) (M.selTo p 0).length (M.encIs (M.intsF (M.selTo p 0))) ∧ Below w.heap.size w W2 from ⟨by rw [M.selTo_zero] at o2 ⊢; exact o2, hb2⟩)
  clear hW2 hb2 o2
  go_loopw [3, 4, 6] (fun v3 _ v6 wr => ∃ (k : Nat), k ≤ 64 ∧ v6 = .int .i64 k ∧ wr.ownsRow w.heap.size 3 1 v3 (M.selTo p k).length (M.encIs (M.intsF (M.selTo p k))) ∧ Below w.heap.size w wr) (fun _ _ v6 _ => 64 - (intOf v6).toNat)
  case atStart => exact ⟨0, Nat.zero_le _, rfl, ST.out.1, ST.out.2⟩
  case round =>
    obtain ⟨k, hk, rfl, hso, hlow⟩ := hrel
    obtain ⟨la, lc, hv, hl1, hl2, _⟩ := own_slice hso
    subst hv
    have SO := Lib.hid hso
    have LO := Lib.hid hlow
    have hzr := hlow.size
    have hll := M.selTo_len p k
    clear hso hlow
    by_cases hkl : k < 64
    · have CP := Lib.hid (HP.out wr ⟨k, hkl⟩ LO.out)
      have HY := Lib.hid (fun (h : p ⟨k, hkl⟩ = true) => M.selTo_yes hkl h)
      have HN := Lib.hid (fun (h : p ⟨k, hkl⟩ = false) => M.selTo_no hkl h)
      cases hq : p ⟨k, hkl⟩ with
      | false =>
        rw [hq] at CP
        have HNO := Lib.hid (HN.out hq)
        clear hq
        go_wp2_with (go_at_fn g; refine (CP.out).mono ?_; rintro e w4 ⟨rfl, hb4⟩)
        go_roundw
        case rel => exact ⟨k + 1, by omega, by go_num, by rw [HNO.out]; exact own_below SO.out hb4, LO.out.trans (hb4.mono hzr)⟩
        case measure => simp [intOf]; omega
      | true =>
        rw [hq] at CP
        have HYE := Lib.hid (HY.out hq)
        clear hq
        go_wp2_with (first
          | (go_at_fn g; refine (CP.out).mono ?_; rintro e w4 ⟨rfl, hb4⟩; have SO4 := Lib.hid (own_below SO.out hb4); have LO4 := Lib.hid (LO.out.trans (hb4.mono hzr)); have hz4 := hb4.size)
          | (at_builtin; refine wpList_append_own _ rfl _ _ 24 rfl w.heap.size 3 ii0 (.int .i64 0) 1 8 Try.underlying24 hi0 hz0 hzz1 hz2 rfl (by decide) _ _ _ rfl (SO4.out.alloc _) ⟨w4.heap.size, 0, none⟩ 1 1 [.int .i64 (k : Int)] rfl rfl (cell_one_new _ _ _) (fun x hx => by simp at hx; subst hx; rfl) (by unfold maxLen; omega) (by omega) (by simp; omega) ?_; intro v' w3 hown' hgrow3 hnil3))
        go_roundw
        case rel =>
          refine ⟨k + 1, by omega, by go_num, ?_, (LO4.out.alloc (by omega) _).grown hgrow3 (by simp; omega) (own_base SO4.out)⟩
          rw [HYE.out, M.intsF_snoc, M.encIs_append, List.length_append]
          exact hown'
        case measure => simp [intOf]; omega
    · obtain rfl : k = 64 := by omega
      go_wp2_with fail
      go_ret
      refine ints_end (l := M.intsF (M.selF p)) ?_ LO.out
      rw [M.intsF_len]
      exact SO.out
end C
end Go.Proofs.Ytkkfmleoamhgkaa
