/-
  CONTRACTS of spec.IsWorlds and spec.l10World. Condition: the worlds read so, at most 1048576 mazes, doors, keys and owners in all.
-/
import Derived.Test.YtbcobheiofajeaaWlS
namespace Go.Proofs.Ytbcobheiofajeaa
open Go.RowKit
namespace M
theorem worldIn_yes {m : Wl} {i : Int} (h : worldsB m = true) : worldIn m i = inB i 0 ((m.mazes.length : Int) - 1) := by unfold worldIn; rw [h]; rfl
theorem worldIn_no {m : Wl} {i : Int} (h : worldsB m = false) : worldIn m i = false := by unfold worldIn; rw [h]; rfl
end M
namespace C
set_option linter.unusedVariables false
set_option maxHeartbeats 1600000
set_option maxRecDepth 20000
theorem specIsWorlds_lw (w : World) (lo hi : Nat) (m : M.Wl) (a b : Option Addr) (c d : Nat) (h : WlIn lo hi w m a c b d) (hz : hi ≤ w.heap.size) (h1 : M.szW m ≤ 1048576) :
    Calls Try.prog 16 #[.agg #[.slice a m.mazes.length c, .slice b m.owners.length d]] w (BoolPost w (M.worldsB m)) := by
  have H := Lib.hid h
  clear h
  go_enter Try.func16, Try.ntmps16
  go_wp2_with fail
  refine (specWorlds_any _ lo hi m a b c d (H.out.below (below_alloc _ _) hz) (by simp; omega) h1).mono ?_
  rintro e w1 ⟨rfl, hb1⟩
  have HB := Lib.hid (C.Below.more (below_alloc _ _) hb1)
  clear hb1
  go_wp2_with fail
  go_ret
  exact ⟨rfl, HB.out⟩
theorem specWorld_any (w : World) (lo hi : Nat) (m : M.Wl) (a b : Option Addr) (c d : Nat) (h : WlIn lo hi w m a c b d) (hz : hi ≤ w.heap.size) (h1 : M.szW m ≤ 1048576) (i : Int) :
    Calls Try.prog 71 #[.agg #[.slice a m.mazes.length c, .slice b m.owners.length d], .int .i64 i] w (BoolPost w (M.worldIn m i)) := by
  have H := Lib.hid h
  have hm9 := Nat.le_trans h.c1 h.c2
  clear h
  have CW := Lib.hid (fun W (hB : Below w.heap.size w W) => specWorlds_any W lo hi m a b c d (H.out.below hB hz) (Nat.le_trans hz hB.size) h1)
  have WY := Lib.hid (M.worldIn_yes (m := m) (i := i))
  have WN := Lib.hid (M.worldIn_no (m := m) (i := i))
  generalize hnm : m.mazes.length = n at *
  generalize m.owners.length = no at *
  clear hnm
  go_enter Try.func71, Try.ntmps71
  go_wp2_with fail
  refine named ?_
  intro W hW
  have hb : Below w.heap.size w W := by rw [hW]; exact below_alloc _ _
  have x1 : Box2 W w.heap.size 30 (.slice a n c) (.slice b no d) := by rw [hW]; exact Box2.new _ _ _ rfl
  clear hW
  refine (CW.out W hb).mono ?_
  rintro e w1 ⟨rfl, hb1⟩
  obtain ⟨c0, c1⟩ := (x1.below hb1).cells
  have HB := Lib.hid (C.Below.more hb hb1)
  have hzz := (C.Below.more hb hb1).size
  have hxl := (x1.below hb1).lt
  clear x1 hb hb1
  have hw1 : IntKind.i64.wrap ((n : Int) - 1) = (n : Int) - 1 := IntWalk.i64_in _ (by omega)
  cases qw : M.worldsB m with
  | true =>
    have WY2 := Lib.hid (WY.out qw)
    clear qw
    go_wp2_with fail
    refine (l1In_any i 0 ((n : Int) - 1) _).mono ?_
    rintro e w2 ⟨rfl, rfl⟩
    go_wp2_with fail
    go_ret
    exact ⟨by rw [WY2.out]; rfl, HB.out⟩
  | false =>
    have WN2 := Lib.hid (WN.out qw)
    clear qw
    go_wp2_with fail
    go_ret
    exact ⟨by rw [WN2.out]; rfl, HB.out⟩
end C
end Go.Proofs.Ytbcobheiofajeaa
