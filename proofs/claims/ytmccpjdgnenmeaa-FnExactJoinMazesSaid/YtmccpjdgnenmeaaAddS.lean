/-
  CONTRACTS of spec.l2Kept and spec.AddDoor: the same maze as the program's, in memory of its own; what lay in memory stays. No condition but that the maze reads so.
-/
import Derived.Test.YtmccpjdgnenmeaaAdd
namespace Go.Proofs.Ytmccpjdgnenmeaa
open Go.RowKit
namespace M
def keptV (m : Mz) : Mz := if mazeB m then m else C.mz0
theorem keptV_yes {m : Mz} (h : mazeB m = true) : keptV m = m := by unfold keptV; rw [if_pos h]
theorem keptV_no {m : Mz} (h : mazeB m = false) : keptV m = C.mz0 := by unfold keptV; rw [h]; rfl
end M
namespace C
set_option maxHeartbeats 3200000
set_option maxRecDepth 20000
theorem OwnAt.setBox {lo hi : Nat} {w : World} {T S : TypeId} {a : Option Addr} {xs : List Value} {g : Nat} {x y z : Value} (h : OwnAt lo hi w T a xs) (hb : Box3 w g S x y z) (hne : T ≠ S) (i : Nat) (u : Value) : OwnAt lo hi (w.setCell ⟨g, i, none⟩ u) T a xs := by
  rcases h with h | ⟨b, off, cur, ha, h1, h2, hh, hc⟩
  · exact .inl h
  · refine .inr ⟨b, off, cur, ha, h1, h2, ?_, hc⟩
    rw [Below.heap_setCell w ⟨g, i, none⟩ u b (by
      rintro rfl
      have hb' : w.heap[b]? = some (.cells #[x, y, z] S (0, 0)) := hb
      rw [hh] at hb'
      injection hb' with e
      injection e with _ e2
      exact hne e2)]
    exact hh
theorem Turned.none_below {B : Nat} {w w' : World} (t : Turned B B w w') : Below w.heap.size w w' := ⟨t.os, t.tape, t.output, t.size, fun k hk => t.block k hk (by omega)⟩
theorem kept_end {B hi nd nk : Nat} {w w3 : World} {m : M.Mz} {a b : Option Addr} {c d : Nat} {u0 u1 u2 : Value} (hz : hi ≤ w.heap.size) (hB : Below w.heap.size w w3) (ho : MzOwn B hi w m a c b d) (hnd : m.doors.length = nd) (hnk : m.keys.length = nk) :
    OrdPost B B w m true (.returned (.tuple #[.agg #[.int .i64 m.size, .slice a nd c, .slice b nk d], .bool true])) (((w3.setCell ⟨w.heap.size + 1, 0, none⟩ u0).setCell ⟨w.heap.size + 1, 1, none⟩ u1).setCell ⟨w.heap.size + 1, 2, none⟩ u2) := by
  subst hnd; subst hnk
  have hb : Below w.heap.size w (((w3.setCell ⟨w.heap.size + 1, 0, none⟩ u0).setCell ⟨w.heap.size + 1, 1, none⟩ u1).setCell ⟨w.heap.size + 1, 2, none⟩ u2) :=
    ((hB.setCell (p := ⟨w.heap.size + 1, 0, none⟩) (Nat.le_succ _) _).setCell (p := ⟨w.heap.size + 1, 1, none⟩) (Nat.le_succ _) _).setCell (p := ⟨w.heap.size + 1, 2, none⟩) (Nat.le_succ _) _
  exact ⟨_, _, _, _, rfl, (ho.below hb hz).mono (Nat.le_refl _) (Nat.le_trans hz hb.size), Turned.of_below hb B B⟩
theorem kept_any (w : World) (B hi : Nat) (m : M.Mz) (a b : Option Addr) (c d : Nat) (h : MzOwn B hi w m a c b d) (hz : hi ≤ w.heap.size) :
    Calls Try.prog 77 #[.agg #[.int .i64 m.size, .slice a m.doors.length c, .slice b m.keys.length d]] w (OrdPost B B w (M.keptV m) (M.mazeB m)) := by
  have H := Lib.hid h
  clear h
  go_enter Try.func77, Try.ntmps77
  go_wp2_with fail
  refine named ?_
  intro W hW
  have hb : Below w.heap.size w W := by rw [hW]; exact (below_alloc _ _).alloc (by simp) _
  have x1 : Box3 W w.heap.size 27 (.int .i64 m.size) (.slice a m.doors.length c) (.slice b m.keys.length d) := by rw [hW]; exact (Box3.new _ _ _ _ rfl).alloc _
  have y1 : Box3 W (w.heap.size + 1) 27 (.int .i64 0) (.slice none 0 0) (.slice none 0 0) := by rw [hW]; exact Box3.new _ _ _ _ (by simp)
  clear hW
  have hzw := hb.size
  refine (specMaze_any W B hi m a b c d (H.out.mz.below hb hz) (by omega)).mono ?_
  rintro e w2 ⟨rfl, hb2⟩
  have X2 := Lib.hid (x1.below hb2)
  have Y2 := Lib.hid (y1.below hb2)
  have hz2 := hb2.size
  have HB2 := Lib.hid (hb.trans (hb2.mono hzw))
  clear x1 y1 hb hb2
  obtain ⟨c0, c1, c2⟩ := X2.out.cells
  obtain ⟨k0, k1, k2⟩ := Y2.out.cells
  obtain ⟨f0, f1, f2⟩ := Y2.out.free
  have hyl2 := Y2.out.lt
  cases hs : M.mazeB m with
  | false =>
    have HV := Lib.hid (M.keptV_no hs)
    have HS := Lib.hid hs
    clear hs
    go_wp2_with fail
    refine bodyPost_ret (v := .tuple #[.agg #[.int .i64 0, .slice none 0 0, .slice none 0 0], .bool false]) (by simp [results, Try.results77, go_sem, k0, k1, k2]) rfl ?_
    rw [HV.out, HS.out]
    exact ordNo_end (Turned.of_below HB2.out B B)
  | true =>
    have HV := Lib.hid (M.keptV_yes hs)
    have HS := Lib.hid hs
    clear hs
    go_wp2_with fail
    refine bodyPost_ret (v := .tuple #[.agg #[.int .i64 m.size, .slice a m.doors.length c, .slice b m.keys.length d], .bool true]) (by simp [results, Try.results77, go_sem, k0, k1, k2]) rfl ?_
    rw [HV.out, HS.out]
    exact kept_end hz HB2.out H.out rfl rfl
end C
end Go.Proofs.Ytmccpjdgnenmeaa
