/-
  CONTRACTS of a maze's copies: impl.Maze.clone, spec.l2Own: what reads alike in memory of the call's own; what lay in memory stays. Condition: at most 1048576 doors and keys.
-/
import Derived.Test.YtoiapfdlbkncaaaClone
import Derived.Deep.RegionHeld3
namespace Go.Proofs.Ytoiapfdlbkncaaa
open Go.RowKit
namespace C
set_option maxHeartbeats 1600000
set_option maxRecDepth 20000
/-- the result's box written field by field: the maze in memory of the call's own -/
theorem mz_end {w w3 : World} {m : M.Mz} {da ia : Option Addr} {dc ic : Nat} {u0 u1 u2 : Value} (hB : Below w.heap.size w w3)
    (p1 : OwnAt (w.heap.size + 1 + 1) w3.heap.size w3 81 da (M.encDs m.doors)) (p2 : OwnAt (w.heap.size + 1 + 1) w3.heap.size w3 3 ia (M.encIs m.keys))
    (q1 : m.doors.length ≤ dc) (q2 : dc ≤ 9223372036854775807) (q3 : m.keys.length ≤ ic) (q4 : ic ≤ 9223372036854775807) (hz : w.heap.size + 1 < w3.heap.size) :
    MzPost w m (.returned (.agg #[.int .i64 m.size, .slice da m.doors.length dc, .slice ia m.keys.length ic])) (((w3.setCell ⟨w.heap.size + 1, 0, none⟩ u0).setCell ⟨w.heap.size + 1, 1, none⟩ u1).setCell ⟨w.heap.size + 1, 2, none⟩ u2) := by
  have hT : Turned (w.heap.size + 1) (w.heap.size + 1 + 1) w3 (((w3.setCell ⟨w.heap.size + 1, 0, none⟩ u0).setCell ⟨w.heap.size + 1, 1, none⟩ u1).setCell ⟨w.heap.size + 1, 2, none⟩ u2) :=
    ((Turned.setCell _ _ _ _ (by omega) (by omega)).trans (Turned.setCell _ _ _ _ (by omega) (by omega))).trans (Turned.setCell _ _ _ _ (by omega) (by omega))
  have hs := hT.size
  exact ⟨_, _, _, _, rfl, ⟨(p1.turned hT (Nat.le_refl _) (by omega)).mono (by omega) hs, (p2.turned hT (Nat.le_refl _) (by omega)).mono (by omega) hs, q1, q2, q3, q4⟩, Below.thenTurned hB hT (by omega) (by omega)⟩
theorem clone_any (w : World) (lo hi : Nat) (m : M.Mz) (a b : Option Addr) (c d : Nat) (h : MzIn lo hi w m a c b d) (hz : hi ≤ w.heap.size) (h1 : m.doors.length ≤ 1048576) (h2 : m.keys.length ≤ 1048576) :
    Calls Try.prog 93 #[.agg #[.int .i64 m.size, .slice a m.doors.length c, .slice b m.keys.length d]] w (MzPost w m) := by
  have H := Lib.hid h
  clear h
  go_enter Try.func93, Try.ntmps93
  go_wp2_with fail
  refine wp_named ?_
  intro W hW
  have hb : Below w.heap.size w W := by rw [hW]; exact ((Below.refl _ _).alloc (Nat.le_refl _) _).alloc (by simp) _
  have x1 : Box3 W w.heap.size 29 (.int .i64 m.size) (.slice a m.doors.length c) (.slice b m.keys.length d) := by rw [hW]; exact (Box3.new _ _ _ _ rfl).alloc _
  have x2 : Box3 W (w.heap.size + 1) 29 (.int .i64 0) (.slice none 0 0) (.slice none 0 0) := by rw [hW]; exact Box3.new _ _ _ _ (by simp)
  clear hW
  have hzw := hb.size
  have hz1 := x2.lt
  have X1 := Lib.hid x1
  have X2 := Lib.hid x2
  have HB := Lib.hid hb
  obtain ⟨c0, c1, c2⟩ := x1.cells
  obtain ⟨f0, f1, f2⟩ := x2.free
  have CD := Lib.hid (fun W' (hq : Below W.heap.size W W') => cloneDoors_any W' lo hi a c m.doors (H.out.doors.below (hb.trans (hq.mono hzw)) hz) (Nat.le_trans hz (Nat.le_trans hzw hq.size)) h1)
  have CI := Lib.hid (fun W' (hq : Below W.heap.size W W') => cloneInts_any W' lo hi b d m.keys (H.out.keys.below (hb.trans (hq.mono hzw)) hz) (Nat.le_trans hz (Nat.le_trans hzw hq.size)) h2)
  clear x1 x2 hb
  go_region_held3 (fun wq => wq.cell? ⟨w.heap.size, 0, none⟩ = some (.int .i64 m.size) ∧ wq.cell? ⟨w.heap.size, 1, none⟩ = some (.slice a m.doors.length c) ∧ wq.cell? ⟨w.heap.size, 2, none⟩ = some (.slice b m.keys.length d)) (first | exact ⟨d0, d1, d2⟩ | go_keep) (first
    | (go_at_call 122
       first
       | (refine (CD.out _ hbq).mono ?_; rintro e w3 ⟨da, dc, rfl, od, qd1, qd2, hb3⟩; have hbr := hbq.trans (hb3.mono hbq.size); obtain ⟨d0, d1, d2⟩ := (X1.out.below hbr).cells; obtain ⟨g0, g1, g2⟩ := (X2.out.below hbr).free; obtain ⟨k0, k1, k2⟩ := (X2.out.below hbr).cells)
       | (refine (CD.out _ (Below.refl W.heap.size W).drew).mono ?_; rintro e w2 ⟨da, dc, rfl, od, qd1, qd2, hb2⟩; have hbq : Below W.heap.size W w2 := (Below.refl W.heap.size W).drew.trans hb2; obtain ⟨d0, d1, d2⟩ := (X1.out.below hbq).cells; obtain ⟨g0, g1, g2⟩ := (X2.out.below hbq).free; obtain ⟨k0, k1, k2⟩ := (X2.out.below hbq).cells))
    | (go_at_call 123
       first
       | (refine (CI.out _ hbq).mono ?_; rintro e w3 ⟨ia, ic, rfl, oi, qi1, qi2, hb3⟩; have hbr := hbq.trans (hb3.mono hbq.size); obtain ⟨d0, d1, d2⟩ := (X1.out.below hbr).cells; obtain ⟨g0, g1, g2⟩ := (X2.out.below hbr).free; obtain ⟨k0, k1, k2⟩ := (X2.out.below hbr).cells)
       | (refine (CI.out _ (Below.refl W.heap.size W).drew).mono ?_; rintro e w2 ⟨ia, ic, rfl, oi, qi1, qi2, hb2⟩; have hbq : Below W.heap.size W w2 := (Below.refl W.heap.size W).drew.trans hb2; obtain ⟨d0, d1, d2⟩ := (X1.out.below hbq).cells; obtain ⟨g0, g1, g2⟩ := (X2.out.below hbq).free; obtain ⟨k0, k1, k2⟩ := (X2.out.below hbq).cells)))
  all_goals
    have hdz : W.drew.heap.size = W.heap.size := rfl
    have hzq := hbq.size
    have hz3 := hb3.size
    have p1 : Hid (OwnAt (w.heap.size + 1 + 1) w3.heap.size w3 81 da (M.encDs m.doors)) := by
      first
      | exact Lib.hid ((od.below hb3 (Nat.le_refl _)).mono (by omega) (by omega))
      | exact Lib.hid (od.mono (by omega) (by omega))
    have p2 : Hid (OwnAt (w.heap.size + 1 + 1) w3.heap.size w3 3 ia (M.encIs m.keys)) := by
      first
      | exact Lib.hid ((oi.below hb3 (Nat.le_refl _)).mono (by omega) (by omega))
      | exact Lib.hid (oi.mono (by omega) (by omega))
    have hBW := Lib.hid (HB.out.trans (hbr.mono hzw))
    clear od oi hbq hb3 hbr
    go_wp2_with fail
    refine bodyPost_ret (v := .agg #[.int .i64 m.size, .slice da m.doors.length dc, .slice ia m.keys.length ic]) (by simp [results, Try.results93, go_sem, k0, k1, k2]) rfl ?_
    exact mz_end hBW.out p1.out p2.out qd1 qd2 qi1 qi2 (by omega)
end C
end Go.Proofs.Ytoiapfdlbkncaaa
