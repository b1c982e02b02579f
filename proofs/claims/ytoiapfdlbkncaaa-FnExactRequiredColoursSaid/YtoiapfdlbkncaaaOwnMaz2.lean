/-
  CONTRACT of spec.l2Own, a maze's copy, with no doors. Condition: at most 1048576 doors and keys.
-/
import Derived.Test.YtoiapfdlbkncaaaOwnMazW
namespace Go.Proofs.Ytoiapfdlbkncaaa
open Go.RowKit
namespace C
set_option maxHeartbeats 32000000
set_option maxRecDepth 20000
theorem mz_end0 {w w3 : World} {m : M.Mz} {g : Addr} {ia : Option Addr} {ic : Nat} {u0 u1 u2 : Value} (hB : Below w.heap.size w w3) (hd1 : M.encDs m.doors = []) (hd0 : m.doors.length = 0)
    (p2 : OwnAt (w.heap.size + 1 + 1) w3.heap.size w3 3 ia (M.encIs m.keys))
    (q3 : m.keys.length ≤ ic) (q4 : ic ≤ 9223372036854775807) (hz : w.heap.size + 1 < w3.heap.size) :
    MzPost w m (.returned (.agg #[.int .i64 m.size, .slice (some g) 0 0, .slice ia m.keys.length ic])) (((w3.setCell ⟨w.heap.size + 1, 0, none⟩ u0).setCell ⟨w.heap.size + 1, 1, none⟩ u1).setCell ⟨w.heap.size + 1, 2, none⟩ u2) := by
  have := mz_end (u0 := u0) (u1 := u1) (u2 := u2) (da := some g) (dc := 0) hB (by rw [hd1]; exact OwnAt.nil _ _ _ _ _) p2 (by omega) (by omega) q3 q4 hz
  rwa [hd0] at this
theorem l2Own_none (w : World) (lo hi : Nat) (m : M.Mz) (b : Option Addr) (c d : Nat) (h : MzIn lo hi w m none c b d) (hz : hi ≤ w.heap.size) (_h1 : m.doors.length ≤ 1048576) (h2 : m.keys.length ≤ 1048576) :
    Calls Try.prog 115 #[.agg #[.int .i64 m.size, .slice none m.doors.length c, .slice b m.keys.length d]] w (MzPost w m) := by
  obtain ⟨i0, hi0, hz0, hz1, hz2⟩ := info_parts infoD
  have H := Lib.hid h
  clear h
  obtain ⟨hd0, hd1⟩ : m.doors.length = 0 ∧ M.encDs m.doors = [] := by
    rcases H.out.doors with h | ⟨b, off, e, _⟩
    · exact ⟨by have := M.encDs_len m.doors; rw [h] at this; simp at this; omega, h⟩
    · cases e
  have hrun := run_app_nil0 (P := Try.prog) 22 22 81 i0 Try.underlying22 hi0
  have HD1 := Lib.hid hd1
  have HL1 := Lib.hid hd0
  clear hd1
  rw [hd0]
  go_enter Try.func115, Try.ntmps115
  go_wp2_with fail
  refine wp_named ?_
  intro W hW
  have hb : Below w.heap.size w W := by rw [hW]; exact ((Below.refl _ _).alloc (Nat.le_refl _) _).alloc (by simp) _
  have x1 : Box3 W w.heap.size 29 (.int .i64 m.size) (.slice none 0 c) (.slice b m.keys.length d) := by rw [hW]; exact (Box3.new _ _ _ _ rfl).alloc _
  have x2 : Box3 W (w.heap.size + 1) 29 (.int .i64 0) (.slice none 0 0) (.slice none 0 0) := by rw [hW]; exact Box3.new _ _ _ _ (by simp)
  clear hW
  have hzw := hb.size
  have hz1 := x2.lt
  have hz0' := x1.lt
  have X1 := Lib.hid x1
  have X2 := Lib.hid x2
  have HB := Lib.hid hb
  obtain ⟨c0, c1, c2⟩ := x1.cells
  obtain ⟨f0, f1, f2⟩ := x2.free
  have OI := Lib.hid (fun W' (hq : Below W.heap.size W W') => l1Own_any W' lo hi b d m.keys (H.out.keys.below (hb.trans (hq.mono hzw)) hz) (Nat.le_trans hz (Nat.le_trans hzw hq.size)) h2)
  clear x1 x2 hb
  go_region_held3 (fun wq => wq.cell? ⟨w.heap.size, 0, none⟩ = some (.int .i64 m.size) ∧ wq.cell? ⟨w.heap.size, 1, none⟩ = some (.slice none 0 c) ∧ wq.cell? ⟨w.heap.size, 2, none⟩ = some (.slice b m.keys.length d)) (first | exact ⟨d0, d1, d2⟩ | go_keep) (first
    | (go_at_call 132
       first
       | (refine (OI.out _ (Below.refl W.heap.size W).drew).mono ?_; rintro e w2 ⟨ia, ic, rfl, oi, qi1, qi2, hb2⟩; have hbq : Below W.heap.size W w2 := (Below.refl W.heap.size W).drew.trans hb2; obtain ⟨d0, d1, d2⟩ := (X1.out.below hbq).cells; obtain ⟨g0, g1, g2⟩ := (X2.out.below hbq).free; obtain ⟨k0, k1, k2⟩ := (X2.out.below hbq).cells; have hn1 := (X1.out.below hbq).lt; have hn2 := (X2.out.below hbq).lt)
       | (refine (OI.out _ ((Below.refl W.heap.size W).drew.alloc (Nat.le_refl _) _)).mono ?_; rintro e w2 ⟨ia, ic, rfl, oi, qi1, qi2, hb2⟩; have hbq : Below W.heap.size W w2 := ((Below.refl W.heap.size W).drew.alloc (Nat.le_refl _) _).trans (hb2.mono (by simp)); obtain ⟨d0, d1, d2⟩ := (X1.out.below hbq).cells; obtain ⟨g0, g1, g2⟩ := (X2.out.below hbq).free; obtain ⟨k0, k1, k2⟩ := (X2.out.below hbq).cells; have hn1 := (X1.out.below hbq).lt; have hn2 := (X2.out.below hbq).lt)))
  all_goals
    have hBW := Lib.hid (HB.out.trans (hbq.mono hzw))
    have hs2 := hbq.size
    have hl0 := HL1.out
    go_wp2_with fail
    first
    | (refine bodyPost_ret (v := .agg #[.int .i64 m.size, .slice (some ⟨W.heap.size, 0, none⟩) 0 0, .slice ia m.keys.length ic]) (by simp [results, Try.results115, go_sem, k0, k1, k2]) rfl ?_
       exact mz_end0 hBW.out HD1.out HL1.out (oi.mono (by first | omega | (simp; omega)) (Nat.le_refl _)) qi1 qi2 (by omega))
    | (obtain ⟨kk0, kk1, kk2⟩ := ((X2.out.below hbq).alloc (.cells #[] 81)).cells
       refine bodyPost_ret (v := .agg #[.int .i64 m.size, .slice (some ⟨w2.heap.size, 0, none⟩) 0 0, .slice ia m.keys.length ic]) (by simp [results, Try.results115, go_sem, kk0, kk1, kk2]) rfl ?_
       exact mz_end0 (hBW.out.alloc (by omega) _) HD1.out HL1.out ((oi.below (below_alloc _ _) (Nat.le_refl _)).mono (by first | omega | (simp; omega)) (by simp)) qi1 qi2 (by simp; omega))
end C
end Go.Proofs.Ytoiapfdlbkncaaa
