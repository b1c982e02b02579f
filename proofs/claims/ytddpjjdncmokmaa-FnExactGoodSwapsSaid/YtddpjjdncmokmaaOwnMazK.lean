/-
  CONTRACT of spec.l2Own, a maze's copy, whose keys may grow. Condition: at most 1048576 doors and keys.
-/
import Derived.Test.YtddpjjdncmokmaaWCBefore
import Derived.Test.YtddpjjdncmokmaaWBDigitsI
import Derived.Deep.RegionLaw
namespace Go.Proofs.Ytddpjjdncmokmaa
open Go.RowKit
namespace C
set_option maxHeartbeats 32000000
set_option maxRecDepth 20000
theorem l1Own_row (w : World) (lo hi : Nat) (a : Option Addr) (c : Nat) (l : List Int) (h : RowIn lo hi w a (M.encIs l)) (hz : hi ≤ w.heap.size) (hl : l.length ≤ 1048576) :
    Calls Try.prog 121 #[.slice a l.length c] w (IntsOwnPost w l) := by
  obtain ⟨i0, hi0, hz0, hz1, hz2⟩ := info_parts infoI
  have H := Lib.hid h
  clear h
  have ho := ownsRow_empty w w.heap.size 3 1 (Nat.le_refl _)
  have HO := Lib.hid ho
  clear ho
  rcases a with _ | ad
  · obtain rfl : l = [] := by
      rcases H.out with h | ⟨b, off, e, _⟩
      · exact List.eq_nil_of_length_eq_zero (by rw [← M.encIs_len, h]; rfl)
      · cases e
    have hrun := run_app_nil (P := Try.prog) (w.alloc (.cells #[] 3)) w.heap.size 23 23 3 i0 1 Try.underlying23 hi0 (.slice (some ⟨w.heap.size, 0, none⟩) 0 0) 0 [] HO.out c
    go_enter Try.func121, Try.ntmps121
    go_wp2_with fail
    go_ret
    exact intsOwn_end (l := []) HO.out (below_alloc _ _)
  · have hcells : ∀ j u, (M.encIs l)[j]? = some u → (w.alloc (.cells #[] 3)).cell? (ad.add j) = some u := by
      intro j u hu
      rcases H.out with h | ⟨b, off, e, _, hb, hc⟩
      · rw [h] at hu; simp at hu
      · injection e with e
        subst e
        have hadd : (⟨b, off, none⟩ : Addr).add j = ⟨b, off + j, none⟩ := by
          unfold Addr.add
          split
          · rename_i h; subst h; rfl
          · rfl
        rw [hadd]
        exact (World.cell?_alloc_lt w _ _ (show b < _ by omega)).trans (hc j u hu)
    have HC := Lib.hid hcells
    clear hcells
    go_enter Try.func121, Try.ntmps121
    go_wp2_with (at_builtin; refine wpList_append_own _ rfl _ _ 23 rfl w.heap.size 3 i0 (.int .i64 0) 1 8 Try.underlying23 hi0 hz0 hz1 hz2 rfl (by decide) _ _ _ rfl HO.out ad l.length c (M.encIs l) rfl (by rw [M.encIs_len, Nat.mul_one]) HC.out (fun x hx => by unfold M.encIs at hx; obtain ⟨z, _, rfl⟩ := List.mem_map.1 hx; rfl) (by unfold maxLen; omega) (by omega) (by simp) ?_; intro v' w3 hown' hgrow3 hnil3)
    go_ret
    refine intsOwn_end (by simpa using hown') ((below_alloc _ _).grown hgrow3 (by simp) (own_base HO.out))
/-- a maze in memory of the call's own, whose keys may grow -/
def MzKPost (w : World) (m : M.Mz) (e : Ending) (w' : World) : Prop :=
  ∃ a c b d, e = .returned (.agg #[.int .i64 m.size, .slice a m.doors.length c, .slice b m.keys.length d]) ∧ OwnAt w.heap.size w'.heap.size w' 97 a (M.encDs m.doors) ∧ m.doors.length ≤ c ∧ c ≤ 9223372036854775807 ∧ w'.ownsRow w.heap.size 3 1 (.slice b m.keys.length d) m.keys.length (M.encIs m.keys) ∧ Below w.heap.size w w'
theorem mzk_end {w w3 : World} {m : M.Mz} {da ia : Option Addr} {dc ic : Nat} {u0 u1 u2 : Value} (hB : Below w.heap.size w w3)
    (p1 : OwnAt (w.heap.size + 1 + 1) w3.heap.size w3 97 da (M.encDs m.doors)) (p2 : w3.ownsRow (w.heap.size + 1 + 1) 3 1 (.slice ia m.keys.length ic) m.keys.length (M.encIs m.keys))
    (q1 : m.doors.length ≤ dc) (q2 : dc ≤ 9223372036854775807) (hz : w.heap.size + 1 < w3.heap.size) :
    MzKPost w m (.returned (.agg #[.int .i64 m.size, .slice da m.doors.length dc, .slice ia m.keys.length ic])) (((w3.setCell ⟨w.heap.size + 1, 0, none⟩ u0).setCell ⟨w.heap.size + 1, 1, none⟩ u1).setCell ⟨w.heap.size + 1, 2, none⟩ u2) := by
  have hT : Turned (w.heap.size + 1) (w.heap.size + 1 + 1) w3 (((w3.setCell ⟨w.heap.size + 1, 0, none⟩ u0).setCell ⟨w.heap.size + 1, 1, none⟩ u1).setCell ⟨w.heap.size + 1, 2, none⟩ u2) :=
    ((Turned.setCell _ _ _ _ (by omega) (by omega)).trans (Turned.setCell _ _ _ _ (by omega) (by omega))).trans (Turned.setCell _ _ _ _ (by omega) (by omega))
  have hs := hT.size
  exact ⟨_, _, _, _, rfl, (p1.turned hT (Nat.le_refl _) (by omega)).mono (by omega) hs, q1, q2, own_weaken (own_turned p2 hT (Nat.le_refl _)) (by omega), Below.thenTurned hB hT (by omega) (by omega)⟩
theorem mzk_end0 {w w3 : World} {m : M.Mz} {g : Addr} {ia : Option Addr} {ic : Nat} {u0 u1 u2 : Value} (hB : Below w.heap.size w w3) (hd1 : M.encDs m.doors = []) (hd0 : m.doors.length = 0)
    (p2 : w3.ownsRow (w.heap.size + 1 + 1) 3 1 (.slice ia m.keys.length ic) m.keys.length (M.encIs m.keys)) (hz : w.heap.size + 1 < w3.heap.size) :
    MzKPost w m (.returned (.agg #[.int .i64 m.size, .slice (some g) 0 0, .slice ia m.keys.length ic])) (((w3.setCell ⟨w.heap.size + 1, 0, none⟩ u0).setCell ⟨w.heap.size + 1, 1, none⟩ u1).setCell ⟨w.heap.size + 1, 2, none⟩ u2) := by
  have := mzk_end (u0 := u0) (u1 := u1) (u2 := u2) (da := some g) (dc := 0) hB (by rw [hd1]; exact OwnAt.nil _ _ _ _ _) p2 (by omega) (by omega) hz
  rwa [hd0] at this
theorem l2Ownk_none (w : World) (lo hi : Nat) (m : M.Mz) (b : Option Addr) (c d : Nat) (h : MzIn lo hi w m none c b d) (hz : hi ≤ w.heap.size) (_h1 : m.doors.length ≤ 1048576) (h2 : m.keys.length ≤ 1048576) :
    Calls Try.prog 92 #[.agg #[.int .i64 m.size, .slice none m.doors.length c, .slice b m.keys.length d]] w (MzKPost w m) := by
  obtain ⟨i0, hi0, hz0, hz1, hz2⟩ := info_parts infoD
  have H := Lib.hid h
  clear h
  obtain ⟨hd0, hd1⟩ : m.doors.length = 0 ∧ M.encDs m.doors = [] := by
    rcases H.out.doors with h | ⟨b, off, e, _⟩
    · exact ⟨by have := M.encDs_len m.doors; rw [h] at this; simp at this; omega, h⟩
    · cases e
  have hrun := run_app_nil0 (P := Try.prog) 22 22 97 i0 Try.underlying22 hi0
  have HD1 := Lib.hid hd1
  have HL1 := Lib.hid hd0
  clear hd1
  rw [hd0]
  go_enter Try.func92, Try.ntmps92
  go_wp2_with fail
  refine wp_named ?_
  intro W hW
  have hb : Below w.heap.size w W := by rw [hW]; exact ((Below.refl _ _).alloc (Nat.le_refl _) _).alloc (by simp) _
  have x1 : Box3 W w.heap.size 27 (.int .i64 m.size) (.slice none 0 c) (.slice b m.keys.length d) := by rw [hW]; exact (Box3.new _ _ _ _ rfl).alloc _
  have x2 : Box3 W (w.heap.size + 1) 27 (.int .i64 0) (.slice none 0 0) (.slice none 0 0) := by rw [hW]; exact Box3.new _ _ _ _ (by simp)
  clear hW
  have hzw := hb.size
  have hz1 := x2.lt
  have hz0' := x1.lt
  have X1 := Lib.hid x1
  have X2 := Lib.hid x2
  have HB := Lib.hid hb
  obtain ⟨c0, c1, c2⟩ := x1.cells
  obtain ⟨f0, f1, f2⟩ := x2.free
  have OI := Lib.hid (fun W' (hq : Below W.heap.size W W') => l1Own_row W' lo hi b d m.keys (H.out.keys.below (hb.trans (hq.mono hzw)) hz) (Nat.le_trans hz (Nat.le_trans hzw hq.size)) h2)
  clear x1 x2 hb
  go_region_held3 (fun wq => wq.cell? ⟨w.heap.size, 0, none⟩ = some (.int .i64 m.size) ∧ wq.cell? ⟨w.heap.size, 1, none⟩ = some (.slice none 0 c) ∧ wq.cell? ⟨w.heap.size, 2, none⟩ = some (.slice b m.keys.length d)) (first | exact ⟨d0, d1, d2⟩ | go_keep) (first
    | (go_at_call 121
       first
       | (refine (OI.out _ (Below.refl W.heap.size W).drew).mono ?_; rintro e w2 ⟨ia, ic, rfl, oi, hb2⟩; have hbq : Below W.heap.size W w2 := (Below.refl W.heap.size W).drew.trans hb2; obtain ⟨d0, d1, d2⟩ := (X1.out.below hbq).cells; obtain ⟨g0, g1, g2⟩ := (X2.out.below hbq).free; obtain ⟨k0, k1, k2⟩ := (X2.out.below hbq).cells; have hn1 := (X1.out.below hbq).lt; have hn2 := (X2.out.below hbq).lt)
       | (refine (OI.out _ ((Below.refl W.heap.size W).drew.alloc (Nat.le_refl _) _)).mono ?_; rintro e w2 ⟨ia, ic, rfl, oi, hb2⟩; have hbq : Below W.heap.size W w2 := ((Below.refl W.heap.size W).drew.alloc (Nat.le_refl _) _).trans (hb2.mono (by simp)); obtain ⟨d0, d1, d2⟩ := (X1.out.below hbq).cells; obtain ⟨g0, g1, g2⟩ := (X2.out.below hbq).free; obtain ⟨k0, k1, k2⟩ := (X2.out.below hbq).cells; have hn1 := (X1.out.below hbq).lt; have hn2 := (X2.out.below hbq).lt)))
  all_goals
    have hBW := Lib.hid (HB.out.trans (hbq.mono hzw))
    have hs2 := hbq.size
    have hl0 := HL1.out
    go_wp2_with fail
    first
    | (refine bodyPost_ret (v := .agg #[.int .i64 m.size, .slice (some ⟨W.heap.size, 0, none⟩) 0 0, .slice ia m.keys.length ic]) (by simp [results, Try.results92, go_sem, k0, k1, k2]) rfl ?_
       exact mzk_end0 hBW.out HD1.out HL1.out (own_weaken oi (by first | omega | (simp; omega))) (by omega))
    | (obtain ⟨kk0, kk1, kk2⟩ := ((X2.out.below hbq).alloc (.cells #[] 97)).cells
       refine bodyPost_ret (v := .agg #[.int .i64 m.size, .slice (some ⟨w2.heap.size, 0, none⟩) 0 0, .slice ia m.keys.length ic]) (by simp [results, Try.results92, go_sem, kk0, kk1, kk2]) rfl ?_
       exact mzk_end0 (hBW.out.alloc (by omega) _) HD1.out HL1.out (own_weaken (own_below oi (below_alloc _ _)) (by first | omega | (simp; omega))) (by simp; omega))
theorem l2Ownk_some (w : World) (lo hi : Nat) (m : M.Mz) (ad : Addr) (b : Option Addr) (c d : Nat) (h : MzIn lo hi w m (some ad) c b d) (hz : hi ≤ w.heap.size) (h1 : m.doors.length ≤ 1048576) (h2 : m.keys.length ≤ 1048576) :
    Calls Try.prog 92 #[.agg #[.int .i64 m.size, .slice (some ad) m.doors.length c, .slice b m.keys.length d]] w (MzKPost w m) := by
  obtain ⟨i0, hi0, hz0, hz1, hz2⟩ := info_parts infoD
  have H := Lib.hid h
  clear h
  have hcells : ∀ W' (hq : Below w.heap.size w W') j u, (M.encDs m.doors)[j]? = some u → W'.cell? (ad.add j) = some u := by
    intro W' hq j u hu
    rcases H.out.doors with h | ⟨b, off, e, _, hb, hc⟩
    · rw [h] at hu; simp at hu
    · injection e with e
      subst e
      have hadd : (⟨b, off, none⟩ : Addr).add j = ⟨b, off + j, none⟩ := by
        unfold Addr.add
        split
        · rename_i h; subst h; rfl
        · rfl
      rw [hadd]
      exact (hq.cell (p := ⟨b, off + j, none⟩) (show b < _ by omega)).trans (hc j u hu)
  have HC := Lib.hid hcells
  clear hcells
  go_enter Try.func92, Try.ntmps92
  go_wp2_with fail
  refine wp_named ?_
  intro W hW
  have hb : Below w.heap.size w W := by rw [hW]; exact ((Below.refl _ _).alloc (Nat.le_refl _) _).alloc (by simp) _
  have x1 : Box3 W w.heap.size 27 (.int .i64 m.size) (.slice (some ad) m.doors.length c) (.slice b m.keys.length d) := by rw [hW]; exact (Box3.new _ _ _ _ rfl).alloc _
  have x2 : Box3 W (w.heap.size + 1) 27 (.int .i64 0) (.slice none 0 0) (.slice none 0 0) := by rw [hW]; exact Box3.new _ _ _ _ (by simp)
  clear hW
  have hzw := hb.size
  have hzx := x2.lt
  have hz0' := x1.lt
  have X1 := Lib.hid x1
  have X2 := Lib.hid x2
  have HB := Lib.hid hb
  obtain ⟨c0, c1, c2⟩ := x1.cells
  obtain ⟨f0, f1, f2⟩ := x2.free
  have OI := Lib.hid (fun W' (hq : Below W.heap.size W W') => l1Own_row W' lo hi b d m.keys (H.out.keys.below (hb.trans (hq.mono hzw)) hz) (Nat.le_trans hz (Nat.le_trans hzw hq.size)) h2)
  have hdz : W.drew.heap.size = W.heap.size := rfl
  clear x1 x2
  go_region_held3 (fun wq => wq.cell? ⟨w.heap.size, 0, none⟩ = some (.int .i64 m.size) ∧ wq.cell? ⟨w.heap.size, 1, none⟩ = some (.slice (some ad) m.doors.length c) ∧ wq.cell? ⟨w.heap.size, 2, none⟩ = some (.slice b m.keys.length d)) (first | exact ⟨d0, d1, d2⟩ | go_keep) (first
    | (go_at_call 121
       first
       | (refine (OI.out _ hba).mono ?_; rintro e w9 ⟨ia, ic, rfl, oi, hb2⟩; have hbr : Below W.heap.size W w9 := hba.trans (hb2.mono hba.size); have hs2 := hba.size; have hs9 := hb2.size; have p1 : Hid (OwnAt (w.heap.size + 1 + 1) w9.heap.size w9 97 da (M.encDs m.doors)) := Lib.hid ((od.below hb2 (Nat.le_refl _)).mono (by omega) (by omega)); have p2 : Hid (w9.ownsRow (w.heap.size + 1 + 1) 3 1 (.slice ia m.keys.length ic) m.keys.length (M.encIs m.keys)) := Lib.hid (own_weaken oi (by omega)); obtain ⟨d0, d1, d2⟩ := (X1.out.below hbr).cells; obtain ⟨g0, g1, g2⟩ := (X2.out.below hbr).free; obtain ⟨k0, k1, k2⟩ := (X2.out.below hbr).cells; have hn1 := (X1.out.below hbr).lt; have hn2 := (X2.out.below hbr).lt)
       | (refine (OI.out _ ((Below.refl W.heap.size W).drew.alloc (Nat.le_refl _) _)).mono ?_; rintro e w2 ⟨ia, ic, rfl, oi, hb2⟩; have hbq : Below W.heap.size W w2 := ((Below.refl W.heap.size W).drew.alloc (Nat.le_refl _) _).trans (hb2.mono (by simp)); have hown2 := own_below (ownsRow_empty W.drew W.heap.size 97 3 (Nat.le_refl _)) hb2; have hs2 := hbq.size; obtain ⟨d0, d1, d2⟩ := (X1.out.below hbq).cells; obtain ⟨g0, g1, g2⟩ := (X2.out.below hbq).free; obtain ⟨k0, k1, k2⟩ := (X2.out.below hbq).cells; have hn1 := (X1.out.below hbq).lt; have hn2 := (X2.out.below hbq).lt)
       | (refine (OI.out _ ((Below.refl W.heap.size W).drew)).mono ?_; rintro e w2 ⟨ia, ic, rfl, oi, hb2⟩; have hbq : Below W.heap.size W w2 := ((Below.refl W.heap.size W).drew).trans hb2; have hs2 := hbq.size; obtain ⟨d0, d1, d2⟩ := (X1.out.below hbq).cells; obtain ⟨g0, g1, g2⟩ := (X2.out.below hbq).free; obtain ⟨k0, k1, k2⟩ := (X2.out.below hbq).cells; have hn1 := (X1.out.below hbq).lt; have hn2 := (X2.out.below hbq).lt))
    | (first
       | (refine step_append_own rfl (.tmp 5) (.tmp 7) 22 rfl W.heap.size 97 i0 (.agg #[.int .i64 0, .int .i64 0, .int .i64 0]) 3 24 Try.underlying22 hi0 hz0 hz1 hz2 rfl (by decide) _ _ _ hown2 (by simp [Act.eval, Act.put]) ad m.doors.length c (M.encDs m.doors) (by simp [Act.eval, Act.put]) (M.encDs_len _) (HC.out _ (hb.trans (hbq.mono hzw))) (encDs_one _) (by unfold maxLen; omega) (by omega) (by first | (simp; done) | (have := hbq.size; omega)) ?_; intro v' w9 hown' hgrow' hnil'; obtain ⟨da, dc, rfl, qd1, qd2, od⟩ := own_slice (show C.ownsNow w9 W.heap.size v' m by unfold C.ownsNow; simpa using hown'); have hbr : Below W.heap.size W w9 := hbq.grown hgrow' hs2 (own_base hown2); have hs9 := hbr.size; have hg9 := hgrow'.size; have p1 : Hid (OwnAt (w.heap.size + 1 + 1) w9.heap.size w9 97 da (M.encDs m.doors)) := Lib.hid (od.mono (by omega) (by omega)); have p2 : Hid (w9.ownsRow (w.heap.size + 1 + 1) 3 1 (.slice ia m.keys.length ic) m.keys.length (M.encIs m.keys)) := Lib.hid (own_weaken (oi.kept hgrow' (own_ne_own2 hown2 oi (by decide))) (by first | omega | (simp; omega))); obtain ⟨d0, d1, d2⟩ := (X1.out.below hbr).cells; obtain ⟨g0, g1, g2⟩ := (X2.out.below hbr).free; obtain ⟨k0, k1, k2⟩ := (X2.out.below hbr).cells; have hn1 := (X1.out.below hbr).lt; have hn2 := (X2.out.below hbr).lt)
       | (refine step_append_own rfl (.tmp 5) (.tmp 7) 22 rfl w2.heap.size 97 i0 (.agg #[.int .i64 0, .int .i64 0, .int .i64 0]) 3 24 Try.underlying22 hi0 hz0 hz1 hz2 rfl (by decide) _ _ _ (ownsRow_empty w2 w2.heap.size 97 3 (Nat.le_refl _)) (by simp [Act.eval, Act.put]) ad m.doors.length c (M.encDs m.doors) (by simp [Act.eval, Act.put]) (M.encDs_len _) (HC.out _ ((hb.trans (hbq.mono hzw)).alloc (by omega) _)) (encDs_one _) (by unfold maxLen; omega) (by omega) (by first | (simp; done) | (have := hbq.size; omega)) ?_; intro v' w9 hown' hgrow' hnil'; obtain ⟨da, dc, rfl, qd1, qd2, od⟩ := own_slice (show C.ownsNow w9 w2.heap.size v' m by unfold C.ownsNow; simpa using hown'); have hb9 : Below w2.heap.size w2 w9 := (below_alloc w2 _).grown hgrow' (by simp) (own_base (ownsRow_empty w2 w2.heap.size 97 3 (Nat.le_refl _))); have hs9 := hb9.size; have hbr : Below W.heap.size W w9 := hbq.trans (hb9.mono hs2); have p1 : Hid (OwnAt (w.heap.size + 1 + 1) w9.heap.size w9 97 da (M.encDs m.doors)) := Lib.hid (od.mono (by omega) (by omega)); have p2 : Hid (w9.ownsRow (w.heap.size + 1 + 1) 3 1 (.slice ia m.keys.length ic) m.keys.length (M.encIs m.keys)) := Lib.hid (own_weaken (own_below oi hb9) (by first | omega | (simp; omega))); obtain ⟨d0, d1, d2⟩ := (X1.out.below hbr).cells; obtain ⟨g0, g1, g2⟩ := (X2.out.below hbr).free; obtain ⟨k0, k1, k2⟩ := (X2.out.below hbr).cells; have hn1 := (X1.out.below hbr).lt; have hn2 := (X2.out.below hbr).lt)
       | (refine step_append_own rfl (.tmp 5) (.tmp 7) 22 rfl W.heap.size 97 i0 (.agg #[.int .i64 0, .int .i64 0, .int .i64 0]) 3 24 Try.underlying22 hi0 hz0 hz1 hz2 rfl (by decide) _ _ _ (ownsRow_empty W.drew W.heap.size 97 3 (Nat.le_refl _)) (by simp [Act.eval]) ad m.doors.length c (M.encDs m.doors) (by simp [Act.eval]) (M.encDs_len _) (HC.out _ (hb.trans (((Below.refl W.heap.size W).drew.alloc (Nat.le_refl _) _).mono hzw))) (encDs_one _) (by unfold maxLen; omega) (by omega) (by first | (simp; done) | (have := hbq.size; omega)) ?_; intro v' w2 hown' hgrow' hnil'; obtain ⟨da, dc, rfl, qd1, qd2, od⟩ := own_slice (show C.ownsNow w2 W.heap.size v' m by unfold C.ownsNow; simpa using hown'); have hba : Below W.heap.size W w2 := ((Below.refl W.heap.size W).drew.alloc (Nat.le_refl _) _).grown hgrow' (by simp) (own_base (ownsRow_empty W.drew W.heap.size 97 3 (Nat.le_refl _))); obtain ⟨d0, d1, d2⟩ := (X1.out.below hba).cells; obtain ⟨g0, g1, g2⟩ := (X2.out.below hba).free; obtain ⟨k0, k1, k2⟩ := (X2.out.below hba).cells; have hn1 := (X1.out.below hba).lt; have hn2 := (X2.out.below hba).lt)))
  all_goals
    have hBW := Lib.hid (HB.out.trans (hbr.mono hzw))
    have hsr := hbr.size
    go_wp2_with fail
    refine bodyPost_ret (v := .agg #[.int .i64 m.size, .slice da m.doors.length dc, .slice ia m.keys.length ic]) (by simp [results, Try.results92, go_sem, k0, k1, k2]) rfl ?_
    exact mzk_end hBW.out p1.out p2.out qd1 qd2 (by omega)
theorem l2Ownk_any (w : World) (lo hi : Nat) (m : M.Mz) (a b : Option Addr) (c d : Nat) (h : MzIn lo hi w m a c b d) (hz : hi ≤ w.heap.size) (h1 : m.doors.length ≤ 1048576) (h2 : m.keys.length ≤ 1048576) :
    Calls Try.prog 92 #[.agg #[.int .i64 m.size, .slice a m.doors.length c, .slice b m.keys.length d]] w (MzKPost w m) := by
  rcases a with _ | ad
  · exact l2Ownk_none w lo hi m b c d h hz h1 h2
  · exact l2Ownk_some w lo hi m ad b c d h hz h1 h2
end C
end Go.Proofs.Ytddpjjdncmokmaa
