/-
  CONTRACTS of slices.Clone at numbers and doors and of impl.Maze.clone: rows that the call owns and that may grow; what lay in memory stays. Condition: at most 1048576 elements.
-/
import Derived.Test.YtmccpjdgnenmeaaOwnMaz
namespace Go.Proofs.Ytmccpjdgnenmeaa
open Go.RowKit
namespace C
set_option maxHeartbeats 1600000
set_option maxRecDepth 20000
theorem own_weaken {w : World} {B B' : Nat} {e : TypeId} {size : Nat} {v : Value} {n : Nat} {xs : List Value} (h : w.ownsRow B e size v n xs) (hB : B' ≤ B) : w.ownsRow B' e size v n xs := by
  rcases h with ⟨hl, h | ⟨g, cap, cur, hv, hb, hr⟩⟩
  · exact ⟨hl, .inl h⟩
  · exact ⟨hl, .inr ⟨g, cap, cur, hv, Nat.le_trans hB hb, hr⟩⟩
theorem own_turned {w w' : World} {lo hi B : Nat} {e : TypeId} {size : Nat} {v : Value} {n : Nat} {xs : List Value} (h : w.ownsRow B e size v n xs) (t : Turned lo hi w w') (hd : hi ≤ B) : w'.ownsRow B e size v n xs := by
  rcases h with ⟨hl, h | ⟨g, cap, cur, hv, hb, hh, hr⟩⟩
  · exact ⟨hl, .inl h⟩
  · exact ⟨hl, .inr ⟨g, cap, cur, hv, hb, (t.block g (heap_lt hh) (.inr (by omega))).trans hh, hr⟩⟩
def IntsOwnPost (w : World) (l : List Int) (e : Ending) (w' : World) : Prop :=
  ∃ a c, e = .returned (.slice a l.length c) ∧ w'.ownsRow w.heap.size 3 1 (.slice a l.length c) l.length (M.encIs l) ∧ Below w.heap.size w w'
def DoorsOwnPost (w : World) (l : List M.Dr) (e : Ending) (w' : World) : Prop :=
  ∃ a c, e = .returned (.slice a l.length c) ∧ w'.ownsRow w.heap.size 60 3 (.slice a l.length c) l.length (M.encDs l) ∧ Below w.heap.size w w'
theorem intsOwn_end {w w' : World} {l : List Int} {v : Value} (h : w'.ownsRow w.heap.size 3 1 v l.length (M.encIs l)) (hb : Below w.heap.size w w') : IntsOwnPost w l (.returned v) w' := by
  have h0 := h
  obtain ⟨a, c, rfl, _, _, _⟩ := own_slice h
  exact ⟨a, c, rfl, h0, hb⟩
theorem doorsOwn_end {w w' : World} {l : List M.Dr} {v : Value} (h : w'.ownsRow w.heap.size 60 3 v l.length (M.encDs l)) (hb : Below w.heap.size w w') : DoorsOwnPost w l (.returned v) w' := by
  have h0 := h
  obtain ⟨a, c, rfl, _, _, _⟩ := own_slice h
  exact ⟨a, c, rfl, h0, hb⟩
theorem cloneInts_own (w : World) (lo hi : Nat) (a : Option Addr) (c : Nat) (l : List Int) (h : RowIn lo hi w a (M.encIs l)) (hz : hi ≤ w.heap.size) (hl : l.length ≤ 1048576) :
    Calls Try.prog 86 #[.slice a l.length c] w (IntsOwnPost w l) := by
  obtain ⟨i0, hi0, hz0, hz1, hz2⟩ := info_parts infoI
  have H := Lib.hid h
  clear h
  have ho := ownsRow_empty w w.heap.size 3 1 (Nat.le_refl _)
  have HO := Lib.hid ho
  clear ho
  rcases a with _ | ad
  · obtain rfl : l = [] := by
      rcases H.out with h | ⟨b, off, e, _⟩
      · exact List.eq_nil_of_length_eq_zero (by rw [← M.encIs_len, h]; rfl)
      · cases e
    have hq := fun W => Lib.run_eql_slice_nil (P := Try.prog) W 25 3 none 0 c 0 0 Try.underlying25
    go_enter Try.func86, Try.ntmps86
    go_wp2_with fail
    go_ret
    exact intsOwn_end (l := []) (World.ownsRow_nil _ _ _ _) (Below.refl _ _)
  · have hcells : ∀ j u, (M.encIs l)[j]? = some u → (w.alloc (.cells #[] 3)).cell? (ad.add j) = some u := by
      intro j u hu
      rcases H.out with h | ⟨b, off, e, _, hb, hc⟩
      · rw [h] at hu; simp at hu
      · injection e with e
        subst e
        have hadd : (⟨b, off, none⟩ : Addr).add j = ⟨b, off + j, none⟩ := by
          unfold Addr.add
          split
          · rename_i h; subst h; rfl
          · rfl
        rw [hadd]
        exact (World.cell?_alloc_lt w _ _ (show b < _ by omega)).trans (hc j u hu)
    have HC := Lib.hid hcells
    clear hcells
    have hq := fun W => Lib.run_eql_slice_nil (P := Try.prog) W 25 3 (some ad) l.length c 0 0 Try.underlying25
    go_enter Try.func86, Try.ntmps86
    go_wp2_with (at_builtin; refine wpList_append_own _ rfl _ _ 25 rfl w.heap.size 3 i0 (.int .i64 0) 1 8 Try.underlying25 hi0 hz0 hz1 hz2 rfl (by decide) _ _ _ rfl HO.out ad l.length c (M.encIs l) rfl (by rw [M.encIs_len, Nat.mul_one]) HC.out (fun x hx => by unfold M.encIs at hx; obtain ⟨z, _, rfl⟩ := List.mem_map.1 hx; rfl) (by unfold maxLen; omega) (by omega) (by simp) ?_; intro v' w3 hown' hgrow3 hnil3)
    go_ret
    refine intsOwn_end (by simpa using hown') ((below_alloc _ _).grown hgrow3 (by simp) (own_base HO.out))
theorem cloneDoors_own (w : World) (lo hi : Nat) (a : Option Addr) (c : Nat) (l : List M.Dr) (h : RowIn lo hi w a (M.encDs l)) (hz : hi ≤ w.heap.size) (hl : l.length ≤ 1048576) :
    Calls Try.prog 85 #[.slice a l.length c] w (DoorsOwnPost w l) := by
  obtain ⟨i0, hi0, hz0, hz1, hz2⟩ := info_parts infoD
  have H := Lib.hid h
  clear h
  have ho := ownsRow_empty w w.heap.size 60 3 (Nat.le_refl _)
  have HO := Lib.hid ho
  clear ho
  rcases a with _ | ad
  · obtain rfl : l = [] := by
      rcases H.out with h | ⟨b, off, e, _⟩
      · exact List.eq_nil_of_length_eq_zero (by have := M.encDs_len l; rw [h] at this; simp at this; omega)
      · cases e
    have hq := fun W => Lib.run_eql_slice_nil (P := Try.prog) W 24 60 none 0 c 0 0 Try.underlying24
    go_enter Try.func85, Try.ntmps85
    go_wp2_with fail
    go_ret
    exact doorsOwn_end (l := []) (World.ownsRow_nil _ _ _ _) (Below.refl _ _)
  · have hcells : ∀ j u, (M.encDs l)[j]? = some u → (w.alloc (.cells #[] 60)).cell? (ad.add j) = some u := by
      intro j u hu
      rcases H.out with h | ⟨b, off, e, _, hb, hc⟩
      · rw [h] at hu; simp at hu
      · injection e with e
        subst e
        have hadd : (⟨b, off, none⟩ : Addr).add j = ⟨b, off + j, none⟩ := by
          unfold Addr.add
          split
          · rename_i h; subst h; rfl
          · rfl
        rw [hadd]
        exact (World.cell?_alloc_lt w _ _ (show b < _ by omega)).trans (hc j u hu)
    have HC := Lib.hid hcells
    clear hcells
    have hq := fun W => Lib.run_eql_slice_nil (P := Try.prog) W 24 60 (some ad) l.length c 0 0 Try.underlying24
    go_enter Try.func85, Try.ntmps85
    go_wp2_with (at_builtin; refine wpList_append_own _ rfl _ _ 24 rfl w.heap.size 60 i0 (.agg #[.int .i64 0, .int .i64 0, .int .i64 0]) 3 24 Try.underlying24 hi0 hz0 hz1 hz2 rfl (by decide) _ _ _ rfl HO.out ad l.length c (M.encDs l) rfl (M.encDs_len l) HC.out (encDs_one l) (by unfold maxLen; omega) (by omega) (by simp) ?_; intro v' w3 hown' hgrow3 hnil3)
    go_ret
    refine doorsOwn_end (by simpa using hown') ((below_alloc _ _).grown hgrow3 (by simp) (own_base HO.out))
/-- a maze in rows that the call owns -/
def MzRowPost (w : World) (m : M.Mz) (e : Ending) (w' : World) : Prop :=
  ∃ a c b d, e = .returned (.agg #[.int .i64 m.size, .slice a m.doors.length c, .slice b m.keys.length d]) ∧ w'.ownsRow w.heap.size 60 3 (.slice a m.doors.length c) m.doors.length (M.encDs m.doors) ∧ w'.ownsRow w.heap.size 3 1 (.slice b m.keys.length d) m.keys.length (M.encIs m.keys) ∧ Below w.heap.size w w'
theorem mzr_end {w w3 : World} {m : M.Mz} {da ia : Option Addr} {dc ic : Nat} {u0 u1 u2 : Value} (hB : Below w.heap.size w w3)
    (p1 : w3.ownsRow (w.heap.size + 1 + 1) 60 3 (.slice da m.doors.length dc) m.doors.length (M.encDs m.doors)) (p2 : w3.ownsRow (w.heap.size + 1 + 1) 3 1 (.slice ia m.keys.length ic) m.keys.length (M.encIs m.keys)) (hz : w.heap.size + 1 < w3.heap.size) :
    MzRowPost w m (.returned (.agg #[.int .i64 m.size, .slice da m.doors.length dc, .slice ia m.keys.length ic])) (((w3.setCell ⟨w.heap.size + 1, 0, none⟩ u0).setCell ⟨w.heap.size + 1, 1, none⟩ u1).setCell ⟨w.heap.size + 1, 2, none⟩ u2) := by
  have hT : Turned (w.heap.size + 1) (w.heap.size + 1 + 1) w3 (((w3.setCell ⟨w.heap.size + 1, 0, none⟩ u0).setCell ⟨w.heap.size + 1, 1, none⟩ u1).setCell ⟨w.heap.size + 1, 2, none⟩ u2) :=
    ((Turned.setCell _ _ _ _ (by omega) (by omega)).trans (Turned.setCell _ _ _ _ (by omega) (by omega))).trans (Turned.setCell _ _ _ _ (by omega) (by omega))
  exact ⟨_, _, _, _, rfl, own_weaken (own_turned p1 hT (Nat.le_refl _)) (by omega), own_weaken (own_turned p2 hT (Nat.le_refl _)) (by omega), Below.thenTurned hB hT (by omega) (by omega)⟩
theorem clone_row (w : World) (lo hi : Nat) (m : M.Mz) (a b : Option Addr) (c d : Nat) (h : MzIn lo hi w m a c b d) (hz : hi ≤ w.heap.size) (h1 : m.doors.length ≤ 1048576) (h2 : m.keys.length ≤ 1048576) :
    Calls Try.prog 42 #[.agg #[.int .i64 m.size, .slice a m.doors.length c, .slice b m.keys.length d]] w (MzRowPost w m) := by
  have H := Lib.hid h
  clear h
  go_enter Try.func42, Try.ntmps42
  go_wp2_with fail
  refine wp_named ?_
  intro W hW
  have hb : Below w.heap.size w W := by rw [hW]; exact ((Below.refl _ _).alloc (Nat.le_refl _) _).alloc (by simp) _
  have x1 : Box3 W w.heap.size 27 (.int .i64 m.size) (.slice a m.doors.length c) (.slice b m.keys.length d) := by rw [hW]; exact (Box3.new _ _ _ _ rfl).alloc _
  have x2 : Box3 W (w.heap.size + 1) 27 (.int .i64 0) (.slice none 0 0) (.slice none 0 0) := by rw [hW]; exact Box3.new _ _ _ _ (by simp)
  clear hW
  have hzw := hb.size
  have hz1 := x2.lt
  have X1 := Lib.hid x1
  have X2 := Lib.hid x2
  have HB := Lib.hid hb
  obtain ⟨c0, c1, c2⟩ := x1.cells
  obtain ⟨f0, f1, f2⟩ := x2.free
  have CD := Lib.hid (fun W' (hq : Below W.heap.size W W') => cloneDoors_own W' lo hi a c m.doors (H.out.doors.below (hb.trans (hq.mono hzw)) hz) (Nat.le_trans hz (Nat.le_trans hzw hq.size)) h1)
  have CI := Lib.hid (fun W' (hq : Below W.heap.size W W') => cloneInts_own W' lo hi b d m.keys (H.out.keys.below (hb.trans (hq.mono hzw)) hz) (Nat.le_trans hz (Nat.le_trans hzw hq.size)) h2)
  clear x1 x2 hb
  go_region_held3 (fun wq => wq.cell? ⟨w.heap.size, 0, none⟩ = some (.int .i64 m.size) ∧ wq.cell? ⟨w.heap.size, 1, none⟩ = some (.slice a m.doors.length c) ∧ wq.cell? ⟨w.heap.size, 2, none⟩ = some (.slice b m.keys.length d)) (first | exact ⟨d0, d1, d2⟩ | go_keep) (first
    | (go_at_call 85
       first
       | (refine (CD.out _ hbq).mono ?_; rintro e w3 ⟨da, dc, rfl, od, hb3⟩; have hbr := hbq.trans (hb3.mono hbq.size); obtain ⟨d0, d1, d2⟩ := (X1.out.below hbr).cells; obtain ⟨g0, g1, g2⟩ := (X2.out.below hbr).free; obtain ⟨k0, k1, k2⟩ := (X2.out.below hbr).cells)
       | (refine (CD.out _ (Below.refl W.heap.size W).drew).mono ?_; rintro e w2 ⟨da, dc, rfl, od, hb2⟩; have hbq : Below W.heap.size W w2 := (Below.refl W.heap.size W).drew.trans hb2; obtain ⟨d0, d1, d2⟩ := (X1.out.below hbq).cells; obtain ⟨g0, g1, g2⟩ := (X2.out.below hbq).free; obtain ⟨k0, k1, k2⟩ := (X2.out.below hbq).cells))
    | (go_at_call 86
       first
       | (refine (CI.out _ hbq).mono ?_; rintro e w3 ⟨ia, ic, rfl, oi, hb3⟩; have hbr := hbq.trans (hb3.mono hbq.size); obtain ⟨d0, d1, d2⟩ := (X1.out.below hbr).cells; obtain ⟨g0, g1, g2⟩ := (X2.out.below hbr).free; obtain ⟨k0, k1, k2⟩ := (X2.out.below hbr).cells)
       | (refine (CI.out _ (Below.refl W.heap.size W).drew).mono ?_; rintro e w2 ⟨ia, ic, rfl, oi, hb2⟩; have hbq : Below W.heap.size W w2 := (Below.refl W.heap.size W).drew.trans hb2; obtain ⟨d0, d1, d2⟩ := (X1.out.below hbq).cells; obtain ⟨g0, g1, g2⟩ := (X2.out.below hbq).free; obtain ⟨k0, k1, k2⟩ := (X2.out.below hbq).cells)))
  all_goals
    have hdz : W.drew.heap.size = W.heap.size := rfl
    have hzq := hbq.size
    have hz3 := hb3.size
    have p1 : Hid (w3.ownsRow (w.heap.size + 1 + 1) 60 3 (.slice da m.doors.length dc) m.doors.length (M.encDs m.doors)) := by
      first
      | exact Lib.hid (own_weaken (own_below od hb3) (by omega))
      | exact Lib.hid (own_weaken od (by omega))
    have p2 : Hid (w3.ownsRow (w.heap.size + 1 + 1) 3 1 (.slice ia m.keys.length ic) m.keys.length (M.encIs m.keys)) := by
      first
      | exact Lib.hid (own_weaken (own_below oi hb3) (by omega))
      | exact Lib.hid (own_weaken oi (by omega))
    have hBW := Lib.hid (HB.out.trans (hbr.mono hzw))
    clear od oi hbq hb3 hbr
    go_wp2_with fail
    refine bodyPost_ret (v := .agg #[.int .i64 m.size, .slice da m.doors.length dc, .slice ia m.keys.length ic]) (by simp [results, Try.results42, go_sem, k0, k1, k2]) rfl ?_
    exact mzr_end hBW.out p1.out p2.out (by omega)
end C
end Go.Proofs.Ytmccpjdgnenmeaa
