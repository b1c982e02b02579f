/-
  CONTRACTS of copies of a slice: spec.l1Own, slices.Clone at numbers and at doors; a new slice that reads alike; what lay in memory stays. Condition: at most 1048576 elements.
  CONTRACTS of slices.Clone at numbers and at doors: a new slice that reads alike, nil for nil; what lay in memory stays. Condition: at most 1048576 elements.
  CONTRACTS of a maze's copies: impl.Maze.clone, spec.l2Own: what reads alike in memory of the call's own; what lay in memory stays. Condition: at most 1048576 doors and keys.
  WORDS for spec.l2Own: what an append leaves unturned. No condition.
  CONTRACT of spec.l2Own, a maze's copy, with no doors. Condition: at most 1048576 doors and keys.
  CONTRACT of spec.l2Own, a maze's copy, in full. Condition: at most 1048576 doors and keys.
  WORDS for a maze handed back from the result's own box: the maze, or the empty one and false. No condition.
  WORDS for a maze that is handed back out of a box at any place of the call's own, own to these proofs. No condition.
  WORDS for a queue of the call's own, own to these proofs: a slice that lies anywhere in a row that the call owns; what is taken off its head, what is appended to it. No condition.
-/
import Derived.Test.YtcoaggnilgfjfaaSValid
import Derived.Test.YtcoaggnilgfjfaaSLaw
import Derived.Laws.AppendOwnNone
import Derived.Deep.RegionHeld3
import Derived.Deep.RegionLaw
import Derived.Test.YtcoaggnilgfjfaaSBase
import Derived.Deep.AppendSrc
namespace Go.Proofs.Ytcoaggnilgfjfaa
open Go.RowKit
namespace C
set_option maxHeartbeats 800000
set_option maxRecDepth 20000
theorem run_app_nil {P : Program} (w : World) (base : Nat) (t ty e : TypeId) (i : TypeInfo) (size : Nat) (ht : P.underlying t = some (.slice e)) (hi : P.info? e = some i) (v : Value) (n : Nat) (xs : List Value) (hown : w.ownsRow base e size v n xs) (c : Nat) :
    (Builtin.append_ #[t, t] ty #[v, .slice none 0 c]).run P w = .ok v w := by
  rcases hown.2 with ⟨hv, hn⟩ | ⟨g, cap, cur, hv, _, _, hnc, _⟩
  · subst hv; subst hn
    simp [Builtin.append_, run_underlying ht, sizeOf, typeInfo, hi, Builtin.lenOf, Builtin.firstCells]
  · subst hv
    simp [Builtin.append_, run_underlying ht, sizeOf, typeInfo, hi, Builtin.lenOf, Builtin.firstCells, hnc, storeCells]
/-- a slice that reads so, appended to an empty one of the call's own: the source at an address, or none -/
theorem l1Own_any (w : World) (lo hi : Nat) (a : Option Addr) (c : Nat) (l : List Int) (h : RowIn lo hi w a (M.encIs l)) (hz : hi ≤ w.heap.size) (hl : l.length ≤ 1048576) :
    Calls Try.prog 112 #[.slice a l.length c] w (IntsPost w l) := by
  obtain ⟨i0, hi0, hz0, hz1, hz2⟩ := info_parts infoI
  have H := Lib.hid h
  clear h
  have ho := ownsRow_empty w w.heap.size 3 1 (Nat.le_refl _)
  have HO := Lib.hid ho
  clear ho
  rcases a with _ | ad
  · obtain rfl : l = [] := by
      rcases H.out with h | ⟨b, off, e, _⟩
      · exact List.eq_nil_of_length_eq_zero (by rw [← M.encIs_len, h]; rfl)
      · cases e
    have hrun := run_app_nil (P := Try.prog) (w.alloc (.cells #[] 3)) w.heap.size 23 23 3 i0 1 Try.underlying23 hi0 (.slice (some ⟨w.heap.size, 0, none⟩) 0 0) 0 [] HO.out c
    go_enter Try.func112, Try.ntmps112
    go_wp2_with fail
    go_ret
    exact ints_end (l := []) HO.out (below_alloc _ _)
  · have hcells : ∀ j u, (M.encIs l)[j]? = some u → (w.alloc (.cells #[] 3)).cell? (ad.add j) = some u := by
      intro j u hu
      rcases H.out with h | ⟨b, off, e, _, hb, hc⟩
      · rw [h] at hu; simp at hu
      · injection e with e
        subst e
        have hadd : (⟨b, off, none⟩ : Addr).add j = ⟨b, off + j, none⟩ := by
          unfold Addr.add
          split
          · rename_i h; subst h; rfl
          · rfl
        rw [hadd]
        exact (World.cell?_alloc_lt w _ _ (show b < _ by omega)).trans (hc j u hu)
    have HC := Lib.hid hcells
    clear hcells
    go_enter Try.func112, Try.ntmps112
    go_wp2_with (at_builtin; refine wpList_append_own _ rfl _ _ 23 rfl w.heap.size 3 i0 (.int .i64 0) 1 8 Try.underlying23 hi0 hz0 hz1 hz2 rfl (by decide) _ _ _ rfl HO.out ad l.length c (M.encIs l) rfl (by rw [M.encIs_len, Nat.mul_one]) HC.out (fun x hx => by unfold M.encIs at hx; obtain ⟨z, _, rfl⟩ := List.mem_map.1 hx; rfl) (by unfold maxLen; omega) (by omega) (by simp) ?_; intro v' w3 hown' hgrow3 hnil3)
    go_ret
    refine ints_end (by simpa using hown') ((below_alloc _ _).grown hgrow3 (by simp) (own_base HO.out))
end C
end Go.Proofs.Ytcoaggnilgfjfaa
namespace Go.Proofs.Ytcoaggnilgfjfaa
open Go.RowKit
namespace C
set_option maxHeartbeats 800000
set_option maxRecDepth 20000
/-- doors handed back in memory of the call's own -/
def DoorsRowPost (w : World) (l : List M.Dr) (e : Ending) (w' : World) : Prop :=
  ∃ a c, e = .returned (.slice a l.length c) ∧ OwnAt w.heap.size w'.heap.size w' 69 a (M.encDs l) ∧ l.length ≤ c ∧ c ≤ 9223372036854775807 ∧ Below w.heap.size w w'
theorem doorsRow_end {w w' : World} {l : List M.Dr} {v : Value} (h : w'.ownsRow w.heap.size 69 3 v l.length (M.encDs l)) (hb : Below w.heap.size w w') : DoorsRowPost w l (.returned v) w' := by
  obtain ⟨a, c, rfl, h1, h2, h3⟩ := own_slice h
  exact ⟨a, c, rfl, h3, h1, h2, hb⟩
theorem encDs_one (l : List M.Dr) : ∀ x ∈ M.encDs l, x.oneCell' = true := by
  intro x hx
  unfold M.encDs at hx
  obtain ⟨d, _, hd⟩ := List.mem_flatMap.1 hx
  simp [M.encD] at hd
  rcases hd with rfl | rfl | rfl <;> rfl
theorem cloneInts_any (w : World) (lo hi : Nat) (a : Option Addr) (c : Nat) (l : List Int) (h : RowIn lo hi w a (M.encIs l)) (hz : hi ≤ w.heap.size) (hl : l.length ≤ 1048576) :
    Calls Try.prog 75 #[.slice a l.length c] w (IntsPost w l) := by
  obtain ⟨i0, hi0, hz0, hz1, hz2⟩ := info_parts infoI
  have H := Lib.hid h
  clear h
  have ho := ownsRow_empty w w.heap.size 3 1 (Nat.le_refl _)
  have HO := Lib.hid ho
  clear ho
  rcases a with _ | ad
  · obtain rfl : l = [] := by
      rcases H.out with h | ⟨b, off, e, _⟩
      · exact List.eq_nil_of_length_eq_zero (by rw [← M.encIs_len, h]; rfl)
      · cases e
    have hq := fun W => Lib.run_eql_slice_nil (P := Try.prog) W 23 3 none 0 c 0 0 Try.underlying23
    go_enter Try.func75, Try.ntmps75
    go_wp2_with fail
    go_ret
    exact ints_end (l := []) (World.ownsRow_nil _ _ _ _) (Below.refl _ _)
  · have hcells : ∀ j u, (M.encIs l)[j]? = some u → (w.alloc (.cells #[] 3)).cell? (ad.add j) = some u := by
      intro j u hu
      rcases H.out with h | ⟨b, off, e, _, hb, hc⟩
      · rw [h] at hu; simp at hu
      · injection e with e
        subst e
        have hadd : (⟨b, off, none⟩ : Addr).add j = ⟨b, off + j, none⟩ := by
          unfold Addr.add
          split
          · rename_i h; subst h; rfl
          · rfl
        rw [hadd]
        exact (World.cell?_alloc_lt w _ _ (show b < _ by omega)).trans (hc j u hu)
    have HC := Lib.hid hcells
    clear hcells
    have hq := fun W => Lib.run_eql_slice_nil (P := Try.prog) W 23 3 (some ad) l.length c 0 0 Try.underlying23
    go_enter Try.func75, Try.ntmps75
    go_wp2_with (at_builtin; refine wpList_append_own _ rfl _ _ 23 rfl w.heap.size 3 i0 (.int .i64 0) 1 8 Try.underlying23 hi0 hz0 hz1 hz2 rfl (by decide) _ _ _ rfl HO.out ad l.length c (M.encIs l) rfl (by rw [M.encIs_len, Nat.mul_one]) HC.out (fun x hx => by unfold M.encIs at hx; obtain ⟨z, _, rfl⟩ := List.mem_map.1 hx; rfl) (by unfold maxLen; omega) (by omega) (by simp) ?_; intro v' w3 hown' hgrow3 hnil3)
    go_ret
    refine ints_end (by simpa using hown') ((below_alloc _ _).grown hgrow3 (by simp) (own_base HO.out))
theorem cloneDoors_any (w : World) (lo hi : Nat) (a : Option Addr) (c : Nat) (l : List M.Dr) (h : RowIn lo hi w a (M.encDs l)) (hz : hi ≤ w.heap.size) (hl : l.length ≤ 1048576) :
    Calls Try.prog 143 #[.slice a l.length c] w (DoorsRowPost w l) := by
  obtain ⟨i0, hi0, hz0, hz1, hz2⟩ := info_parts infoD
  have H := Lib.hid h
  clear h
  have ho := ownsRow_empty w w.heap.size 69 3 (Nat.le_refl _)
  have HO := Lib.hid ho
  clear ho
  rcases a with _ | ad
  · obtain rfl : l = [] := by
      rcases H.out with h | ⟨b, off, e, _⟩
      · exact List.eq_nil_of_length_eq_zero (by have := M.encDs_len l; rw [h] at this; simp at this; omega)
      · cases e
    have hq := fun W => Lib.run_eql_slice_nil (P := Try.prog) W 22 69 none 0 c 0 0 Try.underlying22
    go_enter Try.func143, Try.ntmps143
    go_wp2_with fail
    go_ret
    exact doorsRow_end (l := []) (World.ownsRow_nil _ _ _ _) (Below.refl _ _)
  · have hcells : ∀ j u, (M.encDs l)[j]? = some u → (w.alloc (.cells #[] 69)).cell? (ad.add j) = some u := by
      intro j u hu
      rcases H.out with h | ⟨b, off, e, _, hb, hc⟩
      · rw [h] at hu; simp at hu
      · injection e with e
        subst e
        have hadd : (⟨b, off, none⟩ : Addr).add j = ⟨b, off + j, none⟩ := by
          unfold Addr.add
          split
          · rename_i h; subst h; rfl
          · rfl
        rw [hadd]
        exact (World.cell?_alloc_lt w _ _ (show b < _ by omega)).trans (hc j u hu)
    have HC := Lib.hid hcells
    clear hcells
    have hq := fun W => Lib.run_eql_slice_nil (P := Try.prog) W 22 69 (some ad) l.length c 0 0 Try.underlying22
    go_enter Try.func143, Try.ntmps143
    go_wp2_with (at_builtin; refine wpList_append_own _ rfl _ _ 22 rfl w.heap.size 69 i0 (.agg #[.int .i64 0, .int .i64 0, .int .i64 0]) 3 24 Try.underlying22 hi0 hz0 hz1 hz2 rfl (by decide) _ _ _ rfl HO.out ad l.length c (M.encDs l) rfl (M.encDs_len l) HC.out (encDs_one l) (by unfold maxLen; omega) (by omega) (by simp) ?_; intro v' w3 hown' hgrow3 hnil3)
    go_ret
    refine doorsRow_end (by simpa using hown') ((below_alloc _ _).grown hgrow3 (by simp) (own_base HO.out))
end C
end Go.Proofs.Ytcoaggnilgfjfaa
namespace Go.Proofs.Ytcoaggnilgfjfaa
open Go.RowKit
namespace C
set_option maxHeartbeats 1600000
set_option maxRecDepth 20000
/-- the result's box written field by field: the maze in memory of the call's own -/
theorem mz_end {w w3 : World} {m : M.Mz} {da ia : Option Addr} {dc ic : Nat} {u0 u1 u2 : Value} (hB : Below w.heap.size w w3)
    (p1 : OwnAt (w.heap.size + 1 + 1) w3.heap.size w3 69 da (M.encDs m.doors)) (p2 : OwnAt (w.heap.size + 1 + 1) w3.heap.size w3 3 ia (M.encIs m.keys))
    (q1 : m.doors.length ≤ dc) (q2 : dc ≤ 9223372036854775807) (q3 : m.keys.length ≤ ic) (q4 : ic ≤ 9223372036854775807) (hz : w.heap.size + 1 < w3.heap.size) :
    MzPost w m (.returned (.agg #[.int .i64 m.size, .slice da m.doors.length dc, .slice ia m.keys.length ic])) (((w3.setCell ⟨w.heap.size + 1, 0, none⟩ u0).setCell ⟨w.heap.size + 1, 1, none⟩ u1).setCell ⟨w.heap.size + 1, 2, none⟩ u2) := by
  have hT : Turned (w.heap.size + 1) (w.heap.size + 1 + 1) w3 (((w3.setCell ⟨w.heap.size + 1, 0, none⟩ u0).setCell ⟨w.heap.size + 1, 1, none⟩ u1).setCell ⟨w.heap.size + 1, 2, none⟩ u2) :=
    ((Turned.setCell _ _ _ _ (by omega) (by omega)).trans (Turned.setCell _ _ _ _ (by omega) (by omega))).trans (Turned.setCell _ _ _ _ (by omega) (by omega))
  have hs := hT.size
  exact ⟨_, _, _, _, rfl, ⟨(p1.turned hT (Nat.le_refl _) (by omega)).mono (by omega) hs, (p2.turned hT (Nat.le_refl _) (by omega)).mono (by omega) hs, q1, q2, q3, q4⟩, Below.thenTurned hB hT (by omega) (by omega)⟩
theorem clone_any (w : World) (lo hi : Nat) (m : M.Mz) (a b : Option Addr) (c d : Nat) (h : MzIn lo hi w m a c b d) (hz : hi ≤ w.heap.size) (h1 : m.doors.length ≤ 1048576) (h2 : m.keys.length ≤ 1048576) :
    Calls Try.prog 118 #[.agg #[.int .i64 m.size, .slice a m.doors.length c, .slice b m.keys.length d]] w (MzPost w m) := by
  have H := Lib.hid h
  clear h
  go_enter Try.func118, Try.ntmps118
  go_wp2_with fail
  refine wp_named ?_
  intro W hW
  have hb : Below w.heap.size w W := by rw [hW]; exact ((Below.refl _ _).alloc (Nat.le_refl _) _).alloc (by simp) _
  have x1 : Box3 W w.heap.size 29 (.int .i64 m.size) (.slice a m.doors.length c) (.slice b m.keys.length d) := by rw [hW]; exact (Box3.new _ _ _ _ rfl).alloc _
  have x2 : Box3 W (w.heap.size + 1) 29 (.int .i64 0) (.slice none 0 0) (.slice none 0 0) := by rw [hW]; exact Box3.new _ _ _ _ (by simp)
  clear hW
  have hzw := hb.size
  have hz1 := x2.lt
  have X1 := Lib.hid x1
  have X2 := Lib.hid x2
  have HB := Lib.hid hb
  obtain ⟨c0, c1, c2⟩ := x1.cells
  obtain ⟨f0, f1, f2⟩ := x2.free
  have CD := Lib.hid (fun W' (hq : Below W.heap.size W W') => cloneDoors_any W' lo hi a c m.doors (H.out.doors.below (hb.trans (hq.mono hzw)) hz) (Nat.le_trans hz (Nat.le_trans hzw hq.size)) h1)
  have CI := Lib.hid (fun W' (hq : Below W.heap.size W W') => cloneInts_any W' lo hi b d m.keys (H.out.keys.below (hb.trans (hq.mono hzw)) hz) (Nat.le_trans hz (Nat.le_trans hzw hq.size)) h2)
  clear x1 x2 hb
  go_region_held3 (fun wq => wq.cell? ⟨w.heap.size, 0, none⟩ = some (.int .i64 m.size) ∧ wq.cell? ⟨w.heap.size, 1, none⟩ = some (.slice a m.doors.length c) ∧ wq.cell? ⟨w.heap.size, 2, none⟩ = some (.slice b m.keys.length d)) (first | exact ⟨d0, d1, d2⟩ | go_keep) (first
    | (go_at_call 143
       first
       | (refine (CD.out _ hbq).mono ?_; rintro e w3 ⟨da, dc, rfl, od, qd1, qd2, hb3⟩; have hbr := hbq.trans (hb3.mono hbq.size); obtain ⟨d0, d1, d2⟩ := (X1.out.below hbr).cells; obtain ⟨g0, g1, g2⟩ := (X2.out.below hbr).free; obtain ⟨k0, k1, k2⟩ := (X2.out.below hbr).cells)
       | (refine (CD.out _ (Below.refl W.heap.size W).drew).mono ?_; rintro e w2 ⟨da, dc, rfl, od, qd1, qd2, hb2⟩; have hbq : Below W.heap.size W w2 := (Below.refl W.heap.size W).drew.trans hb2; obtain ⟨d0, d1, d2⟩ := (X1.out.below hbq).cells; obtain ⟨g0, g1, g2⟩ := (X2.out.below hbq).free; obtain ⟨k0, k1, k2⟩ := (X2.out.below hbq).cells))
    | (go_at_call 75
       first
       | (refine (CI.out _ hbq).mono ?_; rintro e w3 ⟨ia, ic, rfl, oi, qi1, qi2, hb3⟩; have hbr := hbq.trans (hb3.mono hbq.size); obtain ⟨d0, d1, d2⟩ := (X1.out.below hbr).cells; obtain ⟨g0, g1, g2⟩ := (X2.out.below hbr).free; obtain ⟨k0, k1, k2⟩ := (X2.out.below hbr).cells)
       | (refine (CI.out _ (Below.refl W.heap.size W).drew).mono ?_; rintro e w2 ⟨ia, ic, rfl, oi, qi1, qi2, hb2⟩; have hbq : Below W.heap.size W w2 := (Below.refl W.heap.size W).drew.trans hb2; obtain ⟨d0, d1, d2⟩ := (X1.out.below hbq).cells; obtain ⟨g0, g1, g2⟩ := (X2.out.below hbq).free; obtain ⟨k0, k1, k2⟩ := (X2.out.below hbq).cells)))
  all_goals
    have hdz : W.drew.heap.size = W.heap.size := rfl
    have hzq := hbq.size
    have hz3 := hb3.size
    have p1 : Hid (OwnAt (w.heap.size + 1 + 1) w3.heap.size w3 69 da (M.encDs m.doors)) := by
      first
      | exact Lib.hid ((od.below hb3 (Nat.le_refl _)).mono (by omega) (by omega))
      | exact Lib.hid (od.mono (by omega) (by omega))
    have p2 : Hid (OwnAt (w.heap.size + 1 + 1) w3.heap.size w3 3 ia (M.encIs m.keys)) := by
      first
      | exact Lib.hid ((oi.below hb3 (Nat.le_refl _)).mono (by omega) (by omega))
      | exact Lib.hid (oi.mono (by omega) (by omega))
    have hBW := Lib.hid (HB.out.trans (hbr.mono hzw))
    clear od oi hbq hb3 hbr
    go_wp2_with fail
    refine bodyPost_ret (v := .agg #[.int .i64 m.size, .slice da m.doors.length dc, .slice ia m.keys.length ic]) (by simp [results, Try.results118, go_sem, k0, k1, k2]) rfl ?_
    exact mz_end hBW.out p1.out p2.out qd1 qd2 qi1 qi2 (by omega)
end C
end Go.Proofs.Ytcoaggnilgfjfaa
namespace Go.Proofs.Ytcoaggnilgfjfaa
open Go.RowKit
namespace C
set_option maxHeartbeats 32000000
set_option maxRecDepth 20000
theorem turned_of_grown {w w' : World} {row : Option Nat} {g : Nat} (hg : w.grownBy w' row) (hr : row = some g) : Turned g (g + 1) w w' :=
  ⟨hg.os, hg.tape, hg.output, hg.size, fun k hk ho => hg.block k hk (fun e => by rw [hr] at e; injection e; omega)⟩
theorem run_app_nil0 {P : Program} (t ty e : TypeId) (i : TypeInfo) (ht : P.underlying t = some (.slice e)) (hi : P.info? e = some i) (w : World) (g c : Nat) :
    (Builtin.append_ #[t, t] ty #[.slice (some ⟨g, 0, none⟩) 0 0, .slice none 0 c]).run P w = .ok (.slice (some ⟨g, 0, none⟩) 0 0) w := by
  simp [Builtin.append_, run_underlying ht, sizeOf, typeInfo, hi, Builtin.lenOf, Builtin.firstCells, storeCells]
/-- a row of doors held by the call so far -/
def ownsNow (w : World) (B : Nat) (v : Value) (m : M.Mz) : Prop := w.ownsRow B 69 3 v m.doors.length (M.encDs m.doors)
end C
end Go.Proofs.Ytcoaggnilgfjfaa
namespace Go.Proofs.Ytcoaggnilgfjfaa
open Go.RowKit
namespace C
set_option maxHeartbeats 32000000
set_option maxRecDepth 20000
theorem mz_end0 {w w3 : World} {m : M.Mz} {g : Addr} {ia : Option Addr} {ic : Nat} {u0 u1 u2 : Value} (hB : Below w.heap.size w w3) (hd1 : M.encDs m.doors = []) (hd0 : m.doors.length = 0)
    (p2 : OwnAt (w.heap.size + 1 + 1) w3.heap.size w3 3 ia (M.encIs m.keys))
    (q3 : m.keys.length ≤ ic) (q4 : ic ≤ 9223372036854775807) (hz : w.heap.size + 1 < w3.heap.size) :
    MzPost w m (.returned (.agg #[.int .i64 m.size, .slice (some g) 0 0, .slice ia m.keys.length ic])) (((w3.setCell ⟨w.heap.size + 1, 0, none⟩ u0).setCell ⟨w.heap.size + 1, 1, none⟩ u1).setCell ⟨w.heap.size + 1, 2, none⟩ u2) := by
  have := mz_end (u0 := u0) (u1 := u1) (u2 := u2) (da := some g) (dc := 0) hB (by rw [hd1]; exact OwnAt.nil _ _ _ _ _) p2 (by omega) (by omega) q3 q4 hz
  rwa [hd0] at this
theorem l2Own_none (w : World) (lo hi : Nat) (m : M.Mz) (b : Option Addr) (c d : Nat) (h : MzIn lo hi w m none c b d) (hz : hi ≤ w.heap.size) (_h1 : m.doors.length ≤ 1048576) (h2 : m.keys.length ≤ 1048576) :
    Calls Try.prog 86 #[.agg #[.int .i64 m.size, .slice none m.doors.length c, .slice b m.keys.length d]] w (MzPost w m) := by
  obtain ⟨i0, hi0, hz0, hz1, hz2⟩ := info_parts infoD
  have H := Lib.hid h
  clear h
  obtain ⟨hd0, hd1⟩ : m.doors.length = 0 ∧ M.encDs m.doors = [] := by
    rcases H.out.doors with h | ⟨b, off, e, _⟩
    · exact ⟨by have := M.encDs_len m.doors; rw [h] at this; simp at this; omega, h⟩
    · cases e
  have hrun := run_app_nil0 (P := Try.prog) 22 22 69 i0 Try.underlying22 hi0
  have HD1 := Lib.hid hd1
  have HL1 := Lib.hid hd0
  clear hd1
  rw [hd0]
  go_enter Try.func86, Try.ntmps86
  go_wp2_with fail
  refine wp_named ?_
  intro W hW
  have hb : Below w.heap.size w W := by rw [hW]; exact ((Below.refl _ _).alloc (Nat.le_refl _) _).alloc (by simp) _
  have x1 : Box3 W w.heap.size 29 (.int .i64 m.size) (.slice none 0 c) (.slice b m.keys.length d) := by rw [hW]; exact (Box3.new _ _ _ _ rfl).alloc _
  have x2 : Box3 W (w.heap.size + 1) 29 (.int .i64 0) (.slice none 0 0) (.slice none 0 0) := by rw [hW]; exact Box3.new _ _ _ _ (by simp)
  clear hW
  have hzw := hb.size
  have hz1 := x2.lt
  have hz0' := x1.lt
  have X1 := Lib.hid x1
  have X2 := Lib.hid x2
  have HB := Lib.hid hb
  obtain ⟨c0, c1, c2⟩ := x1.cells
  obtain ⟨f0, f1, f2⟩ := x2.free
  have OI := Lib.hid (fun W' (hq : Below W.heap.size W W') => l1Own_any W' lo hi b d m.keys (H.out.keys.below (hb.trans (hq.mono hzw)) hz) (Nat.le_trans hz (Nat.le_trans hzw hq.size)) h2)
  clear x1 x2 hb
  go_region_held3 (fun wq => wq.cell? ⟨w.heap.size, 0, none⟩ = some (.int .i64 m.size) ∧ wq.cell? ⟨w.heap.size, 1, none⟩ = some (.slice none 0 c) ∧ wq.cell? ⟨w.heap.size, 2, none⟩ = some (.slice b m.keys.length d)) (first | exact ⟨d0, d1, d2⟩ | go_keep) (first
    | (go_at_call 112
       first
       | (refine (OI.out _ (Below.refl W.heap.size W).drew).mono ?_; rintro e w2 ⟨ia, ic, rfl, oi, qi1, qi2, hb2⟩; have hbq : Below W.heap.size W w2 := (Below.refl W.heap.size W).drew.trans hb2; obtain ⟨d0, d1, d2⟩ := (X1.out.below hbq).cells; obtain ⟨g0, g1, g2⟩ := (X2.out.below hbq).free; obtain ⟨k0, k1, k2⟩ := (X2.out.below hbq).cells; have hn1 := (X1.out.below hbq).lt; have hn2 := (X2.out.below hbq).lt)
       | (refine (OI.out _ ((Below.refl W.heap.size W).drew.alloc (Nat.le_refl _) _)).mono ?_; rintro e w2 ⟨ia, ic, rfl, oi, qi1, qi2, hb2⟩; have hbq : Below W.heap.size W w2 := ((Below.refl W.heap.size W).drew.alloc (Nat.le_refl _) _).trans (hb2.mono (by simp)); obtain ⟨d0, d1, d2⟩ := (X1.out.below hbq).cells; obtain ⟨g0, g1, g2⟩ := (X2.out.below hbq).free; obtain ⟨k0, k1, k2⟩ := (X2.out.below hbq).cells; have hn1 := (X1.out.below hbq).lt; have hn2 := (X2.out.below hbq).lt)))
  all_goals
    have hBW := Lib.hid (HB.out.trans (hbq.mono hzw))
    have hs2 := hbq.size
    have hl0 := HL1.out
    go_wp2_with fail
    first
    | (refine bodyPost_ret (v := .agg #[.int .i64 m.size, .slice (some ⟨W.heap.size, 0, none⟩) 0 0, .slice ia m.keys.length ic]) (by simp [results, Try.results86, go_sem, k0, k1, k2]) rfl ?_
       exact mz_end0 hBW.out HD1.out HL1.out (oi.mono (by first | omega | (simp; omega)) (Nat.le_refl _)) qi1 qi2 (by omega))
    | (obtain ⟨kk0, kk1, kk2⟩ := ((X2.out.below hbq).alloc (.cells #[] 69)).cells
       refine bodyPost_ret (v := .agg #[.int .i64 m.size, .slice (some ⟨w2.heap.size, 0, none⟩) 0 0, .slice ia m.keys.length ic]) (by simp [results, Try.results86, go_sem, kk0, kk1, kk2]) rfl ?_
       exact mz_end0 (hBW.out.alloc (by omega) _) HD1.out HL1.out ((oi.below (below_alloc _ _) (Nat.le_refl _)).mono (by first | omega | (simp; omega)) (by simp)) qi1 qi2 (by simp; omega))
end C
end Go.Proofs.Ytcoaggnilgfjfaa
namespace Go.Proofs.Ytcoaggnilgfjfaa
open Go.RowKit
namespace C
set_option maxHeartbeats 32000000
set_option maxRecDepth 20000
theorem step_append_own {P : Program} {w : World} {ops : Array Oper} {o : Oper} {a : Act} {K : Act → World → Prop} {Q : Exit → Act → World → Prop} {E : Prop} (hgd : o.guard = none) (s x : Operand) (t : TypeId)
    (ho : o.op = .call { callee := .builtin .append, args := #[s, x], argTypes := #[t, t] })
    (base : Nat) (e : TypeId) (i : TypeInfo) (z : Value) (size bytes : Nat) (ht : P.underlying t = some (.slice e)) (hi : P.info? e = some i) (hz : i.zero = some z)
    (hsize : i.size = size) (hby : i.bytes = bytes) (hzs : z.cells.size = size) (hsz : 0 < size)
    (v : Value) (n : Nat) (xs : List Value) (hown : w.ownsRow base e size v n xs) (hs : a.eval s = v)
    (ad : Addr) (m c : Nat) (news : List Value) (hx : a.eval x = .slice (some ad) m c) (hl : news.length = m * size) (hnews : ∀ j u, news[j]? = some u → w.cell? (ad.add j) = some u) (h1 : ∀ u ∈ news, u.oneCell' = true)
    (h63 : n + m ≤ maxLen) (hbytes : (n + m) * bytes ≤ 140737488355328) (hbase : base ≤ w.heap.size)
    (h : ∀ v' w', w'.ownsRow base e size v' (n + m) (xs ++ news) → w.grownBy w' v.ownBlock → (v' = .slice none 0 0 ↔ v = .slice none 0 0 ∧ m = 0) → K (a.put o.dst v') w') :
    if Region.wanted o (yielded ops a.tmps) = true then Oper.wp P o a w K Q else E := by
  have hw : Region.wanted o (yielded ops a.tmps) = true := by simp [Region.wanted, hgd]
  rw [if_pos hw]
  exact wp_append_own w s x t ho base e i z size bytes ht hi hz hsize hby hzs hsz v n xs hs hown ad m c news hx hl hnews h1 h63 hbytes hbase h
theorem l2Own_some (w : World) (lo hi : Nat) (m : M.Mz) (ad : Addr) (b : Option Addr) (c d : Nat) (h : MzIn lo hi w m (some ad) c b d) (hz : hi ≤ w.heap.size) (h1 : m.doors.length ≤ 1048576) (h2 : m.keys.length ≤ 1048576) :
    Calls Try.prog 86 #[.agg #[.int .i64 m.size, .slice (some ad) m.doors.length c, .slice b m.keys.length d]] w (MzPost w m) := by
  obtain ⟨i0, hi0, hz0, hz1, hz2⟩ := info_parts infoD
  have H := Lib.hid h
  clear h
  have hcells : ∀ W' (hq : Below w.heap.size w W') j u, (M.encDs m.doors)[j]? = some u → W'.cell? (ad.add j) = some u := by
    intro W' hq j u hu
    rcases H.out.doors with h | ⟨b, off, e, _, hb, hc⟩
    · rw [h] at hu; simp at hu
    · injection e with e
      subst e
      have hadd : (⟨b, off, none⟩ : Addr).add j = ⟨b, off + j, none⟩ := by
        unfold Addr.add
        split
        · rename_i h; subst h; rfl
        · rfl
      rw [hadd]
      exact (hq.cell (p := ⟨b, off + j, none⟩) (show b < _ by omega)).trans (hc j u hu)
  have HC := Lib.hid hcells
  clear hcells
  go_enter Try.func86, Try.ntmps86
  go_wp2_with fail
  refine wp_named ?_
  intro W hW
  have hb : Below w.heap.size w W := by rw [hW]; exact ((Below.refl _ _).alloc (Nat.le_refl _) _).alloc (by simp) _
  have x1 : Box3 W w.heap.size 29 (.int .i64 m.size) (.slice (some ad) m.doors.length c) (.slice b m.keys.length d) := by rw [hW]; exact (Box3.new _ _ _ _ rfl).alloc _
  have x2 : Box3 W (w.heap.size + 1) 29 (.int .i64 0) (.slice none 0 0) (.slice none 0 0) := by rw [hW]; exact Box3.new _ _ _ _ (by simp)
  clear hW
  have hzw := hb.size
  have hzx := x2.lt
  have hz0' := x1.lt
  have X1 := Lib.hid x1
  have X2 := Lib.hid x2
  have HB := Lib.hid hb
  obtain ⟨c0, c1, c2⟩ := x1.cells
  obtain ⟨f0, f1, f2⟩ := x2.free
  have OI := Lib.hid (fun W' (hq : Below W.heap.size W W') => l1Own_any W' lo hi b d m.keys (H.out.keys.below (hb.trans (hq.mono hzw)) hz) (Nat.le_trans hz (Nat.le_trans hzw hq.size)) h2)
  have hdz : W.drew.heap.size = W.heap.size := rfl
  clear x1 x2
  go_region_held3 (fun wq => wq.cell? ⟨w.heap.size, 0, none⟩ = some (.int .i64 m.size) ∧ wq.cell? ⟨w.heap.size, 1, none⟩ = some (.slice (some ad) m.doors.length c) ∧ wq.cell? ⟨w.heap.size, 2, none⟩ = some (.slice b m.keys.length d)) (first | exact ⟨d0, d1, d2⟩ | go_keep) (first
    | (go_at_call 112
       first
       | (refine (OI.out _ hba).mono ?_; rintro e w9 ⟨ia, ic, rfl, oi, qi1, qi2, hb2⟩; have hbr : Below W.heap.size W w9 := hba.trans (hb2.mono hba.size); have hs2 := hba.size; have hs9 := hb2.size; have p1 : Hid (OwnAt (w.heap.size + 1 + 1) w9.heap.size w9 69 da (M.encDs m.doors)) := Lib.hid ((od.below hb2 (Nat.le_refl _)).mono (by omega) (by omega)); have p2 : Hid (OwnAt (w.heap.size + 1 + 1) w9.heap.size w9 3 ia (M.encIs m.keys)) := Lib.hid (oi.mono (by omega) (by omega)); obtain ⟨d0, d1, d2⟩ := (X1.out.below hbr).cells; obtain ⟨g0, g1, g2⟩ := (X2.out.below hbr).free; obtain ⟨k0, k1, k2⟩ := (X2.out.below hbr).cells; have hn1 := (X1.out.below hbr).lt; have hn2 := (X2.out.below hbr).lt)
       | (refine (OI.out _ ((Below.refl W.heap.size W).drew.alloc (Nat.le_refl _) _)).mono ?_; rintro e w2 ⟨ia, ic, rfl, oi, qi1, qi2, hb2⟩; have hbq : Below W.heap.size W w2 := ((Below.refl W.heap.size W).drew.alloc (Nat.le_refl _) _).trans (hb2.mono (by simp)); have hown2 := own_below (ownsRow_empty W.drew W.heap.size 69 3 (Nat.le_refl _)) hb2; have hs2 := hbq.size; obtain ⟨d0, d1, d2⟩ := (X1.out.below hbq).cells; obtain ⟨g0, g1, g2⟩ := (X2.out.below hbq).free; obtain ⟨k0, k1, k2⟩ := (X2.out.below hbq).cells; have hn1 := (X1.out.below hbq).lt; have hn2 := (X2.out.below hbq).lt)
       | (refine (OI.out _ ((Below.refl W.heap.size W).drew)).mono ?_; rintro e w2 ⟨ia, ic, rfl, oi, qi1, qi2, hb2⟩; have hbq : Below W.heap.size W w2 := ((Below.refl W.heap.size W).drew).trans hb2; have hs2 := hbq.size; obtain ⟨d0, d1, d2⟩ := (X1.out.below hbq).cells; obtain ⟨g0, g1, g2⟩ := (X2.out.below hbq).free; obtain ⟨k0, k1, k2⟩ := (X2.out.below hbq).cells; have hn1 := (X1.out.below hbq).lt; have hn2 := (X2.out.below hbq).lt))
    | (first
       | (refine step_append_own rfl (.tmp 5) (.tmp 7) 22 rfl W.heap.size 69 i0 (.agg #[.int .i64 0, .int .i64 0, .int .i64 0]) 3 24 Try.underlying22 hi0 hz0 hz1 hz2 rfl (by decide) _ _ _ hown2 (by simp [Act.eval, Act.put]) ad m.doors.length c (M.encDs m.doors) (by simp [Act.eval, Act.put]) (M.encDs_len _) (HC.out _ (hb.trans (hbq.mono hzw))) (encDs_one _) (by unfold maxLen; omega) (by omega) (by first | (simp; done) | (have := hbq.size; omega)) ?_; intro v' w9 hown' hgrow' hnil'; obtain ⟨da, dc, rfl, qd1, qd2, od⟩ := own_slice (show C.ownsNow w9 W.heap.size v' m by unfold C.ownsNow; simpa using hown'); have hbr : Below W.heap.size W w9 := hbq.grown hgrow' hs2 (own_base hown2); have hs9 := hbr.size; have hg9 := hgrow'.size; have p1 : Hid (OwnAt (w.heap.size + 1 + 1) w9.heap.size w9 69 da (M.encDs m.doors)) := Lib.hid (od.mono (by omega) (by omega)); have p2 : Hid (OwnAt (w.heap.size + 1 + 1) w9.heap.size w9 3 ia (M.encIs m.keys)) := Lib.hid ((oi.turned (turned_of_grown hgrow' rfl) (Nat.le_refl _) (.inr (by simp))).mono (by first | omega | (simp; omega)) (by omega)); obtain ⟨d0, d1, d2⟩ := (X1.out.below hbr).cells; obtain ⟨g0, g1, g2⟩ := (X2.out.below hbr).free; obtain ⟨k0, k1, k2⟩ := (X2.out.below hbr).cells; have hn1 := (X1.out.below hbr).lt; have hn2 := (X2.out.below hbr).lt)
       | (refine step_append_own rfl (.tmp 5) (.tmp 7) 22 rfl w2.heap.size 69 i0 (.agg #[.int .i64 0, .int .i64 0, .int .i64 0]) 3 24 Try.underlying22 hi0 hz0 hz1 hz2 rfl (by decide) _ _ _ (ownsRow_empty w2 w2.heap.size 69 3 (Nat.le_refl _)) (by simp [Act.eval, Act.put]) ad m.doors.length c (M.encDs m.doors) (by simp [Act.eval, Act.put]) (M.encDs_len _) (HC.out _ ((hb.trans (hbq.mono hzw)).alloc (by omega) _)) (encDs_one _) (by unfold maxLen; omega) (by omega) (by first | (simp; done) | (have := hbq.size; omega)) ?_; intro v' w9 hown' hgrow' hnil'; obtain ⟨da, dc, rfl, qd1, qd2, od⟩ := own_slice (show C.ownsNow w9 w2.heap.size v' m by unfold C.ownsNow; simpa using hown'); have hb9 : Below w2.heap.size w2 w9 := (below_alloc w2 _).grown hgrow' (by simp) (own_base (ownsRow_empty w2 w2.heap.size 69 3 (Nat.le_refl _))); have hs9 := hb9.size; have hbr : Below W.heap.size W w9 := hbq.trans (hb9.mono hs2); have p1 : Hid (OwnAt (w.heap.size + 1 + 1) w9.heap.size w9 69 da (M.encDs m.doors)) := Lib.hid (od.mono (by omega) (by omega)); have p2 : Hid (OwnAt (w.heap.size + 1 + 1) w9.heap.size w9 3 ia (M.encIs m.keys)) := Lib.hid ((oi.below hb9 (Nat.le_refl _)).mono (by first | omega | (simp; omega)) (by omega)); obtain ⟨d0, d1, d2⟩ := (X1.out.below hbr).cells; obtain ⟨g0, g1, g2⟩ := (X2.out.below hbr).free; obtain ⟨k0, k1, k2⟩ := (X2.out.below hbr).cells; have hn1 := (X1.out.below hbr).lt; have hn2 := (X2.out.below hbr).lt)
       | (refine step_append_own rfl (.tmp 5) (.tmp 7) 22 rfl W.heap.size 69 i0 (.agg #[.int .i64 0, .int .i64 0, .int .i64 0]) 3 24 Try.underlying22 hi0 hz0 hz1 hz2 rfl (by decide) _ _ _ (ownsRow_empty W.drew W.heap.size 69 3 (Nat.le_refl _)) (by simp [Act.eval]) ad m.doors.length c (M.encDs m.doors) (by simp [Act.eval]) (M.encDs_len _) (HC.out _ (hb.trans (((Below.refl W.heap.size W).drew.alloc (Nat.le_refl _) _).mono hzw))) (encDs_one _) (by unfold maxLen; omega) (by omega) (by first | (simp; done) | (have := hbq.size; omega)) ?_; intro v' w2 hown' hgrow' hnil'; obtain ⟨da, dc, rfl, qd1, qd2, od⟩ := own_slice (show C.ownsNow w2 W.heap.size v' m by unfold C.ownsNow; simpa using hown'); have hba : Below W.heap.size W w2 := ((Below.refl W.heap.size W).drew.alloc (Nat.le_refl _) _).grown hgrow' (by simp) (own_base (ownsRow_empty W.drew W.heap.size 69 3 (Nat.le_refl _))); obtain ⟨d0, d1, d2⟩ := (X1.out.below hba).cells; obtain ⟨g0, g1, g2⟩ := (X2.out.below hba).free; obtain ⟨k0, k1, k2⟩ := (X2.out.below hba).cells; have hn1 := (X1.out.below hba).lt; have hn2 := (X2.out.below hba).lt)))
  all_goals
    have hBW := Lib.hid (HB.out.trans (hbr.mono hzw))
    have hsr := hbr.size
    go_wp2_with fail
    refine bodyPost_ret (v := .agg #[.int .i64 m.size, .slice da m.doors.length dc, .slice ia m.keys.length ic]) (by simp [results, Try.results86, go_sem, k0, k1, k2]) rfl ?_
    exact mz_end hBW.out p1.out p2.out qd1 qd2 qi1 qi2 (by omega)
theorem l2Own_any (w : World) (lo hi : Nat) (m : M.Mz) (a b : Option Addr) (c d : Nat) (h : MzIn lo hi w m a c b d) (hz : hi ≤ w.heap.size) (h1 : m.doors.length ≤ 1048576) (h2 : m.keys.length ≤ 1048576) :
    Calls Try.prog 86 #[.agg #[.int .i64 m.size, .slice a m.doors.length c, .slice b m.keys.length d]] w (MzPost w m) := by
  rcases a with _ | ad
  · exact l2Own_none w lo hi m b c d h hz h1 h2
  · exact l2Own_some w lo hi m ad b c d h hz h1 h2
end C
end Go.Proofs.Ytcoaggnilgfjfaa
namespace Go.Proofs.Ytcoaggnilgfjfaa
open Go.RowKit
namespace C
theorem encIs_set (l : List Int) (k : Nat) (v : Int) : M.encIs (l.set k v) = (M.encIs l).set k (.int .i64 v) := by unfold M.encIs; rw [List.map_set]
theorem mzNo_end {w w3 : World} {u0 u1 u2 : Value} (hB : Below w.heap.size w w3) :
    MzOkPost w mz0 false (.returned (.tuple #[.agg #[.int .i64 0, .slice none 0 0, .slice none 0 0], .bool false])) (((w3.setCell ⟨w.heap.size + 1, 0, none⟩ u0).setCell ⟨w.heap.size + 1, 1, none⟩ u1).setCell ⟨w.heap.size + 1, 2, none⟩ u2) :=
  ⟨_, _, _, _, rfl, MzOwn.zero _ _ _, ((hB.setCell (p := ⟨w.heap.size + 1, 0, none⟩) (Nat.le_succ _) _).setCell (p := ⟨w.heap.size + 1, 1, none⟩) (Nat.le_succ _) _).setCell (p := ⟨w.heap.size + 1, 2, none⟩) (Nat.le_succ _) _⟩
theorem mzYes_end {w w3 : World} {lo hi nd nk : Nat} {m : M.Mz} {a b : Option Addr} {c d : Nat} {u0 u1 u2 : Value} (hB : Below w.heap.size w w3) (ho : MzOwn lo hi w3 m a c b d) (h1 : w.heap.size + 1 < lo) (h2 : hi ≤ w3.heap.size) (hnd : m.doors.length = nd) (hnk : m.keys.length = nk) :
    MzOkPost w m true (.returned (.tuple #[.agg #[.int .i64 m.size, .slice a nd c, .slice b nk d], .bool true])) (((w3.setCell ⟨w.heap.size + 1, 0, none⟩ u0).setCell ⟨w.heap.size + 1, 1, none⟩ u1).setCell ⟨w.heap.size + 1, 2, none⟩ u2) := by
  have hT : Turned (w.heap.size + 1) (w.heap.size + 1 + 1) w3 (((w3.setCell ⟨w.heap.size + 1, 0, none⟩ u0).setCell ⟨w.heap.size + 1, 1, none⟩ u1).setCell ⟨w.heap.size + 1, 2, none⟩ u2) :=
    ((Turned.setCell _ _ _ _ (by omega) (by omega)).trans (Turned.setCell _ _ _ _ (by omega) (by omega))).trans (Turned.setCell _ _ _ _ (by omega) (by omega))
  have hs := hT.size
  have hz := hB.size
  subst hnd; subst hnk
  exact ⟨_, _, _, _, rfl, (ho.turned hT h2 (.inr (by omega))).mono (by omega) (by omega), Below.thenTurned hB hT (by omega) (by omega)⟩
theorem Box3.setAll {X : World} {n : Nat} {T : TypeId} {x y z : Value} (h : Box3 X n T x y z) (u0 u1 u2 : Value) : Box3 (((X.setCell ⟨n, 0, none⟩ u0).setCell ⟨n, 1, none⟩ u1).setCell ⟨n, 2, none⟩ u2) n T u0 u1 u2 := by
  unfold Box3 at h ⊢
  simp [World.setCell, Array.getElem?_modify, h]
theorem MzOkPost.more {w w' w'' : World} {m : M.Mz} {ok : Bool} {e : Ending} (h : MzOkPost w m ok e w') (hb : Below w'.heap.size w' w'') : MzOkPost w m ok e w'' := by
  obtain ⟨a, c, b, d, he, ho, hB⟩ := h
  exact ⟨a, c, b, d, he, (ho.below hb (Nat.le_refl _)).mono (Nat.le_refl _) hb.size, hB.trans (hb.mono hB.size)⟩
/-- one set of keys written -/
theorem MzOwn.setKey {lo hi : Nat} {w : World} {m : M.Mz} {a b : Option Addr} {c d g off : Nat} (h : MzOwn lo hi w m a c b d) (hb : b = some ⟨g, off, none⟩) (k : Nat) (hk : k < m.keys.length) (v : Int) :
    MzOwn lo hi (w.setCell ⟨g, off + k, none⟩ (.int .i64 v)) ⟨m.size, m.doors, m.keys.set k v⟩ a c b d :=
  ⟨h.doors.far h.keys (by decide) hb (k := k) (by rw [M.encIs_len]; exact hk) _ _, by show OwnAt _ _ _ _ _ (M.encIs (m.keys.set k v)); rw [encIs_set]; exact h.keys.set_ hb k _, h.c1, h.c2, by show (m.keys.set k v).length ≤ d; rw [List.length_set]; exact h.d1, h.d2⟩
end C
end Go.Proofs.Ytcoaggnilgfjfaa
namespace Go.Proofs.Ytcoaggnilgfjfaa
open Go.RowKit
namespace C
theorem Turned.set3 {w : World} (r : Nat) (u0 u1 u2 : Value) : Turned r (r + 1) w (((w.setCell ⟨r, 0, none⟩ u0).setCell ⟨r, 1, none⟩ u1).setCell ⟨r, 2, none⟩ u2) :=
  ((Turned.setCell _ _ _ _ (Nat.le_refl _) (Nat.lt_succ_self _)).trans (Turned.setCell _ _ _ _ (Nat.le_refl _) (Nat.lt_succ_self _))).trans (Turned.setCell _ _ _ _ (Nat.le_refl _) (Nat.lt_succ_self _))
theorem mz_endAt {w w3 : World} {r lo hi nd nk : Nat} {m : M.Mz} {a b : Option Addr} {c d : Nat} {u0 u1 u2 : Value} (hB : Below w.heap.size w w3) (ho : MzOwn lo hi w3 m a c b d) (hr : r < lo ∨ hi ≤ r) (h0 : w.heap.size ≤ r) (h1 : w.heap.size ≤ lo) (h2 : hi ≤ w3.heap.size) (hnd : m.doors.length = nd) (hnk : m.keys.length = nk) :
    MzPost w m (.returned (.agg #[.int .i64 m.size, .slice a nd c, .slice b nk d])) (((w3.setCell ⟨r, 0, none⟩ u0).setCell ⟨r, 1, none⟩ u1).setCell ⟨r, 2, none⟩ u2) := by
  have hT := Turned.set3 (w := w3) r u0 u1 u2
  have hs := hT.size
  have hz := hB.size
  subst hnd; subst hnk
  exact ⟨_, _, _, _, rfl, (ho.turned hT h2 (by omega)).mono h1 (by omega), Below.thenTurned hB hT h0 hz⟩
theorem mzNo_endAt {w w3 : World} {r : Nat} {u0 u1 u2 : Value} (hB : Below w.heap.size w w3) (h0 : w.heap.size ≤ r) :
    MzOkPost w mz0 false (.returned (.tuple #[.agg #[.int .i64 0, .slice none 0 0, .slice none 0 0], .bool false])) (((w3.setCell ⟨r, 0, none⟩ u0).setCell ⟨r, 1, none⟩ u1).setCell ⟨r, 2, none⟩ u2) :=
  ⟨_, _, _, _, rfl, MzOwn.zero _ _ _, Below.thenTurned hB (Turned.set3 (w := w3) r u0 u1 u2) h0 hB.size⟩
theorem mzYes_endAt {w w3 : World} {r lo hi nd nk : Nat} {ok : Bool} {m : M.Mz} {a b : Option Addr} {c d : Nat} {u0 u1 u2 : Value} (hB : Below w.heap.size w w3) (ho : MzOwn lo hi w3 m a c b d) (hr : r < lo ∨ hi ≤ r) (h0 : w.heap.size ≤ r) (h1 : w.heap.size ≤ lo) (h2 : hi ≤ w3.heap.size) (hnd : m.doors.length = nd) (hnk : m.keys.length = nk) :
    MzOkPost w m ok (.returned (.tuple #[.agg #[.int .i64 m.size, .slice a nd c, .slice b nk d], .bool ok])) (((w3.setCell ⟨r, 0, none⟩ u0).setCell ⟨r, 1, none⟩ u1).setCell ⟨r, 2, none⟩ u2) := by
  obtain ⟨a', c', b', d', he, hq, hb⟩ := mz_endAt (u0 := u0) (u1 := u1) (u2 := u2) hB ho hr h0 h1 h2 hnd hnk
  injection he with he
  refine ⟨a', c', b', d', by rw [he], hq, hb⟩
end C
end Go.Proofs.Ytcoaggnilgfjfaa
namespace Go.Proofs.Ytcoaggnilgfjfaa
open Go.RowKit
namespace C
def OwnQ (B : Nat) (w : World) (T : TypeId) (size : Nat) (v : Value) (n : Nat) (xs : List Value) : Prop :=
  xs.length = n * size ∧ ((v = .slice none 0 0 ∧ n = 0) ∨ ∃ g off cap cur, v = .slice (some ⟨g, off, none⟩) n cap ∧ B ≤ g ∧ w.heap[g]? = some (.cells cur T (0, 0)) ∧ n ≤ cap ∧ cap ≤ maxLen ∧ off + cap * size ≤ cur.size ∧ ∀ j u, xs[j]? = some u → cur[off + j]? = some u)
section
variable {B size n : Nat} {w w' : World} {T : TypeId} {v : Value} {xs : List Value}
theorem OwnQ.of_own (h : w.ownsRow B T size v n xs) : OwnQ B w T size v n xs := by
  refine ⟨h.1, ?_⟩
  rcases h.2 with h' | ⟨g, cap, cur, hv, hb, hh, hn, hm, hs, ht⟩
  · exact .inl h'
  · refine .inr ⟨g, 0, cap, cur, hv, hb, hh, hn, hm, by omega, fun j u hu => ?_⟩
    rw [← ht, List.getElem?_take] at hu
    split at hu
    · simpa using hu
    · cases hu
theorem OwnQ.mono {B' : Nat} (h : OwnQ B w T size v n xs) (hB : B' ≤ B) : OwnQ B' w T size v n xs := by
  refine ⟨h.1, ?_⟩
  rcases h.2 with h' | ⟨g, off, cap, cur, hv, hb, r⟩
  · exact .inl h'
  · exact .inr ⟨g, off, cap, cur, hv, by omega, r⟩
theorem OwnQ.shape (h : OwnQ B w T size v n xs) : ∃ a c, v = .slice a n c ∧ n ≤ c ∧ c ≤ maxLen := by
  rcases h.2 with ⟨rfl, rfl⟩ | ⟨g, off, cap, cur, rfl, _, _, hn, hm, _⟩
  · exact ⟨none, 0, rfl, Nat.le_refl _, Nat.zero_le _⟩
  · exact ⟨_, _, rfl, hn, hm⟩
theorem OwnQ.base (h : OwnQ B w T size v n xs) : ∀ k, v.ownBlock = some k → B ≤ k ∧ k < w.heap.size := by
  rcases h.2 with ⟨rfl, rfl⟩ | ⟨g, off, cap, cur, rfl, hb, hh, _⟩
  · intro k hk; cases hk
  · intro k hk
    have : g = k := by simpa [Value.ownBlock] using hk
    subst this
    exact ⟨hb, heap_lt hh⟩
/-- where no other type's cells lie -/
theorem OwnQ.ne {b : Nat} (h : OwnQ B w T size v n xs) (hb : ∀ cur f, w.heap[b]? ≠ some (.cells cur T f)) : v.ownBlock ≠ some b := by
  rcases h.2 with ⟨rfl, rfl⟩ | ⟨g, off, cap, cur, rfl, _, hh, _⟩
  · intro e; cases e
  · intro e
    have : g = b := by simpa [Value.ownBlock] using e
    subst this
    exact hb _ _ hh
theorem OwnQ.row (h : OwnQ B w T size v n xs) {a : Option Addr} {c : Nat} (hv : v = .slice a n c) : RowIn B w.heap.size w a xs := by
  subst hv
  rcases h.2 with ⟨_, rfl⟩ | ⟨g, off, cap, cur, e, hb, hh, _, _, _, hc⟩
  · exact .inl (List.eq_nil_of_length_eq_zero (by simpa using h.1))
  · injection e with e _ _
    exact .inr ⟨g, off, e, hb, heap_lt hh, fun i u hu => (cell_of_row w g (off + i) cur T (0, 0) hh).trans (hc i u hu)⟩
theorem OwnQ.turned {lo hi : Nat} (h : OwnQ B w T size v n xs) (t : Turned lo hi w w') (hd : ∀ k, v.ownBlock = some k → k < lo ∨ hi ≤ k) : OwnQ B w' T size v n xs := by
  refine ⟨h.1, ?_⟩
  rcases h.2 with h' | ⟨g, off, cap, cur, rfl, hb, hh, r⟩
  · exact .inl h'
  · exact .inr ⟨g, off, cap, cur, rfl, hb, (t.block g (heap_lt hh) (hd g rfl)).trans hh, r⟩
theorem OwnQ.below (h : OwnQ B w T size v n xs) (t : Below w.heap.size w w') : OwnQ B w' T size v n xs := h.turned (Turned.of_below t 0 0) fun _ _ => .inr (Nat.zero_le _)
/-- x[1:] -/
theorem OwnQ.tail {g off cap : Nat} {ys : List Value} (h : OwnQ B w T size (.slice (some ⟨g, off, none⟩) (n + 1) (cap + 1)) (n + 1) (xs ++ ys)) (hx : xs.length = size) :
    OwnQ B w T size (.slice (some ⟨g, if cap = 0 then off else off + size, none⟩) n cap) n ys := by
  obtain ⟨h1, h2⟩ := h
  rw [List.length_append, hx, Nat.succ_mul] at h1
  refine ⟨by omega, ?_⟩
  rcases h2 with ⟨e, _⟩ | ⟨g', off', cap', cur, e, hb, hh, hn, hm, hs, hc⟩
  · cases e
  · injection e with e1 _ e3
    injection e1 with e1
    injection e1 with e4 e5 _
    subst e4; subst e5; subst e3
    rw [Nat.succ_mul] at hs
    by_cases h0 : cap = 0
    · subst h0
      rw [if_pos rfl]
      refine .inr ⟨g, off, 0, cur, rfl, hb, hh, by omega, by omega, by omega, fun j u hu => ?_⟩
      have hy : ys = [] := List.eq_nil_of_length_eq_zero (by have : n = 0 := by omega
                                                             subst this; omega)
      rw [hy] at hu
      cases hu
    · rw [if_neg h0]
      refine .inr ⟨g, off + size, cap, cur, rfl, hb, hh, by omega, by omega, by omega, fun j u hu => ?_⟩
      have := hc (size + j) u (by rw [List.getElem?_append_right (by omega), hx, Nat.add_sub_cancel_left]; exact hu)
      rw [Nat.add_assoc]
      exact this
theorem heap_setCells (g : Nat) : ∀ (vs : List Value) (o : Nat) (w : World) (cur : Array Value), w.heap[g]? = some (.cells cur T (0, 0)) →
    ∃ cur', (w.setCells g o vs).heap[g]? = some (.cells cur' T (0, 0)) ∧ cur'.size = cur.size ∧ (∀ j, j < o ∨ o + vs.length ≤ j → cur'[j]? = cur[j]?) ∧ (∀ j u, vs[j]? = some u → o + j < cur.size → cur'[o + j]? = some u) ∧ w.grownBy (w.setCells g o vs) (some g)
  | [], o, w, cur, h => ⟨cur, h, rfl, fun _ _ => rfl, fun j u hu _ => (by cases hu), ⟨rfl, rfl, rfl, Nat.le_refl _, fun _ _ _ => rfl⟩⟩
  | v :: vs, o, w, cur, h => by
    have h1 : (w.setCell ⟨g, o, none⟩ v).heap[g]? = some (.cells (cur.setIfInBounds o v) T (0, 0)) := by simp [World.setCell, Array.getElem?_modify, h]
    obtain ⟨cur', e1, e2, e3, e4, e5⟩ := heap_setCells g vs (o + 1) (w.setCell ⟨g, o, none⟩ v) _ h1
    refine ⟨cur', e1, by rw [e2, Array.size_setIfInBounds], fun j hj => ?_, fun j u hu hlt => ?_, ?_⟩
    · rw [List.length_cons] at hj
      rw [e3 j (by omega), Array.getElem?_setIfInBounds_ne (by omega)]
    · cases j with
      | zero =>
        rw [List.getElem?_cons_zero] at hu
        injection hu with hu
        rw [Nat.add_zero] at hlt ⊢
        rw [e3 o (by omega), Array.getElem?_setIfInBounds_self_of_lt hlt, hu]
      | succ j =>
        rw [List.getElem?_cons_succ] at hu
        have := e4 j u hu (by rw [Array.size_setIfInBounds]; omega)
        rw [show o + (j + 1) = o + 1 + j by omega]
        exact this
    · have hsz : (w.setCell ⟨g, o, none⟩ v).heap.size = w.heap.size := by simp [World.setCell]
      exact ⟨e5.os, e5.tape, e5.output, hsz ▸ e5.size, fun k hk hne => (e5.block k (by rw [hsz]; exact hk) hne).trans (Below.heap_setCell w ⟨g, o, none⟩ v k fun e => hne (by rw [e]))⟩
theorem run_append_q {P : Program} (t ty : TypeId) (i : TypeInfo) (z : Value) (bytes : Nat) (ht : P.underlying t = some (.slice T)) (hi : P.info? T = some i) (hz : i.zero = some z) (hsize : i.size = size) (hby : i.bytes = bytes) (hzs : z.cells.size = size)
    (h : OwnQ B w T size v n xs) (hB : B ≤ w.heap.size) (ad : Addr) (c : Nat) (news : List Value) (hl : news.length = size) (hnews : ∀ j u, news[j]? = some u → w.cell? (ad.add j) = some u) (h1 : ∀ u ∈ news, u.oneCell' = true) (hn : n + 1 ≤ maxLen) (hbytes : (n + 1) * bytes ≤ 140737488355328) :
    ∃ v' w', (Builtin.append_ #[t, t] ty #[v, .slice (some ad) 1 c]).run P w = .ok v' w' ∧ OwnQ B w' T size v' (n + 1) (xs ++ news) ∧ w.grownBy w' v.ownBlock ∧ (v'.ownBlock = v.ownBlock ∨ v'.ownBlock = some w.heap.size) := by
  subst hsize
  subst hby
  have hs : Src P i.size t (.slice (some ad) 1 c) 1 news w := Src.ofSlice w ht ad 1 c news (by omega) hnews h1
  have hlen : (xs ++ news).length = (n + 1) * i.size := by rw [List.length_append, h.1, hl, Nat.succ_mul]
  have hsmall : ((n + 1 : Nat) : Int) ≤ 9223372036854775807 := by simp only [maxLen] at hn; omega
  have grown : ∀ (old : Nat) (row : Option Nat), old < n + 1 →
      OwnQ B (w.drew.alloc (.cells ((xs ++ news).toArray ++ Builtin.zeroCells z.cells (grownCap w (n + 1) old T - (n + 1))) T)) T i.size (.slice (some ⟨w.heap.size, 0, none⟩) (n + 1) (grownCap w (n + 1) old T)) (n + 1) (xs ++ news) ∧
      w.grownBy (w.drew.alloc (.cells ((xs ++ news).toArray ++ Builtin.zeroCells z.cells (grownCap w (n + 1) old T - (n + 1))) T)) row := by
    intro old row ho
    have hge := grownCap_ge w (n + 1) old T
    refine ⟨⟨hlen, .inr ⟨w.heap.size, 0, _, _, rfl, hB, heap_alloc_new w.drew _, hge, grownCap_le_maxLen w (n + 1) old T hn, ?_, fun j u hu => ?_⟩⟩, ⟨rfl, rfl, rfl, by simp, fun k hk _ => Below.heap_alloc w.drew _ k hk⟩⟩
    · rw [Array.size_append, size_zeroCells, List.size_toArray, hlen, hzs, ← Nat.add_mul, Nat.zero_add]
      exact Nat.mul_le_mul_right _ (by omega)
    · rw [Nat.zero_add, Array.getElem?_append_left (by rw [List.size_toArray]; exact (List.getElem?_eq_some_iff.1 hu).1)]
      simpa using hu
  rcases h.2 with ⟨rfl, rfl⟩ | ⟨g, off, cap, cur, rfl, hb, hh, hnc, hcm, hcs, hc⟩
  · have hx : xs = [] := List.eq_nil_of_length_eq_zero (by simpa using h.1)
    subst hx
    have hr := run_append_grow_src (P := P) w t t ty T i z ht hi hz none 0 0 [] (by simpa using run_firstCells_none (P := P) w.drew i.size 0 0 0) (.slice (some ad) 1 c) 1 news hs (by omega) hsmall (growslice_fits (by omega) hbytes)
    obtain ⟨g1, g2⟩ := grown 0 (Value.ownBlock (.slice none 0 0)) (by omega)
    exact ⟨_, _, hr, g1, g2, .inr rfl⟩
  · by_cases hroom : n + 1 ≤ cap
    · have hfit : off + n * i.size + news.length ≤ cur.size := by
        have := Nat.mul_le_mul_right i.size hroom
        rw [Nat.succ_mul] at this
        omega
      have hr := run_append_room_src (P := P) w t t ty T i ht hi g off n cap (.slice (some ad) 1 c) 1 news hs hroom
        (fun j hj => by rw [cell_of_row w g _ cur T (0, 0) hh, Array.getElem?_eq_getElem (by omega)]; rfl) (fun j hj => by simp [World.frozen?, hh])
      obtain ⟨cur', e1, e2, e3, e4, e5⟩ := heap_setCells g news (off + n * i.size) w cur hh
      refine ⟨_, _, hr, ⟨hlen, .inr ⟨g, off, cap, cur', rfl, hb, e1, hroom, hcm, by omega, fun j u hu => ?_⟩⟩, e5, .inl rfl⟩
      rcases Nat.lt_or_ge j xs.length with hj | hj
      · rw [List.getElem?_append_left hj] at hu
        rw [e3 _ (by have := h.1; omega)]
        exact hc j u hu
      · rw [List.getElem?_append_right hj] at hu
        have h0 := h.1
        have := e4 (j - xs.length) u hu (by have := (List.getElem?_eq_some_iff.1 hu).1; omega)
        rw [show off + j = off + n * i.size + (j - xs.length) by omega]
        exact this
    · have hr := run_append_grow_src (P := P) w t t ty T i z ht hi hz (some ⟨g, off, none⟩) n cap xs
        (by
          refine run_firstCells_some (P := P) w.drew i.size n ⟨g, off, none⟩ n cap xs h.1 fun j u hu => ?_
          have hadd : (⟨g, off, none⟩ : Addr).add j = ⟨g, off + j, none⟩ := Addr.add_lit ..
          rw [hadd]
          exact (cell_of_row w g (off + j) cur T (0, 0) hh).trans (hc j u hu)) (.slice (some ad) 1 c) 1 news hs (by omega) hsmall (growslice_fits (by omega) hbytes)
      obtain ⟨g1, g2⟩ := grown cap (Value.ownBlock (.slice (some ⟨g, off, none⟩) n cap)) (by omega)
      exact ⟨_, _, hr, g1, g2, .inr rfl⟩
end
theorem wpList_append_q {P : Program} {w : World} {ops : Array Oper} {rest : List Oper} {o : Oper} {a : Act} {Q : Exit → Act → World → Prop} (hgd : o.guard = none) (s x : Operand) (t : TypeId)
    (ho : o.op = .call { callee := .builtin .append, args := #[s, x], argTypes := #[t, t] }) (B : Nat) (T : TypeId) (i : TypeInfo) (z : Value) (size bytes : Nat) (ht : P.underlying t = some (.slice T)) (hi : P.info? T = some i) (hz : i.zero = some z) (hsize : i.size = size) (hby : i.bytes = bytes) (hzs : z.cells.size = size)
    (v : Value) (n : Nat) (xs : List Value) (hs : a.eval s = v) (h : OwnQ B w T size v n xs) (ad : Addr) (c : Nat) (news : List Value) (hx : a.eval x = .slice (some ad) 1 c) (hl : news.length = size) (hnews : ∀ j u, news[j]? = some u → w.cell? (ad.add j) = some u) (h1 : ∀ u ∈ news, u.oneCell' = true)
    (hn : n + 1 ≤ maxLen) (hbytes : (n + 1) * bytes ≤ 140737488355328) (hB : B ≤ w.heap.size) (hK : ∀ v' w', OwnQ B w' T size v' (n + 1) (xs ++ news) → w.grownBy w' v.ownBlock → (v'.ownBlock = v.ownBlock ∨ v'.ownBlock = some w.heap.size) → wpList P ops Q rest (a.put o.dst v') w') : wpList P ops Q (o :: rest) a w := by
  refine wpList_plain hgd fun K' hK' => ?_
  obtain ⟨v', w', hr, h2, h3, h4⟩ := run_append_q (P := P) t o.type i z bytes ht hi hz hsize hby hzs h hB ad c news hl hnews h1 hn hbytes
  unfold Oper.wp execOp
  simp only [ho, resolve, invoke, builtin, Sem.run_bind, Sem.run_pure, Result.andThen_ok, List.map_toArray, List.map_cons, List.map_nil, hs, hx, hr]
  exact hK' _ _ (hK v' w' h2 h3 h4)
theorem RowIn.grown {w w' : World} {lo hi : Nat} {a : Option Addr} {xs : List Value} {row : Option Nat} (h : RowIn lo hi w a xs) (hg : w.grownBy w' row) (hz : hi ≤ w.heap.size) (hd : ∀ z, row = some z → z < lo ∨ hi ≤ z) : RowIn lo hi w' a xs := by
  rcases h with h | ⟨b, off, ha, h1, h2, hc⟩
  · exact .inl h
  · refine .inr ⟨b, off, ha, h1, h2, fun i u hu => (World.cell?_of_block (w := w) (hg.block b (by omega) fun e => ?_)).trans (hc i u hu)⟩
    have := hd b e.symm
    omega
theorem OwnQ.own {B size n : Nat} {w : World} {T : TypeId} {v : Value} {xs : List Value} (h : OwnQ B w T size v n xs) {a : Option Addr} {c : Nat} (hv : v = .slice a n c) : OwnAt B w.heap.size w T a xs := by
  subst hv
  rcases h.2 with ⟨_, rfl⟩ | ⟨g, off, cap, cur, e, hb, hh, _, _, _, hc⟩
  · exact .inl (List.eq_nil_of_length_eq_zero (by simpa using h.1))
  · injection e with e _ _
    exact .inr ⟨g, off, cur, e, hb, heap_lt hh, hh, hc⟩
theorem OwnAt.grownRow {lo hi : Nat} {w w' : World} {T : TypeId} {a : Option Addr} {xs : List Value} {row : Option Nat} (h : OwnAt lo hi w T a xs) (hg : w.grownBy w' row) (_hz : hi ≤ w.heap.size) (hd : ∀ z, row = some z → z < lo ∨ hi ≤ z) : OwnAt lo hi w' T a xs := by
  rcases h with h | ⟨b, off, cur, ha, h1, h2, hh, hc⟩
  · exact .inl h
  · refine .inr ⟨b, off, cur, ha, h1, h2, (hg.block b (heap_lt hh) fun e => ?_).trans hh, hc⟩
    have := hd b e.symm
    omega
end C
end Go.Proofs.Ytcoaggnilgfjfaa
