/-
  CONTRACT of spec.l2Before: it tells whether a door comes before another one; blocks of its own are all that it lays. No condition.
  CONTRACTS of copies of a slice: spec.l1Own, slices.Clone at numbers and at doors; a new slice that reads alike; what lay in memory stays. Condition: at most 1048576 elements.
  CONTRACTS of slices.Clone at numbers and at doors: a new slice that reads alike, nil for nil; what lay in memory stays. Condition: at most 1048576 elements.
  CONTRACTS of a maze's copies: impl.Maze.clone, spec.l2Own: what reads alike in memory of the call's own; what lay in memory stays. Condition: at most 1048576 doors and keys.
  WORDS for spec.l2Own: what an append leaves unturned. No condition.
  CONTRACT of spec.l2Own, a maze's copy, with no doors. Condition: at most 1048576 doors and keys.
  CONTRACT of spec.l2Own, a maze's copy, in full. Condition: at most 1048576 doors and keys.
  WORDS for a maze handed back from the result's own box: the maze, or the empty one and false. No condition.
  CONTRACT of slices.IndexFunc at ints: the first place at which a predicate holds, or -1; what lay in memory stays. Condition: at most 1048576 of them; the predicate answers p and leaves memory as it is.
  WORDS for a maze that is handed back out of a box at any place of the call's own, own to these proofs. No condition.
  CONTRACTS of slices.Clone at numbers and doors and of impl.Maze.clone: rows that the call owns and that may grow; what lay in memory stays. Condition: at most 1048576 elements.
-/
import Derived.Test.YtddpjjdncmokmaaNode
import Derived.Sort.Grow
import Derived.Test.YtddpjjdncmokmaaWAMem
import Derived.Test.YtddpjjdncmokmaaMaz
import Derived.Laws.AppendOwnNone
import Derived.Deep.RegionHeld3
import Derived.Deep.RegionLaw
namespace Go.Proofs.Ytddpjjdncmokmaa
open Go.RowKit
namespace C
set_option maxHeartbeats 800000
set_option maxRecDepth 20000
theorem before_any (d e : M.Dr) (w : World) :
    Calls Try.prog 123 #[.agg #[.int .i64 d.1, .int .i64 d.2.1, .int .i64 d.2.2], .agg #[.int .i64 e.1, .int .i64 e.2.1, .int .i64 e.2.2]] w fun en w' => en = .returned (.bool (M.ltD d e)) ∧ ∃ q os, w' = Sort.grow (w.drewN q) os := by
  obtain ⟨x1, y1, z1⟩ := d
  obtain ⟨x2, y2, z2⟩ := e
  rcases Int.lt_trichotomy x1 x2 with h | rfl | h
  · have hc : Hid (M.ltD (x1, y1, z1) (x2, y2, z2) = true) := Lib.hid (by unfold M.ltD; simp [h])
    have hn1 : ((x1 : Int) == x2) = false := by simp; omega
    have hn2 : ((x1 : Int) != x2) = true := by simp; omega
    go_enter Try.func123, Try.ntmps123
    go_wp2_with fail
    refine wp_loop_rounds 4 ?_
    rw [rounds_succ]
    go_wp2_with fail
    go_quiet (fail)
    go_wp2_with fail
    go_quiet (fail)
    go_wp2_with fail
    go_ret
    exact ⟨by rw [hc.out]; first | rfl | exact congrArg (fun b => Ending.returned (.bool b)) (decide_eq_false (by omega)), _, _, by rw [Sort.alloc_eq_grow, Sort.alloc_eq_grow, Sort.grow_grow]; (try simp only [World.drewN_drewN]); rfl⟩
  · rcases Int.lt_trichotomy y1 y2 with h | rfl | h
    · have hc : Hid (M.ltD (x1, y1, z1) (x1, y2, z2) = true) := Lib.hid (by unfold M.ltD; simp [h])
      have hn1 : ((y1 : Int) == y2) = false := by simp; omega
      have hn2 : ((y1 : Int) != y2) = true := by simp; omega
      go_enter Try.func123, Try.ntmps123
      go_wp2_with fail
      refine wp_loop_rounds 4 ?_
      rw [rounds_succ]
      go_wp2_with fail
      go_quiet (fail)
      go_wp2_with fail
      rw [rounds_succ]
      go_wp2_with fail
      go_quiet (fail)
      go_wp2_with fail
      go_quiet (fail)
      go_wp2_with fail
      go_ret
      exact ⟨by rw [hc.out]; first | rfl | exact congrArg (fun b => Ending.returned (.bool b)) (decide_eq_false (by omega)), _, _, by rw [Sort.alloc_eq_grow, Sort.alloc_eq_grow, Sort.grow_grow]; (try simp only [World.drewN_drewN]); rfl⟩
    · rcases Int.lt_trichotomy z1 z2 with h | rfl | h
      · have hc : Hid (M.ltD (x1, y1, z1) (x1, y1, z2) = true) := Lib.hid (by unfold M.ltD; simp [h])
        have hn1 : ((z1 : Int) == z2) = false := by simp; omega
        have hn2 : ((z1 : Int) != z2) = true := by simp; omega
        go_enter Try.func123, Try.ntmps123
        go_wp2_with fail
        refine wp_loop_rounds 4 ?_
        rw [rounds_succ]
        go_wp2_with fail
        go_quiet (fail)
        go_wp2_with fail
        rw [rounds_succ]
        go_wp2_with fail
        go_quiet (fail)
        go_wp2_with fail
        rw [rounds_succ]
        go_wp2_with fail
        go_quiet (fail)
        go_wp2_with fail
        go_quiet (fail)
        go_wp2_with fail
        go_ret
        exact ⟨by rw [hc.out]; first | rfl | exact congrArg (fun b => Ending.returned (.bool b)) (decide_eq_false (by omega)), _, _, by rw [Sort.alloc_eq_grow, Sort.alloc_eq_grow, Sort.grow_grow]; (try simp only [World.drewN_drewN]); rfl⟩
      · have hc : Hid (M.ltD (x1, y1, z1) (x1, y1, z1) = false) := Lib.hid (M.ltD_irrefl _)
        go_enter Try.func123, Try.ntmps123
        go_wp2_with fail
        refine wp_loop_rounds 4 ?_
        rw [rounds_succ]
        go_wp2_with fail
        go_quiet (fail)
        go_wp2_with fail
        rw [rounds_succ]
        go_wp2_with fail
        go_quiet (fail)
        go_wp2_with fail
        rw [rounds_succ]
        go_wp2_with fail
        go_quiet (fail)
        go_wp2_with fail
        rw [rounds_succ]
        go_wp2_with fail
        go_ret
        exact ⟨by rw [hc.out]; first | rfl | exact congrArg (fun b => Ending.returned (.bool b)) (decide_eq_false (by omega)), _, _, by rw [Sort.alloc_eq_grow, Sort.alloc_eq_grow, Sort.grow_grow]; (try simp only [World.drewN_drewN]); rfl⟩
      · have hc : Hid (M.ltD (x1, y1, z1) (x1, y1, z2) = false) := Lib.hid (by unfold M.ltD; simp; omega)
        have hn1 : ((z1 : Int) == z2) = false := by simp; omega
        have hn2 : ((z1 : Int) != z2) = true := by simp; omega
        have hn3 : ¬ (z1 : Int) < z2 := by omega
        go_enter Try.func123, Try.ntmps123
        go_wp2_with fail
        refine wp_loop_rounds 4 ?_
        rw [rounds_succ]
        go_wp2_with fail
        go_quiet (fail)
        go_wp2_with fail
        rw [rounds_succ]
        go_wp2_with fail
        go_quiet (fail)
        go_wp2_with fail
        rw [rounds_succ]
        go_wp2_with fail
        go_quiet (fail)
        go_wp2_with fail
        go_quiet (fail)
        go_wp2_with fail
        go_ret
        exact ⟨by rw [hc.out]; first | rfl | exact congrArg (fun b => Ending.returned (.bool b)) (decide_eq_false (by omega)), _, _, by rw [Sort.alloc_eq_grow, Sort.alloc_eq_grow, Sort.grow_grow]; (try simp only [World.drewN_drewN]); rfl⟩
    · have hc : Hid (M.ltD (x1, y1, z1) (x1, y2, z2) = false) := Lib.hid (by unfold M.ltD; simp; omega)
      have hn1 : ((y1 : Int) == y2) = false := by simp; omega
      have hn2 : ((y1 : Int) != y2) = true := by simp; omega
      have hn3 : ¬ (y1 : Int) < y2 := by omega
      go_enter Try.func123, Try.ntmps123
      go_wp2_with fail
      refine wp_loop_rounds 4 ?_
      rw [rounds_succ]
      go_wp2_with fail
      go_quiet (fail)
      go_wp2_with fail
      rw [rounds_succ]
      go_wp2_with fail
      go_quiet (fail)
      go_wp2_with fail
      go_quiet (fail)
      go_wp2_with fail
      go_ret
      exact ⟨by rw [hc.out]; first | rfl | exact congrArg (fun b => Ending.returned (.bool b)) (decide_eq_false (by omega)), _, _, by rw [Sort.alloc_eq_grow, Sort.alloc_eq_grow, Sort.grow_grow]; (try simp only [World.drewN_drewN]); rfl⟩
  · have hc : Hid (M.ltD (x1, y1, z1) (x2, y2, z2) = false) := Lib.hid (by unfold M.ltD; simp; omega)
    have hn1 : ((x1 : Int) == x2) = false := by simp; omega
    have hn2 : ((x1 : Int) != x2) = true := by simp; omega
    have hn3 : ¬ (x1 : Int) < x2 := by omega
    go_enter Try.func123, Try.ntmps123
    go_wp2_with fail
    refine wp_loop_rounds 4 ?_
    rw [rounds_succ]
    go_wp2_with fail
    go_quiet (fail)
    go_wp2_with fail
    go_quiet (fail)
    go_wp2_with fail
    go_ret
    exact ⟨by rw [hc.out]; first | rfl | exact congrArg (fun b => Ending.returned (.bool b)) (decide_eq_false (by omega)), _, _, by rw [Sort.alloc_eq_grow, Sort.alloc_eq_grow, Sort.grow_grow]; (try simp only [World.drewN_drewN]); rfl⟩
end C
end Go.Proofs.Ytddpjjdncmokmaa
namespace Go.Proofs.Ytddpjjdncmokmaa
open Go.RowKit
namespace C
set_option maxHeartbeats 800000
set_option maxRecDepth 20000
theorem run_app_nil {P : Program} (w : World) (base : Nat) (t ty e : TypeId) (i : TypeInfo) (size : Nat) (ht : P.underlying t = some (.slice e)) (hi : P.info? e = some i) (v : Value) (n : Nat) (xs : List Value) (hown : w.ownsRow base e size v n xs) (c : Nat) :
    (Builtin.append_ #[t, t] ty #[v, .slice none 0 c]).run P w = .ok v w := by
  rcases hown.2 with ⟨hv, hn⟩ | ⟨g, cap, cur, hv, _, _, hnc, _⟩
  · subst hv; subst hn
    simp [Builtin.append_, run_underlying ht, sizeOf, typeInfo, hi, Builtin.lenOf, Builtin.firstCells]
  · subst hv
    simp [Builtin.append_, run_underlying ht, sizeOf, typeInfo, hi, Builtin.lenOf, Builtin.firstCells, hnc, storeCells]
/-- a slice that reads so, appended to an empty one of the call's own: the source at an address, or none -/
theorem l1Own_any (w : World) (lo hi : Nat) (a : Option Addr) (c : Nat) (l : List Int) (h : RowIn lo hi w a (M.encIs l)) (hz : hi ≤ w.heap.size) (hl : l.length ≤ 1048576) :
    Calls Try.prog 121 #[.slice a l.length c] w (IntsPost w l) := by
  obtain ⟨i0, hi0, hz0, hz1, hz2⟩ := info_parts infoI
  have H := Lib.hid h
  clear h
  have ho := ownsRow_empty w w.heap.size 3 1 (Nat.le_refl _)
  have HO := Lib.hid ho
  clear ho
  rcases a with _ | ad
  · obtain rfl : l = [] := by
      rcases H.out with h | ⟨b, off, e, _⟩
      · exact List.eq_nil_of_length_eq_zero (by rw [← M.encIs_len, h]; rfl)
      · cases e
    have hrun := run_app_nil (P := Try.prog) (w.alloc (.cells #[] 3)) w.heap.size 23 23 3 i0 1 Try.underlying23 hi0 (.slice (some ⟨w.heap.size, 0, none⟩) 0 0) 0 [] HO.out c
    go_enter Try.func121, Try.ntmps121
    go_wp2_with fail
    go_ret
    exact ints_end (l := []) HO.out (below_alloc _ _)
  · have hcells : ∀ j u, (M.encIs l)[j]? = some u → (w.alloc (.cells #[] 3)).cell? (ad.add j) = some u := by
      intro j u hu
      rcases H.out with h | ⟨b, off, e, _, hb, hc⟩
      · rw [h] at hu; simp at hu
      · injection e with e
        subst e
        have hadd : (⟨b, off, none⟩ : Addr).add j = ⟨b, off + j, none⟩ := by
          unfold Addr.add
          split
          · rename_i h; subst h; rfl
          · rfl
        rw [hadd]
        exact (World.cell?_alloc_lt w _ _ (show b < _ by omega)).trans (hc j u hu)
    have HC := Lib.hid hcells
    clear hcells
    go_enter Try.func121, Try.ntmps121
    go_wp2_with (at_builtin; refine wpList_append_own _ rfl _ _ 23 rfl w.heap.size 3 i0 (.int .i64 0) 1 8 Try.underlying23 hi0 hz0 hz1 hz2 rfl (by decide) _ _ _ rfl HO.out ad l.length c (M.encIs l) rfl (by rw [M.encIs_len, Nat.mul_one]) HC.out (fun x hx => by unfold M.encIs at hx; obtain ⟨z, _, rfl⟩ := List.mem_map.1 hx; rfl) (by unfold maxLen; omega) (by omega) (by simp) ?_; intro v' w3 hown' hgrow3 hnil3)
    go_ret
    refine ints_end (by simpa using hown') ((below_alloc _ _).grown hgrow3 (by simp) (own_base HO.out))
end C
end Go.Proofs.Ytddpjjdncmokmaa
namespace Go.Proofs.Ytddpjjdncmokmaa
open Go.RowKit
namespace C
set_option maxHeartbeats 800000
set_option maxRecDepth 20000
/-- doors handed back in memory of the call's own -/
def DoorsRowPost (w : World) (l : List M.Dr) (e : Ending) (w' : World) : Prop :=
  ∃ a c, e = .returned (.slice a l.length c) ∧ OwnAt w.heap.size w'.heap.size w' 97 a (M.encDs l) ∧ l.length ≤ c ∧ c ≤ 9223372036854775807 ∧ Below w.heap.size w w'
theorem doorsRow_end {w w' : World} {l : List M.Dr} {v : Value} (h : w'.ownsRow w.heap.size 97 3 v l.length (M.encDs l)) (hb : Below w.heap.size w w') : DoorsRowPost w l (.returned v) w' := by
  obtain ⟨a, c, rfl, h1, h2, h3⟩ := own_slice h
  exact ⟨a, c, rfl, h3, h1, h2, hb⟩
theorem encDs_one (l : List M.Dr) : ∀ x ∈ M.encDs l, x.oneCell' = true := by
  intro x hx
  unfold M.encDs at hx
  obtain ⟨d, _, hd⟩ := List.mem_flatMap.1 hx
  simp [M.encD] at hd
  rcases hd with rfl | rfl | rfl <;> rfl
theorem cloneInts_any (w : World) (lo hi : Nat) (a : Option Addr) (c : Nat) (l : List Int) (h : RowIn lo hi w a (M.encIs l)) (hz : hi ≤ w.heap.size) (hl : l.length ≤ 1048576) :
    Calls Try.prog 90 #[.slice a l.length c] w (IntsPost w l) := by
  obtain ⟨i0, hi0, hz0, hz1, hz2⟩ := info_parts infoI
  have H := Lib.hid h
  clear h
  have ho := ownsRow_empty w w.heap.size 3 1 (Nat.le_refl _)
  have HO := Lib.hid ho
  clear ho
  rcases a with _ | ad
  · obtain rfl : l = [] := by
      rcases H.out with h | ⟨b, off, e, _⟩
      · exact List.eq_nil_of_length_eq_zero (by rw [← M.encIs_len, h]; rfl)
      · cases e
    have hq := fun W => Lib.run_eql_slice_nil (P := Try.prog) W 23 3 none 0 c 0 0 Try.underlying23
    go_enter Try.func90, Try.ntmps90
    go_wp2_with fail
    go_ret
    exact ints_end (l := []) (World.ownsRow_nil _ _ _ _) (Below.refl _ _)
  · have hcells : ∀ j u, (M.encIs l)[j]? = some u → (w.alloc (.cells #[] 3)).cell? (ad.add j) = some u := by
      intro j u hu
      rcases H.out with h | ⟨b, off, e, _, hb, hc⟩
      · rw [h] at hu; simp at hu
      · injection e with e
        subst e
        have hadd : (⟨b, off, none⟩ : Addr).add j = ⟨b, off + j, none⟩ := by
          unfold Addr.add
          split
          · rename_i h; subst h; rfl
          · rfl
        rw [hadd]
        exact (World.cell?_alloc_lt w _ _ (show b < _ by omega)).trans (hc j u hu)
    have HC := Lib.hid hcells
    clear hcells
    have hq := fun W => Lib.run_eql_slice_nil (P := Try.prog) W 23 3 (some ad) l.length c 0 0 Try.underlying23
    go_enter Try.func90, Try.ntmps90
    go_wp2_with (at_builtin; refine wpList_append_own _ rfl _ _ 23 rfl w.heap.size 3 i0 (.int .i64 0) 1 8 Try.underlying23 hi0 hz0 hz1 hz2 rfl (by decide) _ _ _ rfl HO.out ad l.length c (M.encIs l) rfl (by rw [M.encIs_len, Nat.mul_one]) HC.out (fun x hx => by unfold M.encIs at hx; obtain ⟨z, _, rfl⟩ := List.mem_map.1 hx; rfl) (by unfold maxLen; omega) (by omega) (by simp) ?_; intro v' w3 hown' hgrow3 hnil3)
    go_ret
    refine ints_end (by simpa using hown') ((below_alloc _ _).grown hgrow3 (by simp) (own_base HO.out))
theorem cloneDoors_any (w : World) (lo hi : Nat) (a : Option Addr) (c : Nat) (l : List M.Dr) (h : RowIn lo hi w a (M.encDs l)) (hz : hi ≤ w.heap.size) (hl : l.length ≤ 1048576) :
    Calls Try.prog 122 #[.slice a l.length c] w (DoorsRowPost w l) := by
  obtain ⟨i0, hi0, hz0, hz1, hz2⟩ := info_parts infoD
  have H := Lib.hid h
  clear h
  have ho := ownsRow_empty w w.heap.size 97 3 (Nat.le_refl _)
  have HO := Lib.hid ho
  clear ho
  rcases a with _ | ad
  · obtain rfl : l = [] := by
      rcases H.out with h | ⟨b, off, e, _⟩
      · exact List.eq_nil_of_length_eq_zero (by have := M.encDs_len l; rw [h] at this; simp at this; omega)
      · cases e
    have hq := fun W => Lib.run_eql_slice_nil (P := Try.prog) W 22 97 none 0 c 0 0 Try.underlying22
    go_enter Try.func122, Try.ntmps122
    go_wp2_with fail
    go_ret
    exact doorsRow_end (l := []) (World.ownsRow_nil _ _ _ _) (Below.refl _ _)
  · have hcells : ∀ j u, (M.encDs l)[j]? = some u → (w.alloc (.cells #[] 97)).cell? (ad.add j) = some u := by
      intro j u hu
      rcases H.out with h | ⟨b, off, e, _, hb, hc⟩
      · rw [h] at hu; simp at hu
      · injection e with e
        subst e
        have hadd : (⟨b, off, none⟩ : Addr).add j = ⟨b, off + j, none⟩ := by
          unfold Addr.add
          split
          · rename_i h; subst h; rfl
          · rfl
        rw [hadd]
        exact (World.cell?_alloc_lt w _ _ (show b < _ by omega)).trans (hc j u hu)
    have HC := Lib.hid hcells
    clear hcells
    have hq := fun W => Lib.run_eql_slice_nil (P := Try.prog) W 22 97 (some ad) l.length c 0 0 Try.underlying22
    go_enter Try.func122, Try.ntmps122
    go_wp2_with (at_builtin; refine wpList_append_own _ rfl _ _ 22 rfl w.heap.size 97 i0 (.agg #[.int .i64 0, .int .i64 0, .int .i64 0]) 3 24 Try.underlying22 hi0 hz0 hz1 hz2 rfl (by decide) _ _ _ rfl HO.out ad l.length c (M.encDs l) rfl (M.encDs_len l) HC.out (encDs_one l) (by unfold maxLen; omega) (by omega) (by simp) ?_; intro v' w3 hown' hgrow3 hnil3)
    go_ret
    refine doorsRow_end (by simpa using hown') ((below_alloc _ _).grown hgrow3 (by simp) (own_base HO.out))
end C
end Go.Proofs.Ytddpjjdncmokmaa
namespace Go.Proofs.Ytddpjjdncmokmaa
open Go.RowKit
namespace C
set_option maxHeartbeats 1600000
set_option maxRecDepth 20000
/-- the result's box written field by field: the maze in memory of the call's own -/
theorem mz_end {w w3 : World} {m : M.Mz} {da ia : Option Addr} {dc ic : Nat} {u0 u1 u2 : Value} (hB : Below w.heap.size w w3)
    (p1 : OwnAt (w.heap.size + 1 + 1) w3.heap.size w3 97 da (M.encDs m.doors)) (p2 : OwnAt (w.heap.size + 1 + 1) w3.heap.size w3 3 ia (M.encIs m.keys))
    (q1 : m.doors.length ≤ dc) (q2 : dc ≤ 9223372036854775807) (q3 : m.keys.length ≤ ic) (q4 : ic ≤ 9223372036854775807) (hz : w.heap.size + 1 < w3.heap.size) :
    MzPost w m (.returned (.agg #[.int .i64 m.size, .slice da m.doors.length dc, .slice ia m.keys.length ic])) (((w3.setCell ⟨w.heap.size + 1, 0, none⟩ u0).setCell ⟨w.heap.size + 1, 1, none⟩ u1).setCell ⟨w.heap.size + 1, 2, none⟩ u2) := by
  have hT : Turned (w.heap.size + 1) (w.heap.size + 1 + 1) w3 (((w3.setCell ⟨w.heap.size + 1, 0, none⟩ u0).setCell ⟨w.heap.size + 1, 1, none⟩ u1).setCell ⟨w.heap.size + 1, 2, none⟩ u2) :=
    ((Turned.setCell _ _ _ _ (by omega) (by omega)).trans (Turned.setCell _ _ _ _ (by omega) (by omega))).trans (Turned.setCell _ _ _ _ (by omega) (by omega))
  have hs := hT.size
  exact ⟨_, _, _, _, rfl, ⟨(p1.turned hT (Nat.le_refl _) (by omega)).mono (by omega) hs, (p2.turned hT (Nat.le_refl _) (by omega)).mono (by omega) hs, q1, q2, q3, q4⟩, Below.thenTurned hB hT (by omega) (by omega)⟩
theorem clone_any (w : World) (lo hi : Nat) (m : M.Mz) (a b : Option Addr) (c d : Nat) (h : MzIn lo hi w m a c b d) (hz : hi ≤ w.heap.size) (h1 : m.doors.length ≤ 1048576) (h2 : m.keys.length ≤ 1048576) :
    Calls Try.prog 94 #[.agg #[.int .i64 m.size, .slice a m.doors.length c, .slice b m.keys.length d]] w (MzPost w m) := by
  have H := Lib.hid h
  clear h
  go_enter Try.func94, Try.ntmps94
  go_wp2_with fail
  refine wp_named ?_
  intro W hW
  have hb : Below w.heap.size w W := by rw [hW]; exact ((Below.refl _ _).alloc (Nat.le_refl _) _).alloc (by simp) _
  have x1 : Box3 W w.heap.size 27 (.int .i64 m.size) (.slice a m.doors.length c) (.slice b m.keys.length d) := by rw [hW]; exact (Box3.new _ _ _ _ rfl).alloc _
  have x2 : Box3 W (w.heap.size + 1) 27 (.int .i64 0) (.slice none 0 0) (.slice none 0 0) := by rw [hW]; exact Box3.new _ _ _ _ (by simp)
  clear hW
  have hzw := hb.size
  have hz1 := x2.lt
  have X1 := Lib.hid x1
  have X2 := Lib.hid x2
  have HB := Lib.hid hb
  obtain ⟨c0, c1, c2⟩ := x1.cells
  obtain ⟨f0, f1, f2⟩ := x2.free
  have CD := Lib.hid (fun W' (hq : Below W.heap.size W W') => cloneDoors_any W' lo hi a c m.doors (H.out.doors.below (hb.trans (hq.mono hzw)) hz) (Nat.le_trans hz (Nat.le_trans hzw hq.size)) h1)
  have CI := Lib.hid (fun W' (hq : Below W.heap.size W W') => cloneInts_any W' lo hi b d m.keys (H.out.keys.below (hb.trans (hq.mono hzw)) hz) (Nat.le_trans hz (Nat.le_trans hzw hq.size)) h2)
  clear x1 x2 hb
  go_region_held3 (fun wq => wq.cell? ⟨w.heap.size, 0, none⟩ = some (.int .i64 m.size) ∧ wq.cell? ⟨w.heap.size, 1, none⟩ = some (.slice a m.doors.length c) ∧ wq.cell? ⟨w.heap.size, 2, none⟩ = some (.slice b m.keys.length d)) (first | exact ⟨d0, d1, d2⟩ | go_keep) (first
    | (go_at_call 122
       first
       | (refine (CD.out _ hbq).mono ?_; rintro e w3 ⟨da, dc, rfl, od, qd1, qd2, hb3⟩; have hbr := hbq.trans (hb3.mono hbq.size); obtain ⟨d0, d1, d2⟩ := (X1.out.below hbr).cells; obtain ⟨g0, g1, g2⟩ := (X2.out.below hbr).free; obtain ⟨k0, k1, k2⟩ := (X2.out.below hbr).cells)
       | (refine (CD.out _ (Below.refl W.heap.size W).drew).mono ?_; rintro e w2 ⟨da, dc, rfl, od, qd1, qd2, hb2⟩; have hbq : Below W.heap.size W w2 := (Below.refl W.heap.size W).drew.trans hb2; obtain ⟨d0, d1, d2⟩ := (X1.out.below hbq).cells; obtain ⟨g0, g1, g2⟩ := (X2.out.below hbq).free; obtain ⟨k0, k1, k2⟩ := (X2.out.below hbq).cells))
    | (go_at_call 90
       first
       | (refine (CI.out _ hbq).mono ?_; rintro e w3 ⟨ia, ic, rfl, oi, qi1, qi2, hb3⟩; have hbr := hbq.trans (hb3.mono hbq.size); obtain ⟨d0, d1, d2⟩ := (X1.out.below hbr).cells; obtain ⟨g0, g1, g2⟩ := (X2.out.below hbr).free; obtain ⟨k0, k1, k2⟩ := (X2.out.below hbr).cells)
       | (refine (CI.out _ (Below.refl W.heap.size W).drew).mono ?_; rintro e w2 ⟨ia, ic, rfl, oi, qi1, qi2, hb2⟩; have hbq : Below W.heap.size W w2 := (Below.refl W.heap.size W).drew.trans hb2; obtain ⟨d0, d1, d2⟩ := (X1.out.below hbq).cells; obtain ⟨g0, g1, g2⟩ := (X2.out.below hbq).free; obtain ⟨k0, k1, k2⟩ := (X2.out.below hbq).cells)))
  all_goals
    have hdz : W.drew.heap.size = W.heap.size := rfl
    have hzq := hbq.size
    have hz3 := hb3.size
    have p1 : Hid (OwnAt (w.heap.size + 1 + 1) w3.heap.size w3 97 da (M.encDs m.doors)) := by
      first
      | exact Lib.hid ((od.below hb3 (Nat.le_refl _)).mono (by omega) (by omega))
      | exact Lib.hid (od.mono (by omega) (by omega))
    have p2 : Hid (OwnAt (w.heap.size + 1 + 1) w3.heap.size w3 3 ia (M.encIs m.keys)) := by
      first
      | exact Lib.hid ((oi.below hb3 (Nat.le_refl _)).mono (by omega) (by omega))
      | exact Lib.hid (oi.mono (by omega) (by omega))
    have hBW := Lib.hid (HB.out.trans (hbr.mono hzw))
    clear od oi hbq hb3 hbr
    go_wp2_with fail
    refine bodyPost_ret (v := .agg #[.int .i64 m.size, .slice da m.doors.length dc, .slice ia m.keys.length ic]) (by simp [results, Try.results94, go_sem, k0, k1, k2]) rfl ?_
    exact mz_end hBW.out p1.out p2.out qd1 qd2 qi1 qi2 (by omega)
end C
end Go.Proofs.Ytddpjjdncmokmaa
namespace Go.Proofs.Ytddpjjdncmokmaa
open Go.RowKit
namespace C
set_option maxHeartbeats 32000000
set_option maxRecDepth 20000
theorem turned_of_grown {w w' : World} {row : Option Nat} {g : Nat} (hg : w.grownBy w' row) (hr : row = some g) : Turned g (g + 1) w w' :=
  ⟨hg.os, hg.tape, hg.output, hg.size, fun k hk ho => hg.block k hk (fun e => by rw [hr] at e; injection e; omega)⟩
theorem run_app_nil0 {P : Program} (t ty e : TypeId) (i : TypeInfo) (ht : P.underlying t = some (.slice e)) (hi : P.info? e = some i) (w : World) (g c : Nat) :
    (Builtin.append_ #[t, t] ty #[.slice (some ⟨g, 0, none⟩) 0 0, .slice none 0 c]).run P w = .ok (.slice (some ⟨g, 0, none⟩) 0 0) w := by
  simp [Builtin.append_, run_underlying ht, sizeOf, typeInfo, hi, Builtin.lenOf, Builtin.firstCells, storeCells]
/-- a row of doors held by the call so far -/
def ownsNow (w : World) (B : Nat) (v : Value) (m : M.Mz) : Prop := w.ownsRow B 97 3 v m.doors.length (M.encDs m.doors)
end C
end Go.Proofs.Ytddpjjdncmokmaa
namespace Go.Proofs.Ytddpjjdncmokmaa
open Go.RowKit
namespace C
set_option maxHeartbeats 32000000
set_option maxRecDepth 20000
theorem mz_end0 {w w3 : World} {m : M.Mz} {g : Addr} {ia : Option Addr} {ic : Nat} {u0 u1 u2 : Value} (hB : Below w.heap.size w w3) (hd1 : M.encDs m.doors = []) (hd0 : m.doors.length = 0)
    (p2 : OwnAt (w.heap.size + 1 + 1) w3.heap.size w3 3 ia (M.encIs m.keys))
    (q3 : m.keys.length ≤ ic) (q4 : ic ≤ 9223372036854775807) (hz : w.heap.size + 1 < w3.heap.size) :
    MzPost w m (.returned (.agg #[.int .i64 m.size, .slice (some g) 0 0, .slice ia m.keys.length ic])) (((w3.setCell ⟨w.heap.size + 1, 0, none⟩ u0).setCell ⟨w.heap.size + 1, 1, none⟩ u1).setCell ⟨w.heap.size + 1, 2, none⟩ u2) := by
  have := mz_end (u0 := u0) (u1 := u1) (u2 := u2) (da := some g) (dc := 0) hB (by rw [hd1]; exact OwnAt.nil _ _ _ _ _) p2 (by omega) (by omega) q3 q4 hz
  rwa [hd0] at this
theorem l2Own_none (w : World) (lo hi : Nat) (m : M.Mz) (b : Option Addr) (c d : Nat) (h : MzIn lo hi w m none c b d) (hz : hi ≤ w.heap.size) (_h1 : m.doors.length ≤ 1048576) (h2 : m.keys.length ≤ 1048576) :
    Calls Try.prog 92 #[.agg #[.int .i64 m.size, .slice none m.doors.length c, .slice b m.keys.length d]] w (MzPost w m) := by
  obtain ⟨i0, hi0, hz0, hz1, hz2⟩ := info_parts infoD
  have H := Lib.hid h
  clear h
  obtain ⟨hd0, hd1⟩ : m.doors.length = 0 ∧ M.encDs m.doors = [] := by
    rcases H.out.doors with h | ⟨b, off, e, _⟩
    · exact ⟨by have := M.encDs_len m.doors; rw [h] at this; simp at this; omega, h⟩
    · cases e
  have hrun := run_app_nil0 (P := Try.prog) 22 22 97 i0 Try.underlying22 hi0
  have HD1 := Lib.hid hd1
  have HL1 := Lib.hid hd0
  clear hd1
  rw [hd0]
  go_enter Try.func92, Try.ntmps92
  go_wp2_with fail
  refine wp_named ?_
  intro W hW
  have hb : Below w.heap.size w W := by rw [hW]; exact ((Below.refl _ _).alloc (Nat.le_refl _) _).alloc (by simp) _
  have x1 : Box3 W w.heap.size 27 (.int .i64 m.size) (.slice none 0 c) (.slice b m.keys.length d) := by rw [hW]; exact (Box3.new _ _ _ _ rfl).alloc _
  have x2 : Box3 W (w.heap.size + 1) 27 (.int .i64 0) (.slice none 0 0) (.slice none 0 0) := by rw [hW]; exact Box3.new _ _ _ _ (by simp)
  clear hW
  have hzw := hb.size
  have hz1 := x2.lt
  have hz0' := x1.lt
  have X1 := Lib.hid x1
  have X2 := Lib.hid x2
  have HB := Lib.hid hb
  obtain ⟨c0, c1, c2⟩ := x1.cells
  obtain ⟨f0, f1, f2⟩ := x2.free
  have OI := Lib.hid (fun W' (hq : Below W.heap.size W W') => l1Own_any W' lo hi b d m.keys (H.out.keys.below (hb.trans (hq.mono hzw)) hz) (Nat.le_trans hz (Nat.le_trans hzw hq.size)) h2)
  clear x1 x2 hb
  go_region_held3 (fun wq => wq.cell? ⟨w.heap.size, 0, none⟩ = some (.int .i64 m.size) ∧ wq.cell? ⟨w.heap.size, 1, none⟩ = some (.slice none 0 c) ∧ wq.cell? ⟨w.heap.size, 2, none⟩ = some (.slice b m.keys.length d)) (first | exact ⟨d0, d1, d2⟩ | go_keep) (first
    | (go_at_call 121
       first
       | (refine (OI.out _ (Below.refl W.heap.size W).drew).mono ?_; rintro e w2 ⟨ia, ic, rfl, oi, qi1, qi2, hb2⟩; have hbq : Below W.heap.size W w2 := (Below.refl W.heap.size W).drew.trans hb2; obtain ⟨d0, d1, d2⟩ := (X1.out.below hbq).cells; obtain ⟨g0, g1, g2⟩ := (X2.out.below hbq).free; obtain ⟨k0, k1, k2⟩ := (X2.out.below hbq).cells; have hn1 := (X1.out.below hbq).lt; have hn2 := (X2.out.below hbq).lt)
       | (refine (OI.out _ ((Below.refl W.heap.size W).drew.alloc (Nat.le_refl _) _)).mono ?_; rintro e w2 ⟨ia, ic, rfl, oi, qi1, qi2, hb2⟩; have hbq : Below W.heap.size W w2 := ((Below.refl W.heap.size W).drew.alloc (Nat.le_refl _) _).trans (hb2.mono (by simp)); obtain ⟨d0, d1, d2⟩ := (X1.out.below hbq).cells; obtain ⟨g0, g1, g2⟩ := (X2.out.below hbq).free; obtain ⟨k0, k1, k2⟩ := (X2.out.below hbq).cells; have hn1 := (X1.out.below hbq).lt; have hn2 := (X2.out.below hbq).lt)))
  all_goals
    have hBW := Lib.hid (HB.out.trans (hbq.mono hzw))
    have hs2 := hbq.size
    have hl0 := HL1.out
    go_wp2_with fail
    first
    | (refine bodyPost_ret (v := .agg #[.int .i64 m.size, .slice (some ⟨W.heap.size, 0, none⟩) 0 0, .slice ia m.keys.length ic]) (by simp [results, Try.results92, go_sem, k0, k1, k2]) rfl ?_
       exact mz_end0 hBW.out HD1.out HL1.out (oi.mono (by first | omega | (simp; omega)) (Nat.le_refl _)) qi1 qi2 (by omega))
    | (obtain ⟨kk0, kk1, kk2⟩ := ((X2.out.below hbq).alloc (.cells #[] 97)).cells
       refine bodyPost_ret (v := .agg #[.int .i64 m.size, .slice (some ⟨w2.heap.size, 0, none⟩) 0 0, .slice ia m.keys.length ic]) (by simp [results, Try.results92, go_sem, kk0, kk1, kk2]) rfl ?_
       exact mz_end0 (hBW.out.alloc (by omega) _) HD1.out HL1.out ((oi.below (below_alloc _ _) (Nat.le_refl _)).mono (by first | omega | (simp; omega)) (by simp)) qi1 qi2 (by simp; omega))
end C
end Go.Proofs.Ytddpjjdncmokmaa
namespace Go.Proofs.Ytddpjjdncmokmaa
open Go.RowKit
namespace C
set_option maxHeartbeats 32000000
set_option maxRecDepth 20000
theorem step_append_own {P : Program} {w : World} {ops : Array Oper} {o : Oper} {a : Act} {K : Act → World → Prop} {Q : Exit → Act → World → Prop} {E : Prop} (hgd : o.guard = none) (s x : Operand) (t : TypeId)
    (ho : o.op = .call { callee := .builtin .append, args := #[s, x], argTypes := #[t, t] })
    (base : Nat) (e : TypeId) (i : TypeInfo) (z : Value) (size bytes : Nat) (ht : P.underlying t = some (.slice e)) (hi : P.info? e = some i) (hz : i.zero = some z)
    (hsize : i.size = size) (hby : i.bytes = bytes) (hzs : z.cells.size = size) (hsz : 0 < size)
    (v : Value) (n : Nat) (xs : List Value) (hown : w.ownsRow base e size v n xs) (hs : a.eval s = v)
    (ad : Addr) (m c : Nat) (news : List Value) (hx : a.eval x = .slice (some ad) m c) (hl : news.length = m * size) (hnews : ∀ j u, news[j]? = some u → w.cell? (ad.add j) = some u) (h1 : ∀ u ∈ news, u.oneCell' = true)
    (h63 : n + m ≤ maxLen) (hbytes : (n + m) * bytes ≤ 140737488355328) (hbase : base ≤ w.heap.size)
    (h : ∀ v' w', w'.ownsRow base e size v' (n + m) (xs ++ news) → w.grownBy w' v.ownBlock → (v' = .slice none 0 0 ↔ v = .slice none 0 0 ∧ m = 0) → K (a.put o.dst v') w') :
    if Region.wanted o (yielded ops a.tmps) = true then Oper.wp P o a w K Q else E := by
  have hw : Region.wanted o (yielded ops a.tmps) = true := by simp [Region.wanted, hgd]
  rw [if_pos hw]
  exact wp_append_own w s x t ho base e i z size bytes ht hi hz hsize hby hzs hsz v n xs hs hown ad m c news hx hl hnews h1 h63 hbytes hbase h
theorem l2Own_some (w : World) (lo hi : Nat) (m : M.Mz) (ad : Addr) (b : Option Addr) (c d : Nat) (h : MzIn lo hi w m (some ad) c b d) (hz : hi ≤ w.heap.size) (h1 : m.doors.length ≤ 1048576) (h2 : m.keys.length ≤ 1048576) :
    Calls Try.prog 92 #[.agg #[.int .i64 m.size, .slice (some ad) m.doors.length c, .slice b m.keys.length d]] w (MzPost w m) := by
  obtain ⟨i0, hi0, hz0, hz1, hz2⟩ := info_parts infoD
  have H := Lib.hid h
  clear h
  have hcells : ∀ W' (hq : Below w.heap.size w W') j u, (M.encDs m.doors)[j]? = some u → W'.cell? (ad.add j) = some u := by
    intro W' hq j u hu
    rcases H.out.doors with h | ⟨b, off, e, _, hb, hc⟩
    · rw [h] at hu; simp at hu
    · injection e with e
      subst e
      have hadd : (⟨b, off, none⟩ : Addr).add j = ⟨b, off + j, none⟩ := by
        unfold Addr.add
        split
        · rename_i h; subst h; rfl
        · rfl
      rw [hadd]
      exact (hq.cell (p := ⟨b, off + j, none⟩) (show b < _ by omega)).trans (hc j u hu)
  have HC := Lib.hid hcells
  clear hcells
  go_enter Try.func92, Try.ntmps92
  go_wp2_with fail
  refine wp_named ?_
  intro W hW
  have hb : Below w.heap.size w W := by rw [hW]; exact ((Below.refl _ _).alloc (Nat.le_refl _) _).alloc (by simp) _
  have x1 : Box3 W w.heap.size 27 (.int .i64 m.size) (.slice (some ad) m.doors.length c) (.slice b m.keys.length d) := by rw [hW]; exact (Box3.new _ _ _ _ rfl).alloc _
  have x2 : Box3 W (w.heap.size + 1) 27 (.int .i64 0) (.slice none 0 0) (.slice none 0 0) := by rw [hW]; exact Box3.new _ _ _ _ (by simp)
  clear hW
  have hzw := hb.size
  have hzx := x2.lt
  have hz0' := x1.lt
  have X1 := Lib.hid x1
  have X2 := Lib.hid x2
  have HB := Lib.hid hb
  obtain ⟨c0, c1, c2⟩ := x1.cells
  obtain ⟨f0, f1, f2⟩ := x2.free
  have OI := Lib.hid (fun W' (hq : Below W.heap.size W W') => l1Own_any W' lo hi b d m.keys (H.out.keys.below (hb.trans (hq.mono hzw)) hz) (Nat.le_trans hz (Nat.le_trans hzw hq.size)) h2)
  have hdz : W.drew.heap.size = W.heap.size := rfl
  clear x1 x2
  go_region_held3 (fun wq => wq.cell? ⟨w.heap.size, 0, none⟩ = some (.int .i64 m.size) ∧ wq.cell? ⟨w.heap.size, 1, none⟩ = some (.slice (some ad) m.doors.length c) ∧ wq.cell? ⟨w.heap.size, 2, none⟩ = some (.slice b m.keys.length d)) (first | exact ⟨d0, d1, d2⟩ | go_keep) (first
    | (go_at_call 121
       first
       | (refine (OI.out _ hba).mono ?_; rintro e w9 ⟨ia, ic, rfl, oi, qi1, qi2, hb2⟩; have hbr : Below W.heap.size W w9 := hba.trans (hb2.mono hba.size); have hs2 := hba.size; have hs9 := hb2.size; have p1 : Hid (OwnAt (w.heap.size + 1 + 1) w9.heap.size w9 97 da (M.encDs m.doors)) := Lib.hid ((od.below hb2 (Nat.le_refl _)).mono (by omega) (by omega)); have p2 : Hid (OwnAt (w.heap.size + 1 + 1) w9.heap.size w9 3 ia (M.encIs m.keys)) := Lib.hid (oi.mono (by omega) (by omega)); obtain ⟨d0, d1, d2⟩ := (X1.out.below hbr).cells; obtain ⟨g0, g1, g2⟩ := (X2.out.below hbr).free; obtain ⟨k0, k1, k2⟩ := (X2.out.below hbr).cells; have hn1 := (X1.out.below hbr).lt; have hn2 := (X2.out.below hbr).lt)
       | (refine (OI.out _ ((Below.refl W.heap.size W).drew.alloc (Nat.le_refl _) _)).mono ?_; rintro e w2 ⟨ia, ic, rfl, oi, qi1, qi2, hb2⟩; have hbq : Below W.heap.size W w2 := ((Below.refl W.heap.size W).drew.alloc (Nat.le_refl _) _).trans (hb2.mono (by simp)); have hown2 := own_below (ownsRow_empty W.drew W.heap.size 97 3 (Nat.le_refl _)) hb2; have hs2 := hbq.size; obtain ⟨d0, d1, d2⟩ := (X1.out.below hbq).cells; obtain ⟨g0, g1, g2⟩ := (X2.out.below hbq).free; obtain ⟨k0, k1, k2⟩ := (X2.out.below hbq).cells; have hn1 := (X1.out.below hbq).lt; have hn2 := (X2.out.below hbq).lt)
       | (refine (OI.out _ ((Below.refl W.heap.size W).drew)).mono ?_; rintro e w2 ⟨ia, ic, rfl, oi, qi1, qi2, hb2⟩; have hbq : Below W.heap.size W w2 := ((Below.refl W.heap.size W).drew).trans hb2; have hs2 := hbq.size; obtain ⟨d0, d1, d2⟩ := (X1.out.below hbq).cells; obtain ⟨g0, g1, g2⟩ := (X2.out.below hbq).free; obtain ⟨k0, k1, k2⟩ := (X2.out.below hbq).cells; have hn1 := (X1.out.below hbq).lt; have hn2 := (X2.out.below hbq).lt))
    | (first
       | (refine step_append_own rfl (.tmp 5) (.tmp 7) 22 rfl W.heap.size 97 i0 (.agg #[.int .i64 0, .int .i64 0, .int .i64 0]) 3 24 Try.underlying22 hi0 hz0 hz1 hz2 rfl (by decide) _ _ _ hown2 (by simp [Act.eval, Act.put]) ad m.doors.length c (M.encDs m.doors) (by simp [Act.eval, Act.put]) (M.encDs_len _) (HC.out _ (hb.trans (hbq.mono hzw))) (encDs_one _) (by unfold maxLen; omega) (by omega) (by first | (simp; done) | (have := hbq.size; omega)) ?_; intro v' w9 hown' hgrow' hnil'; obtain ⟨da, dc, rfl, qd1, qd2, od⟩ := own_slice (show C.ownsNow w9 W.heap.size v' m by unfold C.ownsNow; simpa using hown'); have hbr : Below W.heap.size W w9 := hbq.grown hgrow' hs2 (own_base hown2); have hs9 := hbr.size; have hg9 := hgrow'.size; have p1 : Hid (OwnAt (w.heap.size + 1 + 1) w9.heap.size w9 97 da (M.encDs m.doors)) := Lib.hid (od.mono (by omega) (by omega)); have p2 : Hid (OwnAt (w.heap.size + 1 + 1) w9.heap.size w9 3 ia (M.encIs m.keys)) := Lib.hid ((oi.turned (turned_of_grown hgrow' rfl) (Nat.le_refl _) (.inr (by simp))).mono (by first | omega | (simp; omega)) (by omega)); obtain ⟨d0, d1, d2⟩ := (X1.out.below hbr).cells; obtain ⟨g0, g1, g2⟩ := (X2.out.below hbr).free; obtain ⟨k0, k1, k2⟩ := (X2.out.below hbr).cells; have hn1 := (X1.out.below hbr).lt; have hn2 := (X2.out.below hbr).lt)
       | (refine step_append_own rfl (.tmp 5) (.tmp 7) 22 rfl w2.heap.size 97 i0 (.agg #[.int .i64 0, .int .i64 0, .int .i64 0]) 3 24 Try.underlying22 hi0 hz0 hz1 hz2 rfl (by decide) _ _ _ (ownsRow_empty w2 w2.heap.size 97 3 (Nat.le_refl _)) (by simp [Act.eval, Act.put]) ad m.doors.length c (M.encDs m.doors) (by simp [Act.eval, Act.put]) (M.encDs_len _) (HC.out _ ((hb.trans (hbq.mono hzw)).alloc (by omega) _)) (encDs_one _) (by unfold maxLen; omega) (by omega) (by first | (simp; done) | (have := hbq.size; omega)) ?_; intro v' w9 hown' hgrow' hnil'; obtain ⟨da, dc, rfl, qd1, qd2, od⟩ := own_slice (show C.ownsNow w9 w2.heap.size v' m by unfold C.ownsNow; simpa using hown'); have hb9 : Below w2.heap.size w2 w9 := (below_alloc w2 _).grown hgrow' (by simp) (own_base (ownsRow_empty w2 w2.heap.size 97 3 (Nat.le_refl _))); have hs9 := hb9.size; have hbr : Below W.heap.size W w9 := hbq.trans (hb9.mono hs2); have p1 : Hid (OwnAt (w.heap.size + 1 + 1) w9.heap.size w9 97 da (M.encDs m.doors)) := Lib.hid (od.mono (by omega) (by omega)); have p2 : Hid (OwnAt (w.heap.size + 1 + 1) w9.heap.size w9 3 ia (M.encIs m.keys)) := Lib.hid ((oi.below hb9 (Nat.le_refl _)).mono (by first | omega | (simp; omega)) (by omega)); obtain ⟨d0, d1, d2⟩ := (X1.out.below hbr).cells; obtain ⟨g0, g1, g2⟩ := (X2.out.below hbr).free; obtain ⟨k0, k1, k2⟩ := (X2.out.below hbr).cells; have hn1 := (X1.out.below hbr).lt; have hn2 := (X2.out.below hbr).lt)
       | (refine step_append_own rfl (.tmp 5) (.tmp 7) 22 rfl W.heap.size 97 i0 (.agg #[.int .i64 0, .int .i64 0, .int .i64 0]) 3 24 Try.underlying22 hi0 hz0 hz1 hz2 rfl (by decide) _ _ _ (ownsRow_empty W.drew W.heap.size 97 3 (Nat.le_refl _)) (by simp [Act.eval]) ad m.doors.length c (M.encDs m.doors) (by simp [Act.eval]) (M.encDs_len _) (HC.out _ (hb.trans (((Below.refl W.heap.size W).drew.alloc (Nat.le_refl _) _).mono hzw))) (encDs_one _) (by unfold maxLen; omega) (by omega) (by first | (simp; done) | (have := hbq.size; omega)) ?_; intro v' w2 hown' hgrow' hnil'; obtain ⟨da, dc, rfl, qd1, qd2, od⟩ := own_slice (show C.ownsNow w2 W.heap.size v' m by unfold C.ownsNow; simpa using hown'); have hba : Below W.heap.size W w2 := ((Below.refl W.heap.size W).drew.alloc (Nat.le_refl _) _).grown hgrow' (by simp) (own_base (ownsRow_empty W.drew W.heap.size 97 3 (Nat.le_refl _))); obtain ⟨d0, d1, d2⟩ := (X1.out.below hba).cells; obtain ⟨g0, g1, g2⟩ := (X2.out.below hba).free; obtain ⟨k0, k1, k2⟩ := (X2.out.below hba).cells; have hn1 := (X1.out.below hba).lt; have hn2 := (X2.out.below hba).lt)))
  all_goals
    have hBW := Lib.hid (HB.out.trans (hbr.mono hzw))
    have hsr := hbr.size
    go_wp2_with fail
    refine bodyPost_ret (v := .agg #[.int .i64 m.size, .slice da m.doors.length dc, .slice ia m.keys.length ic]) (by simp [results, Try.results92, go_sem, k0, k1, k2]) rfl ?_
    exact mz_end hBW.out p1.out p2.out qd1 qd2 qi1 qi2 (by omega)
theorem l2Own_any (w : World) (lo hi : Nat) (m : M.Mz) (a b : Option Addr) (c d : Nat) (h : MzIn lo hi w m a c b d) (hz : hi ≤ w.heap.size) (h1 : m.doors.length ≤ 1048576) (h2 : m.keys.length ≤ 1048576) :
    Calls Try.prog 92 #[.agg #[.int .i64 m.size, .slice a m.doors.length c, .slice b m.keys.length d]] w (MzPost w m) := by
  rcases a with _ | ad
  · exact l2Own_none w lo hi m b c d h hz h1 h2
  · exact l2Own_some w lo hi m ad b c d h hz h1 h2
end C
end Go.Proofs.Ytddpjjdncmokmaa
namespace Go.Proofs.Ytddpjjdncmokmaa
open Go.RowKit
namespace C
theorem encIs_set (l : List Int) (k : Nat) (v : Int) : M.encIs (l.set k v) = (M.encIs l).set k (.int .i64 v) := by unfold M.encIs; rw [List.map_set]
theorem mzNo_end {w w3 : World} {u0 u1 u2 : Value} (hB : Below w.heap.size w w3) :
    MzOkPost w mz0 false (.returned (.tuple #[.agg #[.int .i64 0, .slice none 0 0, .slice none 0 0], .bool false])) (((w3.setCell ⟨w.heap.size + 1, 0, none⟩ u0).setCell ⟨w.heap.size + 1, 1, none⟩ u1).setCell ⟨w.heap.size + 1, 2, none⟩ u2) :=
  ⟨_, _, _, _, rfl, MzOwn.zero _ _ _, ((hB.setCell (p := ⟨w.heap.size + 1, 0, none⟩) (Nat.le_succ _) _).setCell (p := ⟨w.heap.size + 1, 1, none⟩) (Nat.le_succ _) _).setCell (p := ⟨w.heap.size + 1, 2, none⟩) (Nat.le_succ _) _⟩
theorem mzYes_end {w w3 : World} {lo hi nd nk : Nat} {m : M.Mz} {a b : Option Addr} {c d : Nat} {u0 u1 u2 : Value} (hB : Below w.heap.size w w3) (ho : MzOwn lo hi w3 m a c b d) (h1 : w.heap.size + 1 < lo) (h2 : hi ≤ w3.heap.size) (hnd : m.doors.length = nd) (hnk : m.keys.length = nk) :
    MzOkPost w m true (.returned (.tuple #[.agg #[.int .i64 m.size, .slice a nd c, .slice b nk d], .bool true])) (((w3.setCell ⟨w.heap.size + 1, 0, none⟩ u0).setCell ⟨w.heap.size + 1, 1, none⟩ u1).setCell ⟨w.heap.size + 1, 2, none⟩ u2) := by
  have hT : Turned (w.heap.size + 1) (w.heap.size + 1 + 1) w3 (((w3.setCell ⟨w.heap.size + 1, 0, none⟩ u0).setCell ⟨w.heap.size + 1, 1, none⟩ u1).setCell ⟨w.heap.size + 1, 2, none⟩ u2) :=
    ((Turned.setCell _ _ _ _ (by omega) (by omega)).trans (Turned.setCell _ _ _ _ (by omega) (by omega))).trans (Turned.setCell _ _ _ _ (by omega) (by omega))
  have hs := hT.size
  have hz := hB.size
  subst hnd; subst hnk
  exact ⟨_, _, _, _, rfl, (ho.turned hT h2 (.inr (by omega))).mono (by omega) (by omega), Below.thenTurned hB hT (by omega) (by omega)⟩
theorem Box3.setAll {X : World} {n : Nat} {T : TypeId} {x y z : Value} (h : Box3 X n T x y z) (u0 u1 u2 : Value) : Box3 (((X.setCell ⟨n, 0, none⟩ u0).setCell ⟨n, 1, none⟩ u1).setCell ⟨n, 2, none⟩ u2) n T u0 u1 u2 := by
  unfold Box3 at h ⊢
  simp [World.setCell, Array.getElem?_modify, h]
theorem MzOkPost.more {w w' w'' : World} {m : M.Mz} {ok : Bool} {e : Ending} (h : MzOkPost w m ok e w') (hb : Below w'.heap.size w' w'') : MzOkPost w m ok e w'' := by
  obtain ⟨a, c, b, d, he, ho, hB⟩ := h
  exact ⟨a, c, b, d, he, (ho.below hb (Nat.le_refl _)).mono (Nat.le_refl _) hb.size, hB.trans (hb.mono hB.size)⟩
/-- one set of keys written -/
theorem MzOwn.setKey {lo hi : Nat} {w : World} {m : M.Mz} {a b : Option Addr} {c d g off : Nat} (h : MzOwn lo hi w m a c b d) (hb : b = some ⟨g, off, none⟩) (k : Nat) (hk : k < m.keys.length) (v : Int) :
    MzOwn lo hi (w.setCell ⟨g, off + k, none⟩ (.int .i64 v)) ⟨m.size, m.doors, m.keys.set k v⟩ a c b d :=
  ⟨h.doors.far h.keys (by decide) hb (k := k) (by rw [M.encIs_len]; exact hk) _ _, by show OwnAt _ _ _ _ _ (M.encIs (m.keys.set k v)); rw [encIs_set]; exact h.keys.set_ hb k _, h.c1, h.c2, by show (m.keys.set k v).length ≤ d; rw [List.length_set]; exact h.d1, h.d2⟩
end C
end Go.Proofs.Ytddpjjdncmokmaa
namespace Go.Proofs.Ytddpjjdncmokmaa
open Go.RowKit
namespace M
/-- the first place at which p holds, or -1 -/
def IsIdx {α : Type} (p : α → Bool) (l : List α) (i : Int) : Prop :=
  (∃ (k : Nat) (h : k < l.length), i = k ∧ p l[k] = true ∧ ∀ j (hj : j < l.length), j < k → p l[j] = false) ∨ (i = -1 ∧ ∀ j (hj : j < l.length), p l[j] = false)
end M
namespace C
set_option maxHeartbeats 1600000
set_option maxRecDepth 20000
def PredIOk (g : Nat) (lb : Array Value) (p : Int → Bool) (w : World) : Prop :=
  ∀ W x, Below w.heap.size w W → Calls Try.prog g (#[.int .i64 x] ++ lb) W fun e w' => e = .returned (.bool (p x)) ∧ Below W.heap.size W w'
theorem indexI_any (g : Nat) (lb : Array Value) (p : Int → Bool) (eg : ∀ args w, (callFunc g args).run Try.prog w = .ok (.enter g args) w) (w : World) (lo hi : Nat) (a : Option Addr) (c : Nat) (l : List Int)
    (hp : PredIOk g lb p w) (h : RowIn lo hi w a (M.encIs l)) (hz : hi ≤ w.heap.size) (hl : l.length ≤ 1048576) :
    Calls Try.prog 104 #[.slice a l.length c, .func (.func g) #[] lb] w fun e w' => (∃ i : Int, e = .returned (.int .i64 i) ∧ M.IsIdx p l i) ∧ Below w.heap.size w w' := by
  have h' := Lib.hid h
  have HP := Lib.hid hp
  clear h hp
  go_enter Try.func104, Try.ntmps104
  go_wp2_with fail
  go_loopw [5, 8] (fun _ i wr => ∃ (k : Nat), k ≤ l.length ∧ i = .int .i64 k ∧ (∀ j (hj : j < l.length), j < k → p l[j] = false) ∧ Below w.heap.size w wr) (fun _ i _ => l.length - (intOf i).toNat)
  case atStart => exact ⟨0, Nat.zero_le _, rfl, fun j _ h => by omega, Below.refl _ _⟩
  case round =>
    obtain ⟨k, hk, rfl, hall, hnx⟩ := hrel
    have HA := Lib.hid hall
    have HN := Lib.hid hnx
    have hzr := hnx.size
    clear hall hnx
    by_cases hlt : k < l.length
    · obtain ⟨b, off, rfl, _, hb, hc0⟩ := h'.out.at_ (k := k) (by rw [M.encIs_len]; omega)
      have hx0 : wr.cell? ⟨b, off + k, none⟩ = some (.int .i64 l[k]) := (HN.out.cell (p := ⟨b, off + k, none⟩) (Nat.lt_of_lt_of_le hb hz)).trans (hc0 _ _ (M.encIs_at hlt))
      clear hc0
      have CP := Lib.hid (HP.out wr l[k] HN.out)
      cases hq : p l[k] with
      | true =>
        rw [hq] at CP
        have HQ := Lib.hid hq
        clear hq
        go_wp2_with (go_at_fn g; refine (CP.out).mono ?_; rintro e w' ⟨rfl, hb2⟩)
        go_ret
        exact ⟨⟨k, rfl, .inl ⟨k, hlt, rfl, HQ.out, fun j hj hjk => HA.out j hj hjk⟩⟩, HN.out.trans (hb2.mono hzr)⟩
      | false =>
        rw [hq] at CP
        have HQ := Lib.hid hq
        clear hq
        go_wp2_with (go_at_fn g; refine (CP.out).mono ?_; rintro e w' ⟨rfl, hb2⟩)
        go_roundw
        case rel => exact ⟨k + 1, by omega, by go_num, fun j hj hjk => by
            rcases Nat.lt_or_ge j k with h | h
            · exact HA.out j hj h
            · obtain rfl : j = k := by omega
              exact HQ.out, HN.out.trans (hb2.mono hzr)⟩
        case measure => simp [intOf]; omega
    · obtain rfl : k = l.length := by omega
      go_wp2_with fail
      go_ret
      exact ⟨⟨-1, rfl, .inr ⟨rfl, fun j hj => HA.out j hj hj⟩⟩, HN.out⟩
end C
end Go.Proofs.Ytddpjjdncmokmaa
namespace Go.Proofs.Ytddpjjdncmokmaa
open Go.RowKit
namespace C
theorem Turned.set3 {w : World} (r : Nat) (u0 u1 u2 : Value) : Turned r (r + 1) w (((w.setCell ⟨r, 0, none⟩ u0).setCell ⟨r, 1, none⟩ u1).setCell ⟨r, 2, none⟩ u2) :=
  ((Turned.setCell _ _ _ _ (Nat.le_refl _) (Nat.lt_succ_self _)).trans (Turned.setCell _ _ _ _ (Nat.le_refl _) (Nat.lt_succ_self _))).trans (Turned.setCell _ _ _ _ (Nat.le_refl _) (Nat.lt_succ_self _))
theorem mz_endAt {w w3 : World} {r lo hi nd nk : Nat} {m : M.Mz} {a b : Option Addr} {c d : Nat} {u0 u1 u2 : Value} (hB : Below w.heap.size w w3) (ho : MzOwn lo hi w3 m a c b d) (hr : r < lo ∨ hi ≤ r) (h0 : w.heap.size ≤ r) (h1 : w.heap.size ≤ lo) (h2 : hi ≤ w3.heap.size) (hnd : m.doors.length = nd) (hnk : m.keys.length = nk) :
    MzPost w m (.returned (.agg #[.int .i64 m.size, .slice a nd c, .slice b nk d])) (((w3.setCell ⟨r, 0, none⟩ u0).setCell ⟨r, 1, none⟩ u1).setCell ⟨r, 2, none⟩ u2) := by
  have hT := Turned.set3 (w := w3) r u0 u1 u2
  have hs := hT.size
  have hz := hB.size
  subst hnd; subst hnk
  exact ⟨_, _, _, _, rfl, (ho.turned hT h2 (by omega)).mono h1 (by omega), Below.thenTurned hB hT h0 hz⟩
theorem mzNo_endAt {w w3 : World} {r : Nat} {u0 u1 u2 : Value} (hB : Below w.heap.size w w3) (h0 : w.heap.size ≤ r) :
    MzOkPost w mz0 false (.returned (.tuple #[.agg #[.int .i64 0, .slice none 0 0, .slice none 0 0], .bool false])) (((w3.setCell ⟨r, 0, none⟩ u0).setCell ⟨r, 1, none⟩ u1).setCell ⟨r, 2, none⟩ u2) :=
  ⟨_, _, _, _, rfl, MzOwn.zero _ _ _, Below.thenTurned hB (Turned.set3 (w := w3) r u0 u1 u2) h0 hB.size⟩
theorem mzYes_endAt {w w3 : World} {r lo hi nd nk : Nat} {ok : Bool} {m : M.Mz} {a b : Option Addr} {c d : Nat} {u0 u1 u2 : Value} (hB : Below w.heap.size w w3) (ho : MzOwn lo hi w3 m a c b d) (hr : r < lo ∨ hi ≤ r) (h0 : w.heap.size ≤ r) (h1 : w.heap.size ≤ lo) (h2 : hi ≤ w3.heap.size) (hnd : m.doors.length = nd) (hnk : m.keys.length = nk) :
    MzOkPost w m ok (.returned (.tuple #[.agg #[.int .i64 m.size, .slice a nd c, .slice b nk d], .bool ok])) (((w3.setCell ⟨r, 0, none⟩ u0).setCell ⟨r, 1, none⟩ u1).setCell ⟨r, 2, none⟩ u2) := by
  obtain ⟨a', c', b', d', he, hq, hb⟩ := mz_endAt (u0 := u0) (u1 := u1) (u2 := u2) hB ho hr h0 h1 h2 hnd hnk
  injection he with he
  refine ⟨a', c', b', d', by rw [he], hq, hb⟩
end C
end Go.Proofs.Ytddpjjdncmokmaa
namespace Go.Proofs.Ytddpjjdncmokmaa
open Go.RowKit
namespace C
set_option maxHeartbeats 1600000
set_option maxRecDepth 20000
theorem own_weaken {w : World} {B B' : Nat} {e : TypeId} {size : Nat} {v : Value} {n : Nat} {xs : List Value} (h : w.ownsRow B e size v n xs) (hB : B' ≤ B) : w.ownsRow B' e size v n xs := by
  rcases h with ⟨hl, h | ⟨g, cap, cur, hv, hb, hr⟩⟩
  · exact ⟨hl, .inl h⟩
  · exact ⟨hl, .inr ⟨g, cap, cur, hv, Nat.le_trans hB hb, hr⟩⟩
theorem own_turned {w w' : World} {lo hi B : Nat} {e : TypeId} {size : Nat} {v : Value} {n : Nat} {xs : List Value} (h : w.ownsRow B e size v n xs) (t : Turned lo hi w w') (hd : hi ≤ B) : w'.ownsRow B e size v n xs := by
  rcases h with ⟨hl, h | ⟨g, cap, cur, hv, hb, hh, hr⟩⟩
  · exact ⟨hl, .inl h⟩
  · exact ⟨hl, .inr ⟨g, cap, cur, hv, hb, (t.block g (heap_lt hh) (.inr (by omega))).trans hh, hr⟩⟩
def IntsOwnPost (w : World) (l : List Int) (e : Ending) (w' : World) : Prop :=
  ∃ a c, e = .returned (.slice a l.length c) ∧ w'.ownsRow w.heap.size 3 1 (.slice a l.length c) l.length (M.encIs l) ∧ Below w.heap.size w w'
def DoorsOwnPost (w : World) (l : List M.Dr) (e : Ending) (w' : World) : Prop :=
  ∃ a c, e = .returned (.slice a l.length c) ∧ w'.ownsRow w.heap.size 97 3 (.slice a l.length c) l.length (M.encDs l) ∧ Below w.heap.size w w'
theorem intsOwn_end {w w' : World} {l : List Int} {v : Value} (h : w'.ownsRow w.heap.size 3 1 v l.length (M.encIs l)) (hb : Below w.heap.size w w') : IntsOwnPost w l (.returned v) w' := by
  have h0 := h
  obtain ⟨a, c, rfl, _, _, _⟩ := own_slice h
  exact ⟨a, c, rfl, h0, hb⟩
theorem doorsOwn_end {w w' : World} {l : List M.Dr} {v : Value} (h : w'.ownsRow w.heap.size 97 3 v l.length (M.encDs l)) (hb : Below w.heap.size w w') : DoorsOwnPost w l (.returned v) w' := by
  have h0 := h
  obtain ⟨a, c, rfl, _, _, _⟩ := own_slice h
  exact ⟨a, c, rfl, h0, hb⟩
theorem cloneInts_own (w : World) (lo hi : Nat) (a : Option Addr) (c : Nat) (l : List Int) (h : RowIn lo hi w a (M.encIs l)) (hz : hi ≤ w.heap.size) (hl : l.length ≤ 1048576) :
    Calls Try.prog 90 #[.slice a l.length c] w (IntsOwnPost w l) := by
  obtain ⟨i0, hi0, hz0, hz1, hz2⟩ := info_parts infoI
  have H := Lib.hid h
  clear h
  have ho := ownsRow_empty w w.heap.size 3 1 (Nat.le_refl _)
  have HO := Lib.hid ho
  clear ho
  rcases a with _ | ad
  · obtain rfl : l = [] := by
      rcases H.out with h | ⟨b, off, e, _⟩
      · exact List.eq_nil_of_length_eq_zero (by rw [← M.encIs_len, h]; rfl)
      · cases e
    have hq := fun W => Lib.run_eql_slice_nil (P := Try.prog) W 23 3 none 0 c 0 0 Try.underlying23
    go_enter Try.func90, Try.ntmps90
    go_wp2_with fail
    go_ret
    exact intsOwn_end (l := []) (World.ownsRow_nil _ _ _ _) (Below.refl _ _)
  · have hcells : ∀ j u, (M.encIs l)[j]? = some u → (w.alloc (.cells #[] 3)).cell? (ad.add j) = some u := by
      intro j u hu
      rcases H.out with h | ⟨b, off, e, _, hb, hc⟩
      · rw [h] at hu; simp at hu
      · injection e with e
        subst e
        have hadd : (⟨b, off, none⟩ : Addr).add j = ⟨b, off + j, none⟩ := by
          unfold Addr.add
          split
          · rename_i h; subst h; rfl
          · rfl
        rw [hadd]
        exact (World.cell?_alloc_lt w _ _ (show b < _ by omega)).trans (hc j u hu)
    have HC := Lib.hid hcells
    clear hcells
    have hq := fun W => Lib.run_eql_slice_nil (P := Try.prog) W 23 3 (some ad) l.length c 0 0 Try.underlying23
    go_enter Try.func90, Try.ntmps90
    go_wp2_with (at_builtin; refine wpList_append_own _ rfl _ _ 23 rfl w.heap.size 3 i0 (.int .i64 0) 1 8 Try.underlying23 hi0 hz0 hz1 hz2 rfl (by decide) _ _ _ rfl HO.out ad l.length c (M.encIs l) rfl (by rw [M.encIs_len, Nat.mul_one]) HC.out (fun x hx => by unfold M.encIs at hx; obtain ⟨z, _, rfl⟩ := List.mem_map.1 hx; rfl) (by unfold maxLen; omega) (by omega) (by simp) ?_; intro v' w3 hown' hgrow3 hnil3)
    go_ret
    refine intsOwn_end (by simpa using hown') ((below_alloc _ _).grown hgrow3 (by simp) (own_base HO.out))
theorem cloneDoors_own (w : World) (lo hi : Nat) (a : Option Addr) (c : Nat) (l : List M.Dr) (h : RowIn lo hi w a (M.encDs l)) (hz : hi ≤ w.heap.size) (hl : l.length ≤ 1048576) :
    Calls Try.prog 122 #[.slice a l.length c] w (DoorsOwnPost w l) := by
  obtain ⟨i0, hi0, hz0, hz1, hz2⟩ := info_parts infoD
  have H := Lib.hid h
  clear h
  have ho := ownsRow_empty w w.heap.size 97 3 (Nat.le_refl _)
  have HO := Lib.hid ho
  clear ho
  rcases a with _ | ad
  · obtain rfl : l = [] := by
      rcases H.out with h | ⟨b, off, e, _⟩
      · exact List.eq_nil_of_length_eq_zero (by have := M.encDs_len l; rw [h] at this; simp at this; omega)
      · cases e
    have hq := fun W => Lib.run_eql_slice_nil (P := Try.prog) W 22 97 none 0 c 0 0 Try.underlying22
    go_enter Try.func122, Try.ntmps122
    go_wp2_with fail
    go_ret
    exact doorsOwn_end (l := []) (World.ownsRow_nil _ _ _ _) (Below.refl _ _)
  · have hcells : ∀ j u, (M.encDs l)[j]? = some u → (w.alloc (.cells #[] 97)).cell? (ad.add j) = some u := by
      intro j u hu
      rcases H.out with h | ⟨b, off, e, _, hb, hc⟩
      · rw [h] at hu; simp at hu
      · injection e with e
        subst e
        have hadd : (⟨b, off, none⟩ : Addr).add j = ⟨b, off + j, none⟩ := by
          unfold Addr.add
          split
          · rename_i h; subst h; rfl
          · rfl
        rw [hadd]
        exact (World.cell?_alloc_lt w _ _ (show b < _ by omega)).trans (hc j u hu)
    have HC := Lib.hid hcells
    clear hcells
    have hq := fun W => Lib.run_eql_slice_nil (P := Try.prog) W 22 97 (some ad) l.length c 0 0 Try.underlying22
    go_enter Try.func122, Try.ntmps122
    go_wp2_with (at_builtin; refine wpList_append_own _ rfl _ _ 22 rfl w.heap.size 97 i0 (.agg #[.int .i64 0, .int .i64 0, .int .i64 0]) 3 24 Try.underlying22 hi0 hz0 hz1 hz2 rfl (by decide) _ _ _ rfl HO.out ad l.length c (M.encDs l) rfl (M.encDs_len l) HC.out (encDs_one l) (by unfold maxLen; omega) (by omega) (by simp) ?_; intro v' w3 hown' hgrow3 hnil3)
    go_ret
    refine doorsOwn_end (by simpa using hown') ((below_alloc _ _).grown hgrow3 (by simp) (own_base HO.out))
/-- a maze in rows that the call owns -/
def MzRowPost (w : World) (m : M.Mz) (e : Ending) (w' : World) : Prop :=
  ∃ a c b d, e = .returned (.agg #[.int .i64 m.size, .slice a m.doors.length c, .slice b m.keys.length d]) ∧ w'.ownsRow w.heap.size 97 3 (.slice a m.doors.length c) m.doors.length (M.encDs m.doors) ∧ w'.ownsRow w.heap.size 3 1 (.slice b m.keys.length d) m.keys.length (M.encIs m.keys) ∧ Below w.heap.size w w'
theorem mzr_end {w w3 : World} {m : M.Mz} {da ia : Option Addr} {dc ic : Nat} {u0 u1 u2 : Value} (hB : Below w.heap.size w w3)
    (p1 : w3.ownsRow (w.heap.size + 1 + 1) 97 3 (.slice da m.doors.length dc) m.doors.length (M.encDs m.doors)) (p2 : w3.ownsRow (w.heap.size + 1 + 1) 3 1 (.slice ia m.keys.length ic) m.keys.length (M.encIs m.keys)) (hz : w.heap.size + 1 < w3.heap.size) :
    MzRowPost w m (.returned (.agg #[.int .i64 m.size, .slice da m.doors.length dc, .slice ia m.keys.length ic])) (((w3.setCell ⟨w.heap.size + 1, 0, none⟩ u0).setCell ⟨w.heap.size + 1, 1, none⟩ u1).setCell ⟨w.heap.size + 1, 2, none⟩ u2) := by
  have hT : Turned (w.heap.size + 1) (w.heap.size + 1 + 1) w3 (((w3.setCell ⟨w.heap.size + 1, 0, none⟩ u0).setCell ⟨w.heap.size + 1, 1, none⟩ u1).setCell ⟨w.heap.size + 1, 2, none⟩ u2) :=
    ((Turned.setCell _ _ _ _ (by omega) (by omega)).trans (Turned.setCell _ _ _ _ (by omega) (by omega))).trans (Turned.setCell _ _ _ _ (by omega) (by omega))
  exact ⟨_, _, _, _, rfl, own_weaken (own_turned p1 hT (Nat.le_refl _)) (by omega), own_weaken (own_turned p2 hT (Nat.le_refl _)) (by omega), Below.thenTurned hB hT (by omega) (by omega)⟩
theorem clone_row (w : World) (lo hi : Nat) (m : M.Mz) (a b : Option Addr) (c d : Nat) (h : MzIn lo hi w m a c b d) (hz : hi ≤ w.heap.size) (h1 : m.doors.length ≤ 1048576) (h2 : m.keys.length ≤ 1048576) :
    Calls Try.prog 94 #[.agg #[.int .i64 m.size, .slice a m.doors.length c, .slice b m.keys.length d]] w (MzRowPost w m) := by
  have H := Lib.hid h
  clear h
  go_enter Try.func94, Try.ntmps94
  go_wp2_with fail
  refine wp_named ?_
  intro W hW
  have hb : Below w.heap.size w W := by rw [hW]; exact ((Below.refl _ _).alloc (Nat.le_refl _) _).alloc (by simp) _
  have x1 : Box3 W w.heap.size 27 (.int .i64 m.size) (.slice a m.doors.length c) (.slice b m.keys.length d) := by rw [hW]; exact (Box3.new _ _ _ _ rfl).alloc _
  have x2 : Box3 W (w.heap.size + 1) 27 (.int .i64 0) (.slice none 0 0) (.slice none 0 0) := by rw [hW]; exact Box3.new _ _ _ _ (by simp)
  clear hW
  have hzw := hb.size
  have hz1 := x2.lt
  have X1 := Lib.hid x1
  have X2 := Lib.hid x2
  have HB := Lib.hid hb
  obtain ⟨c0, c1, c2⟩ := x1.cells
  obtain ⟨f0, f1, f2⟩ := x2.free
  have CD := Lib.hid (fun W' (hq : Below W.heap.size W W') => cloneDoors_own W' lo hi a c m.doors (H.out.doors.below (hb.trans (hq.mono hzw)) hz) (Nat.le_trans hz (Nat.le_trans hzw hq.size)) h1)
  have CI := Lib.hid (fun W' (hq : Below W.heap.size W W') => cloneInts_own W' lo hi b d m.keys (H.out.keys.below (hb.trans (hq.mono hzw)) hz) (Nat.le_trans hz (Nat.le_trans hzw hq.size)) h2)
  clear x1 x2 hb
  go_region_held3 (fun wq => wq.cell? ⟨w.heap.size, 0, none⟩ = some (.int .i64 m.size) ∧ wq.cell? ⟨w.heap.size, 1, none⟩ = some (.slice a m.doors.length c) ∧ wq.cell? ⟨w.heap.size, 2, none⟩ = some (.slice b m.keys.length d)) (first | exact ⟨d0, d1, d2⟩ | go_keep) (first
    | (go_at_call 122
       first
       | (refine (CD.out _ hbq).mono ?_; rintro e w3 ⟨da, dc, rfl, od, hb3⟩; have hbr := hbq.trans (hb3.mono hbq.size); obtain ⟨d0, d1, d2⟩ := (X1.out.below hbr).cells; obtain ⟨g0, g1, g2⟩ := (X2.out.below hbr).free; obtain ⟨k0, k1, k2⟩ := (X2.out.below hbr).cells)
       | (refine (CD.out _ (Below.refl W.heap.size W).drew).mono ?_; rintro e w2 ⟨da, dc, rfl, od, hb2⟩; have hbq : Below W.heap.size W w2 := (Below.refl W.heap.size W).drew.trans hb2; obtain ⟨d0, d1, d2⟩ := (X1.out.below hbq).cells; obtain ⟨g0, g1, g2⟩ := (X2.out.below hbq).free; obtain ⟨k0, k1, k2⟩ := (X2.out.below hbq).cells))
    | (go_at_call 90
       first
       | (refine (CI.out _ hbq).mono ?_; rintro e w3 ⟨ia, ic, rfl, oi, hb3⟩; have hbr := hbq.trans (hb3.mono hbq.size); obtain ⟨d0, d1, d2⟩ := (X1.out.below hbr).cells; obtain ⟨g0, g1, g2⟩ := (X2.out.below hbr).free; obtain ⟨k0, k1, k2⟩ := (X2.out.below hbr).cells)
       | (refine (CI.out _ (Below.refl W.heap.size W).drew).mono ?_; rintro e w2 ⟨ia, ic, rfl, oi, hb2⟩; have hbq : Below W.heap.size W w2 := (Below.refl W.heap.size W).drew.trans hb2; obtain ⟨d0, d1, d2⟩ := (X1.out.below hbq).cells; obtain ⟨g0, g1, g2⟩ := (X2.out.below hbq).free; obtain ⟨k0, k1, k2⟩ := (X2.out.below hbq).cells)))
  all_goals
    have hdz : W.drew.heap.size = W.heap.size := rfl
    have hzq := hbq.size
    have hz3 := hb3.size
    have p1 : Hid (w3.ownsRow (w.heap.size + 1 + 1) 97 3 (.slice da m.doors.length dc) m.doors.length (M.encDs m.doors)) := by
      first
      | exact Lib.hid (own_weaken (own_below od hb3) (by omega))
      | exact Lib.hid (own_weaken od (by omega))
    have p2 : Hid (w3.ownsRow (w.heap.size + 1 + 1) 3 1 (.slice ia m.keys.length ic) m.keys.length (M.encIs m.keys)) := by
      first
      | exact Lib.hid (own_weaken (own_below oi hb3) (by omega))
      | exact Lib.hid (own_weaken oi (by omega))
    have hBW := Lib.hid (HB.out.trans (hbr.mono hzw))
    clear od oi hbq hb3 hbr
    go_wp2_with fail
    refine bodyPost_ret (v := .agg #[.int .i64 m.size, .slice da m.doors.length dc, .slice ia m.keys.length ic]) (by simp [results, Try.results94, go_sem, k0, k1, k2]) rfl ?_
    exact mzr_end hBW.out p1.out p2.out (by omega)
end C
end Go.Proofs.Ytddpjjdncmokmaa
