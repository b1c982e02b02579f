/-
  CONTRACT of spec.l2Own, a maze's copy, with no doors. Condition: at most 1048576 doors and keys.
  CONTRACT of spec.l2Own, a maze's copy, in full. Condition: at most 1048576 doors and keys.
  CLOSED FACTS on arrays of two and three numbers: '==', a slice turned to an array. No condition.
  MATHEMATICS of sorting doors, own to these proofs: a list sorted has the same members, and ascends where none stands twice; what numbering and painting make of doors. No condition.
  CONTRACT of spec.l1Has: whether a number is in a list; memory stays. Condition: the list reads so.
  WORDS for a maze handed back from the result's own box: the maze, or the empty one and false. No condition.
  MATHEMATICS of mazes without a part, own to these proofs: without the doors at a node, without a colour, without the keys at a node: a valid maze stays one. No condition.
  CONTRACTS of impl.SetOf and spec.SetOf: both hand back the set of a list of colours, or fail at another number; the world is as it was. Condition: a list of at most 1048576 numbers.
  MATHEMATICS of clutters, own to these proofs: the least ones of some sets of colours, as the program keeps them of a sorted list and as the model picks them. No condition.
  WORDS for a struct of two fields in a block of its own, own to these proofs. No condition.
  LAW for a region that draws its order, own to these proofs: loads may be taken first under a condition S on the world that the region's last writers need not keep: a writer waits for each operation that is taken so. No condition.
  WORDS for steps of drawn regions and for boxes beside rows, own to these proofs. No condition.
  LAW for a region that draws its order, own to these proofs: where two operations may come up. No condition.
  WORDS for a maze that is handed back out of a box at any place of the call's own, own to these proofs. No condition.
  MATHEMATICS, own to these proofs: a list whose first k elements are replaced. No condition.
  CONTRACTS of slices.Clone at numbers and doors and of impl.Maze.clone: rows that the call owns and that may grow; what lay in memory stays. Condition: at most 1048576 elements.
  CONTRACT of spec.l1Own: a copy in a row of the call's own that may grow; what lay in memory stays. Condition: at most 1048576 numbers.
-/
import Derived.Test.YtbcobheiofajeaaWBReachMath
import Derived.Deep.RegionLaw
import Derived.Test.YtbcobheiofajeaaWAMem
import Derived.Laws.StructEq
import Derived.ProofKit
import Derived.OrdersHeld
import Derived.Deep.RegionHeld
import Derived.Deep.RegionHeld3
import Derived.OwnWalk
import Derived.WalkKit
namespace Go.Proofs.Ytbcobheiofajeaa
open Go.RowKit
namespace C
set_option maxHeartbeats 32000000
set_option maxRecDepth 20000
theorem mz_end0 {w w3 : World} {m : M.Mz} {g : Addr} {ia : Option Addr} {ic : Nat} {u0 u1 u2 : Value} (hB : Below w.heap.size w w3) (hd1 : M.encDs m.doors = []) (hd0 : m.doors.length = 0)
    (p2 : OwnAt (w.heap.size + 1 + 1) w3.heap.size w3 3 ia (M.encIs m.keys))
    (q3 : m.keys.length ≤ ic) (q4 : ic ≤ 9223372036854775807) (hz : w.heap.size + 1 < w3.heap.size) :
    MzPost w m (.returned (.agg #[.int .i64 m.size, .slice (some g) 0 0, .slice ia m.keys.length ic])) (((w3.setCell ⟨w.heap.size + 1, 0, none⟩ u0).setCell ⟨w.heap.size + 1, 1, none⟩ u1).setCell ⟨w.heap.size + 1, 2, none⟩ u2) := by
  have := mz_end (u0 := u0) (u1 := u1) (u2 := u2) (da := some g) (dc := 0) hB (by rw [hd1]; exact OwnAt.nil _ _ _ _ _) p2 (by omega) (by omega) q3 q4 hz
  rwa [hd0] at this
theorem l2Own_none (w : World) (lo hi : Nat) (m : M.Mz) (b : Option Addr) (c d : Nat) (h : MzIn lo hi w m none c b d) (hz : hi ≤ w.heap.size) (_h1 : m.doors.length ≤ 1048576) (h2 : m.keys.length ≤ 1048576) :
    Calls Try.prog 85 #[.agg #[.int .i64 m.size, .slice none m.doors.length c, .slice b m.keys.length d]] w (MzPost w m) := by
  obtain ⟨i0, hi0, hz0, hz1, hz2⟩ := info_parts infoD
  have H := Lib.hid h
  clear h
  obtain ⟨hd0, hd1⟩ : m.doors.length = 0 ∧ M.encDs m.doors = [] := by
    rcases H.out.doors with h | ⟨b, off, e, _⟩
    · exact ⟨by have := M.encDs_len m.doors; rw [h] at this; simp at this; omega, h⟩
    · cases e
  have hrun := run_app_nil0 (P := Try.prog) 49 49 103 i0 Try.underlying49 hi0
  have HD1 := Lib.hid hd1
  have HL1 := Lib.hid hd0
  clear hd1
  rw [hd0]
  go_enter Try.func85, Try.ntmps85
  go_wp2_with fail
  refine wp_named ?_
  intro W hW
  have hb : Below w.heap.size w W := by rw [hW]; exact ((Below.refl _ _).alloc (Nat.le_refl _) _).alloc (by simp) _
  have x1 : Box3 W w.heap.size 55 (.int .i64 m.size) (.slice none 0 c) (.slice b m.keys.length d) := by rw [hW]; exact (Box3.new _ _ _ _ rfl).alloc _
  have x2 : Box3 W (w.heap.size + 1) 55 (.int .i64 0) (.slice none 0 0) (.slice none 0 0) := by rw [hW]; exact Box3.new _ _ _ _ (by simp)
  clear hW
  have hzw := hb.size
  have hz1 := x2.lt
  have hz0' := x1.lt
  have X1 := Lib.hid x1
  have X2 := Lib.hid x2
  have HB := Lib.hid hb
  obtain ⟨c0, c1, c2⟩ := x1.cells
  obtain ⟨f0, f1, f2⟩ := x2.free
  have OI := Lib.hid (fun W' (hq : Below W.heap.size W W') => l1Own_any W' lo hi b d m.keys (H.out.keys.below (hb.trans (hq.mono hzw)) hz) (Nat.le_trans hz (Nat.le_trans hzw hq.size)) h2)
  clear x1 x2 hb
  go_region_held3 (fun wq => wq.cell? ⟨w.heap.size, 0, none⟩ = some (.int .i64 m.size) ∧ wq.cell? ⟨w.heap.size, 1, none⟩ = some (.slice none 0 c) ∧ wq.cell? ⟨w.heap.size, 2, none⟩ = some (.slice b m.keys.length d)) (first | exact ⟨d0, d1, d2⟩ | go_keep) (first
    | (go_at_call 102
       first
       | (refine (OI.out _ (Below.refl W.heap.size W).drew).mono ?_; rintro e w2 ⟨ia, ic, rfl, oi, qi1, qi2, hb2⟩; have hbq : Below W.heap.size W w2 := (Below.refl W.heap.size W).drew.trans hb2; obtain ⟨d0, d1, d2⟩ := (X1.out.below hbq).cells; obtain ⟨g0, g1, g2⟩ := (X2.out.below hbq).free; obtain ⟨k0, k1, k2⟩ := (X2.out.below hbq).cells; have hn1 := (X1.out.below hbq).lt; have hn2 := (X2.out.below hbq).lt)
       | (refine (OI.out _ ((Below.refl W.heap.size W).drew.alloc (Nat.le_refl _) _)).mono ?_; rintro e w2 ⟨ia, ic, rfl, oi, qi1, qi2, hb2⟩; have hbq : Below W.heap.size W w2 := ((Below.refl W.heap.size W).drew.alloc (Nat.le_refl _) _).trans (hb2.mono (by simp)); obtain ⟨d0, d1, d2⟩ := (X1.out.below hbq).cells; obtain ⟨g0, g1, g2⟩ := (X2.out.below hbq).free; obtain ⟨k0, k1, k2⟩ := (X2.out.below hbq).cells; have hn1 := (X1.out.below hbq).lt; have hn2 := (X2.out.below hbq).lt)))
  all_goals
    have hBW := Lib.hid (HB.out.trans (hbq.mono hzw))
    have hs2 := hbq.size
    have hl0 := HL1.out
    go_wp2_with fail
    first
    | (refine bodyPost_ret (v := .agg #[.int .i64 m.size, .slice (some ⟨W.heap.size, 0, none⟩) 0 0, .slice ia m.keys.length ic]) (by simp [results, Try.results85, go_sem, k0, k1, k2]) rfl ?_
       exact mz_end0 hBW.out HD1.out HL1.out (oi.mono (by first | omega | (simp; omega)) (Nat.le_refl _)) qi1 qi2 (by omega))
    | (obtain ⟨kk0, kk1, kk2⟩ := ((X2.out.below hbq).alloc (.cells #[] 103)).cells
       refine bodyPost_ret (v := .agg #[.int .i64 m.size, .slice (some ⟨w2.heap.size, 0, none⟩) 0 0, .slice ia m.keys.length ic]) (by simp [results, Try.results85, go_sem, kk0, kk1, kk2]) rfl ?_
       exact mz_end0 (hBW.out.alloc (by omega) _) HD1.out HL1.out ((oi.below (below_alloc _ _) (Nat.le_refl _)).mono (by first | omega | (simp; omega)) (by simp)) qi1 qi2 (by simp; omega))
end C
end Go.Proofs.Ytbcobheiofajeaa
namespace Go.Proofs.Ytbcobheiofajeaa
open Go.RowKit
namespace C
set_option maxHeartbeats 32000000
set_option maxRecDepth 20000
theorem step_append_own {P : Program} {w : World} {ops : Array Oper} {o : Oper} {a : Act} {K : Act → World → Prop} {Q : Exit → Act → World → Prop} {E : Prop} (hgd : o.guard = none) (s x : Operand) (t : TypeId)
    (ho : o.op = .call { callee := .builtin .append, args := #[s, x], argTypes := #[t, t] })
    (base : Nat) (e : TypeId) (i : TypeInfo) (z : Value) (size bytes : Nat) (ht : P.underlying t = some (.slice e)) (hi : P.info? e = some i) (hz : i.zero = some z)
    (hsize : i.size = size) (hby : i.bytes = bytes) (hzs : z.cells.size = size) (hsz : 0 < size)
    (v : Value) (n : Nat) (xs : List Value) (hown : w.ownsRow base e size v n xs) (hs : a.eval s = v)
    (ad : Addr) (m c : Nat) (news : List Value) (hx : a.eval x = .slice (some ad) m c) (hl : news.length = m * size) (hnews : ∀ j u, news[j]? = some u → w.cell? (ad.add j) = some u) (h1 : ∀ u ∈ news, u.oneCell' = true)
    (h63 : n + m ≤ maxLen) (hbytes : (n + m) * bytes ≤ 140737488355328) (hbase : base ≤ w.heap.size)
    (h : ∀ v' w', w'.ownsRow base e size v' (n + m) (xs ++ news) → w.grownBy w' v.ownBlock → (v' = .slice none 0 0 ↔ v = .slice none 0 0 ∧ m = 0) → K (a.put o.dst v') w') :
    if Region.wanted o (yielded ops a.tmps) = true then Oper.wp P o a w K Q else E := by
  have hw : Region.wanted o (yielded ops a.tmps) = true := by simp [Region.wanted, hgd]
  rw [if_pos hw]
  exact wp_append_own w s x t ho base e i z size bytes ht hi hz hsize hby hzs hsz v n xs hs hown ad m c news hx hl hnews h1 h63 hbytes hbase h
theorem l2Own_some (w : World) (lo hi : Nat) (m : M.Mz) (ad : Addr) (b : Option Addr) (c d : Nat) (h : MzIn lo hi w m (some ad) c b d) (hz : hi ≤ w.heap.size) (h1 : m.doors.length ≤ 1048576) (h2 : m.keys.length ≤ 1048576) :
    Calls Try.prog 85 #[.agg #[.int .i64 m.size, .slice (some ad) m.doors.length c, .slice b m.keys.length d]] w (MzPost w m) := by
  obtain ⟨i0, hi0, hz0, hz1, hz2⟩ := info_parts infoD
  have H := Lib.hid h
  clear h
  have hcells : ∀ W' (hq : Below w.heap.size w W') j u, (M.encDs m.doors)[j]? = some u → W'.cell? (ad.add j) = some u := by
    intro W' hq j u hu
    rcases H.out.doors with h | ⟨b, off, e, _, hb, hc⟩
    · rw [h] at hu; simp at hu
    · injection e with e
      subst e
      have hadd : (⟨b, off, none⟩ : Addr).add j = ⟨b, off + j, none⟩ := by
        unfold Addr.add
        split
        · rename_i h; subst h; rfl
        · rfl
      rw [hadd]
      exact (hq.cell (p := ⟨b, off + j, none⟩) (show b < _ by omega)).trans (hc j u hu)
  have HC := Lib.hid hcells
  clear hcells
  go_enter Try.func85, Try.ntmps85
  go_wp2_with fail
  refine wp_named ?_
  intro W hW
  have hb : Below w.heap.size w W := by rw [hW]; exact ((Below.refl _ _).alloc (Nat.le_refl _) _).alloc (by simp) _
  have x1 : Box3 W w.heap.size 55 (.int .i64 m.size) (.slice (some ad) m.doors.length c) (.slice b m.keys.length d) := by rw [hW]; exact (Box3.new _ _ _ _ rfl).alloc _
  have x2 : Box3 W (w.heap.size + 1) 55 (.int .i64 0) (.slice none 0 0) (.slice none 0 0) := by rw [hW]; exact Box3.new _ _ _ _ (by simp)
  clear hW
  have hzw := hb.size
  have hzx := x2.lt
  have hz0' := x1.lt
  have X1 := Lib.hid x1
  have X2 := Lib.hid x2
  have HB := Lib.hid hb
  obtain ⟨c0, c1, c2⟩ := x1.cells
  obtain ⟨f0, f1, f2⟩ := x2.free
  have OI := Lib.hid (fun W' (hq : Below W.heap.size W W') => l1Own_any W' lo hi b d m.keys (H.out.keys.below (hb.trans (hq.mono hzw)) hz) (Nat.le_trans hz (Nat.le_trans hzw hq.size)) h2)
  have hdz : W.drew.heap.size = W.heap.size := rfl
  clear x1 x2
  go_region_held3 (fun wq => wq.cell? ⟨w.heap.size, 0, none⟩ = some (.int .i64 m.size) ∧ wq.cell? ⟨w.heap.size, 1, none⟩ = some (.slice (some ad) m.doors.length c) ∧ wq.cell? ⟨w.heap.size, 2, none⟩ = some (.slice b m.keys.length d)) (first | exact ⟨d0, d1, d2⟩ | go_keep) (first
    | (go_at_call 102
       first
       | (refine (OI.out _ hba).mono ?_; rintro e w9 ⟨ia, ic, rfl, oi, qi1, qi2, hb2⟩; have hbr : Below W.heap.size W w9 := hba.trans (hb2.mono hba.size); have hs2 := hba.size; have hs9 := hb2.size; have p1 : Hid (OwnAt (w.heap.size + 1 + 1) w9.heap.size w9 103 da (M.encDs m.doors)) := Lib.hid ((od.below hb2 (Nat.le_refl _)).mono (by omega) (by omega)); have p2 : Hid (OwnAt (w.heap.size + 1 + 1) w9.heap.size w9 3 ia (M.encIs m.keys)) := Lib.hid (oi.mono (by omega) (by omega)); obtain ⟨d0, d1, d2⟩ := (X1.out.below hbr).cells; obtain ⟨g0, g1, g2⟩ := (X2.out.below hbr).free; obtain ⟨k0, k1, k2⟩ := (X2.out.below hbr).cells; have hn1 := (X1.out.below hbr).lt; have hn2 := (X2.out.below hbr).lt)
       | (refine (OI.out _ ((Below.refl W.heap.size W).drew.alloc (Nat.le_refl _) _)).mono ?_; rintro e w2 ⟨ia, ic, rfl, oi, qi1, qi2, hb2⟩; have hbq : Below W.heap.size W w2 := ((Below.refl W.heap.size W).drew.alloc (Nat.le_refl _) _).trans (hb2.mono (by simp)); have hown2 := own_below (ownsRow_empty W.drew W.heap.size 103 3 (Nat.le_refl _)) hb2; have hs2 := hbq.size; obtain ⟨d0, d1, d2⟩ := (X1.out.below hbq).cells; obtain ⟨g0, g1, g2⟩ := (X2.out.below hbq).free; obtain ⟨k0, k1, k2⟩ := (X2.out.below hbq).cells; have hn1 := (X1.out.below hbq).lt; have hn2 := (X2.out.below hbq).lt)
       | (refine (OI.out _ ((Below.refl W.heap.size W).drew)).mono ?_; rintro e w2 ⟨ia, ic, rfl, oi, qi1, qi2, hb2⟩; have hbq : Below W.heap.size W w2 := ((Below.refl W.heap.size W).drew).trans hb2; have hs2 := hbq.size; obtain ⟨d0, d1, d2⟩ := (X1.out.below hbq).cells; obtain ⟨g0, g1, g2⟩ := (X2.out.below hbq).free; obtain ⟨k0, k1, k2⟩ := (X2.out.below hbq).cells; have hn1 := (X1.out.below hbq).lt; have hn2 := (X2.out.below hbq).lt))
    | (first
       | (refine step_append_own rfl (.tmp 5) (.tmp 7) 49 rfl W.heap.size 103 i0 (.agg #[.int .i64 0, .int .i64 0, .int .i64 0]) 3 24 Try.underlying49 hi0 hz0 hz1 hz2 rfl (by decide) _ _ _ hown2 (by simp [Act.eval, Act.put]) ad m.doors.length c (M.encDs m.doors) (by simp [Act.eval, Act.put]) (M.encDs_len _) (HC.out _ (hb.trans (hbq.mono hzw))) (encDs_one _) (by unfold maxLen; omega) (by omega) (by first | (simp; done) | (have := hbq.size; omega)) ?_; intro v' w9 hown' hgrow' hnil'; obtain ⟨da, dc, rfl, qd1, qd2, od⟩ := own_slice (show C.ownsNow w9 W.heap.size v' m by unfold C.ownsNow; simpa using hown'); have hbr : Below W.heap.size W w9 := hbq.grown hgrow' hs2 (own_base hown2); have hs9 := hbr.size; have hg9 := hgrow'.size; have p1 : Hid (OwnAt (w.heap.size + 1 + 1) w9.heap.size w9 103 da (M.encDs m.doors)) := Lib.hid (od.mono (by omega) (by omega)); have p2 : Hid (OwnAt (w.heap.size + 1 + 1) w9.heap.size w9 3 ia (M.encIs m.keys)) := Lib.hid ((oi.turned (turned_of_grown hgrow' rfl) (Nat.le_refl _) (.inr (by simp))).mono (by first | omega | (simp; omega)) (by omega)); obtain ⟨d0, d1, d2⟩ := (X1.out.below hbr).cells; obtain ⟨g0, g1, g2⟩ := (X2.out.below hbr).free; obtain ⟨k0, k1, k2⟩ := (X2.out.below hbr).cells; have hn1 := (X1.out.below hbr).lt; have hn2 := (X2.out.below hbr).lt)
       | (refine step_append_own rfl (.tmp 5) (.tmp 7) 49 rfl w2.heap.size 103 i0 (.agg #[.int .i64 0, .int .i64 0, .int .i64 0]) 3 24 Try.underlying49 hi0 hz0 hz1 hz2 rfl (by decide) _ _ _ (ownsRow_empty w2 w2.heap.size 103 3 (Nat.le_refl _)) (by simp [Act.eval, Act.put]) ad m.doors.length c (M.encDs m.doors) (by simp [Act.eval, Act.put]) (M.encDs_len _) (HC.out _ ((hb.trans (hbq.mono hzw)).alloc (by omega) _)) (encDs_one _) (by unfold maxLen; omega) (by omega) (by first | (simp; done) | (have := hbq.size; omega)) ?_; intro v' w9 hown' hgrow' hnil'; obtain ⟨da, dc, rfl, qd1, qd2, od⟩ := own_slice (show C.ownsNow w9 w2.heap.size v' m by unfold C.ownsNow; simpa using hown'); have hb9 : Below w2.heap.size w2 w9 := (below_alloc w2 _).grown hgrow' (by simp) (own_base (ownsRow_empty w2 w2.heap.size 103 3 (Nat.le_refl _))); have hs9 := hb9.size; have hbr : Below W.heap.size W w9 := hbq.trans (hb9.mono hs2); have p1 : Hid (OwnAt (w.heap.size + 1 + 1) w9.heap.size w9 103 da (M.encDs m.doors)) := Lib.hid (od.mono (by omega) (by omega)); have p2 : Hid (OwnAt (w.heap.size + 1 + 1) w9.heap.size w9 3 ia (M.encIs m.keys)) := Lib.hid ((oi.below hb9 (Nat.le_refl _)).mono (by first | omega | (simp; omega)) (by omega)); obtain ⟨d0, d1, d2⟩ := (X1.out.below hbr).cells; obtain ⟨g0, g1, g2⟩ := (X2.out.below hbr).free; obtain ⟨k0, k1, k2⟩ := (X2.out.below hbr).cells; have hn1 := (X1.out.below hbr).lt; have hn2 := (X2.out.below hbr).lt)
       | (refine step_append_own rfl (.tmp 5) (.tmp 7) 49 rfl W.heap.size 103 i0 (.agg #[.int .i64 0, .int .i64 0, .int .i64 0]) 3 24 Try.underlying49 hi0 hz0 hz1 hz2 rfl (by decide) _ _ _ (ownsRow_empty W.drew W.heap.size 103 3 (Nat.le_refl _)) (by simp [Act.eval]) ad m.doors.length c (M.encDs m.doors) (by simp [Act.eval]) (M.encDs_len _) (HC.out _ (hb.trans (((Below.refl W.heap.size W).drew.alloc (Nat.le_refl _) _).mono hzw))) (encDs_one _) (by unfold maxLen; omega) (by omega) (by first | (simp; done) | (have := hbq.size; omega)) ?_; intro v' w2 hown' hgrow' hnil'; obtain ⟨da, dc, rfl, qd1, qd2, od⟩ := own_slice (show C.ownsNow w2 W.heap.size v' m by unfold C.ownsNow; simpa using hown'); have hba : Below W.heap.size W w2 := ((Below.refl W.heap.size W).drew.alloc (Nat.le_refl _) _).grown hgrow' (by simp) (own_base (ownsRow_empty W.drew W.heap.size 103 3 (Nat.le_refl _))); obtain ⟨d0, d1, d2⟩ := (X1.out.below hba).cells; obtain ⟨g0, g1, g2⟩ := (X2.out.below hba).free; obtain ⟨k0, k1, k2⟩ := (X2.out.below hba).cells; have hn1 := (X1.out.below hba).lt; have hn2 := (X2.out.below hba).lt)))
  all_goals
    have hBW := Lib.hid (HB.out.trans (hbr.mono hzw))
    have hsr := hbr.size
    go_wp2_with fail
    refine bodyPost_ret (v := .agg #[.int .i64 m.size, .slice da m.doors.length dc, .slice ia m.keys.length ic]) (by simp [results, Try.results85, go_sem, k0, k1, k2]) rfl ?_
    exact mz_end hBW.out p1.out p2.out qd1 qd2 qi1 qi2 (by omega)
theorem l2Own_any (w : World) (lo hi : Nat) (m : M.Mz) (a b : Option Addr) (c d : Nat) (h : MzIn lo hi w m a c b d) (hz : hi ≤ w.heap.size) (h1 : m.doors.length ≤ 1048576) (h2 : m.keys.length ≤ 1048576) :
    Calls Try.prog 85 #[.agg #[.int .i64 m.size, .slice a m.doors.length c, .slice b m.keys.length d]] w (MzPost w m) := by
  rcases a with _ | ad
  · exact l2Own_none w lo hi m b c d h hz h1 h2
  · exact l2Own_some w lo hi m ad b c d h hz h1 h2
end C
end Go.Proofs.Ytbcobheiofajeaa
namespace Go.Proofs.Ytbcobheiofajeaa
open Go.RowKit
namespace C
theorem eqA3 (a b e c d f : Int) (w : World) : (Op.equalIn 10000 103 (.agg #[.int .i64 a, .int .i64 b, .int .i64 e]) (.agg #[.int .i64 c, .int .i64 d, .int .i64 f])).run Try.prog w = .ok (a == c && b == d && e == f) w := by
  have u3 := Try.underlying3
  have a3 := Try.isAgg3
  have z3 := Try.sizeOf3
  rw [show (10000 : Nat) = 9999 + 1 from rfl, Op.equalIn]
  simp only [Sem.run_bind, run_underlying Try.underlying103, Result.andThen_ok]
  simp only [Std.Legacy.Range.forIn_eq_forIn_range', Std.Legacy.Range.size, Nat.sub_zero, Nat.add_sub_cancel, Nat.div_one, List.range'_succ, List.range'_zero, List.forIn_cons, List.forIn_nil]
  go_simp
  by_cases h1 : a = c <;> by_cases h2 : b = d <;> by_cases h3 : e = f <;> simp [h1, h2, h3]
theorem sl23 (g : Nat) (w : World) : (Instr.sliceAt 103 (.pointer (some ⟨g, 0, none⟩)) none (some (.int .i64 2)) none).run Try.prog w = .ok (.slice (some ⟨g, 0, none⟩) 2 3) w := by kernel_rfl
theorem eqT3 : Try.prog.eqGuardType Try.prog.depth 103 = false := by kernel_rfl
end C
end Go.Proofs.Ytbcobheiofajeaa
namespace Go.Proofs.Ytbcobheiofajeaa
open Go.RowKit
namespace M

def leD (x y : Dr) : Bool := !ltD y x
/-- the doors sorted -/
def srt (l : List Dr) : List Dr := l.mergeSort leD
theorem srt_perm (l : List Dr) : (srt l).Perm l := List.mergeSort_perm l leD
theorem srt_len (l : List Dr) : (srt l).length = l.length := (srt_perm l).length_eq
theorem mem_srt {l : List Dr} {x : Dr} : x ∈ srt l ↔ x ∈ l := (srt_perm l).mem_iff
theorem leD_trans (a b c : Dr) (h1 : leD a b = true) (h2 : leD b c = true) : leD a c = true := by
  unfold leD ltD at *
  simp only [Bool.not_eq_true', decide_eq_false_iff_not] at *
  omega
theorem leD_total (a b : Dr) : (leD a b || leD b a) = true := by
  unfold leD
  cases h1 : ltD b a with
  | false => rfl
  | true =>
    cases h2 : ltD a b with
    | false => rfl
    | true =>
      have := ltD_trans h1 h2
      rw [ltD_irrefl] at this
      cases this
theorem srt_sorted (l : List Dr) : (srt l).Pairwise fun a b => leD a b = true := List.pairwise_mergeSort leD_trans leD_total l
theorem srt_asc {l : List Dr} (h : l.Nodup) : Asc ltD (srt l) := by
  have h1 := srt_sorted l
  have h2 : (srt l).Nodup := (srt_perm l).nodup_iff.2 h
  unfold Asc
  have h3 := h1.and h2
  refine h3.imp fun {a b} hab => ?_
  obtain ⟨hle, hne⟩ := hab
  unfold leD at hle
  cases h : ltD a b with
  | true => rfl
  | false =>
    have : ltD b a = false := by simpa using hle
    exact absurd (ltD_tri h this) hne
/-- sorted or put one by one: the same, where none stands twice -/
theorem putAll_srt {l : List Dr} (h : l.Nodup) : putAll ltD [] l = srt l :=
  putAll_eq ordD Asc.nil (srt_asc h) fun x => by rw [mem_srt]; simp
theorem putAll_srt_on {l ds : List Dr} (hl : Asc ltD l) (h : (l ++ ds).Nodup) : putAll ltD l ds = srt (l ++ ds) :=
  putAll_eq ordD hl (srt_asc h) fun x => by rw [mem_srt, List.mem_append]
theorem Asc.nodup {l : List Dr} (h : Asc ltD l) : l.Nodup := by
  unfold Asc at h
  refine h.imp fun {a b} hab => ?_
  rintro rfl
  rw [ltD_irrefl] at hab
  cases hab
/-- where one stands twice, the sorted list does not ascend -/
theorem srt_not {l : List Dr} (h : ¬ l.Nodup) : ¬ Asc ltD (srt l) := fun ha => h ((srt_perm l).nodup_iff.1 ha.nodup)

/-- whether a maze whose doors stand in any order is valid but for that order -/
def doorsOk (n : Int) (l : List Dr) : Prop := ∀ d ∈ l, doorB n d = true
theorem doorsB_iff {n : Int} {l : List Dr} : doorsB n l = true ↔ doorsOk n l ∧ Asc ltD l := by
  unfold doorsB
  rw [all_range_take]
  constructor
  · intro h
    refine ⟨fun d hd => ?_, asc_of_sorted ordD fun k hk => ?_⟩
    · obtain ⟨k, hk, rfl⟩ := List.mem_iff_getElem.1 hd
      exact ((stepB_iff hk).1 (h k hk)).1
    · have := ((stepB_iff hk).1 (h (k + 1) hk)).2 (by omega)
      rw [Nat.add_sub_cancel, List.getD_eq_getElem?_getD, List.getElem?_eq_getElem (by omega)] at this
      exact this
  · rintro ⟨h1, h2⟩ k hk
    refine (stepB_iff hk).2 ⟨h1 _ (List.getElem_mem hk), fun h0 => ?_⟩
    obtain ⟨j, rfl⟩ : ∃ j, k = j + 1 := ⟨k - 1, by omega⟩
    rw [Nat.add_sub_cancel, List.getD_eq_getElem?_getD, List.getElem?_eq_getElem (by omega)]
    exact h2.sorted j hk
theorem doorsOk_mem {n : Int} {l l' : List Dr} (h : ∀ x, x ∈ l ↔ x ∈ l') : doorsOk n l ↔ doorsOk n l' :=
  ⟨fun k d hd => k d ((h d).2 hd), fun k d hd => k d ((h d).1 hd)⟩
theorem doorB_iff {n : Int} {d : Dr} : doorB n d = true ↔ 0 ≤ d.1 ∧ d.1 < n ∧ 0 ≤ d.2.1 ∧ d.2.1 < n ∧ d.1 < d.2.1 ∧ 0 ≤ d.2.2 ∧ d.2.2 < 64 := by
  unfold doorB; rw [decide_eq_true_iff]
theorem Valid.ok {m : Mz} (h : Valid m) : doorsOk m.size m.doors := fun d hd => by
  obtain ⟨k, hk, rfl⟩ := List.mem_iff_getElem.1 hd
  exact doorB_iff.2 (h.door k hk)
theorem valid_mk {m : Mz} (h1 : 1 ≤ m.size) (h2 : m.size ≤ 12) (h3 : m.doors.length ≤ 30) (h4 : (m.keys.length : Int) = m.size) (h5 : doorsOk m.size m.doors) (h6 : Asc ltD m.doors) (h7 : ∀ s ∈ m.keys, 0 ≤ s ∧ s < 64) : mazeB m = true :=
  of_valid ⟨h1, h2, h3, h4, fun _ hk => doorB_iff.1 (h5 _ (List.getElem_mem hk)), h6.sorted, fun _ hk => h7 _ (List.getElem_mem hk)⟩
theorem Valid.sets {m : Mz} (h : Valid m) : ∀ s ∈ m.keys, 0 ≤ s ∧ s < 64 := fun s hs => by
  obtain ⟨k, hk, rfl⟩ := List.mem_iff_getElem.1 hs
  exact h.key k hk
end M
end Go.Proofs.Ytbcobheiofajeaa
namespace Go.Proofs.Ytbcobheiofajeaa
open Go.RowKit
namespace M
def memB (l : List Int) (n : Int) : Bool := l.contains n
theorem memB_true {l : List Int} {n : Int} (h : memB l n = true) : n ∈ l := by unfold memB at h; exact List.contains_iff_mem.1 h
theorem memB_false {l : List Int} {n : Int} (h : memB l n = false) : n ∉ l := fun hm => by
  have : memB l n = true := by unfold memB; exact List.contains_iff_mem.2 hm
  rw [h] at this; cases this
end M
namespace C
set_option maxHeartbeats 3200000
set_option maxRecDepth 20000
theorem l1Has_any (w : World) (lo hi : Nat) (a : Option Addr) (c : Nat) (l : List Int) (n : Int) (h : RowIn lo hi w a (M.encIs l)) (hl : l.length ≤ 1048576) :
    Calls Try.prog 69 #[.slice a l.length c, .int .i64 n] w fun e w' => e = .returned (.bool (M.memB l n)) ∧ w = w' := by
  have H := Lib.hid h
  clear h
  go_enter Try.func69, Try.ntmps69
  go_wp2_with fail
  go_loop [5] (fun i => ∃ (k : Nat), k ≤ l.length ∧ i = .int .i64 k ∧ (∀ j (hj : j < l.length), j < k → l[j] ≠ n)) (fun i => l.length - (intOf i).toNat)
  case atStart => exact ⟨0, Nat.zero_le _, rfl, fun j _ h => by omega⟩
  case round =>
    obtain ⟨k, hk, rfl, hall⟩ := hrel
    have HA := Lib.hid hall
    clear hall
    by_cases hlt : k < l.length
    · obtain ⟨b, off, rfl, _, _, hc0⟩ := H.out.at_ (k := k) (by rw [M.encIs_len]; exact hlt)
      have p0 := hc0 _ _ (M.encIs_at hlt)
      clear hc0
      rcases Decidable.em (l[k] = n) with hlk | hlk
      · have HF : Hid (M.memB l n = true) := Lib.hid (by unfold M.memB; rw [List.contains_iff_mem, ← hlk]; exact List.getElem_mem hlt)
        have hb : (l[k] == n) = true := by simpa using hlk
        clear hlk
        go_wp2_with fail
        go_ret
        exact ⟨by rw [HF.out]; rfl, rfl⟩
      · have HK := Lib.hid hlk
        have hb : (l[k] == n) = false := by simpa using hlk
        clear hlk
        go_wp2_with fail
        go_round
        case rel => exact ⟨k + 1, by omega, by go_num, fun j hj hjk => by
          rcases Nat.lt_or_ge j k with h | h
          · exact HA.out j hj h
          · obtain rfl : j = k := by omega
            exact HK.out⟩
        case measure => simp [intOf]; omega
    · have HF : Hid (M.memB l n = false) := Lib.hid (by
        unfold M.memB
        rw [Bool.eq_false_iff, ne_eq, List.contains_iff_mem]
        intro hm
        obtain ⟨j, hj, he⟩ := List.mem_iff_getElem.1 hm
        exact HA.out j hj (by omega) he)
      go_wp2_with fail
      go_ret
      exact ⟨by rw [HF.out]; rfl, rfl⟩
end C
end Go.Proofs.Ytbcobheiofajeaa
namespace Go.Proofs.Ytbcobheiofajeaa
open Go.RowKit
namespace C
theorem encIs_set (l : List Int) (k : Nat) (v : Int) : M.encIs (l.set k v) = (M.encIs l).set k (.int .i64 v) := by unfold M.encIs; rw [List.map_set]
theorem mzNo_end {w w3 : World} {u0 u1 u2 : Value} (hB : Below w.heap.size w w3) :
    MzOkPost w mz0 false (.returned (.tuple #[.agg #[.int .i64 0, .slice none 0 0, .slice none 0 0], .bool false])) (((w3.setCell ⟨w.heap.size + 1, 0, none⟩ u0).setCell ⟨w.heap.size + 1, 1, none⟩ u1).setCell ⟨w.heap.size + 1, 2, none⟩ u2) :=
  ⟨_, _, _, _, rfl, MzOwn.zero _ _ _, ((hB.setCell (p := ⟨w.heap.size + 1, 0, none⟩) (Nat.le_succ _) _).setCell (p := ⟨w.heap.size + 1, 1, none⟩) (Nat.le_succ _) _).setCell (p := ⟨w.heap.size + 1, 2, none⟩) (Nat.le_succ _) _⟩
theorem mzYes_end {w w3 : World} {lo hi nd nk : Nat} {m : M.Mz} {a b : Option Addr} {c d : Nat} {u0 u1 u2 : Value} (hB : Below w.heap.size w w3) (ho : MzOwn lo hi w3 m a c b d) (h1 : w.heap.size + 1 < lo) (h2 : hi ≤ w3.heap.size) (hnd : m.doors.length = nd) (hnk : m.keys.length = nk) :
    MzOkPost w m true (.returned (.tuple #[.agg #[.int .i64 m.size, .slice a nd c, .slice b nk d], .bool true])) (((w3.setCell ⟨w.heap.size + 1, 0, none⟩ u0).setCell ⟨w.heap.size + 1, 1, none⟩ u1).setCell ⟨w.heap.size + 1, 2, none⟩ u2) := by
  have hT : Turned (w.heap.size + 1) (w.heap.size + 1 + 1) w3 (((w3.setCell ⟨w.heap.size + 1, 0, none⟩ u0).setCell ⟨w.heap.size + 1, 1, none⟩ u1).setCell ⟨w.heap.size + 1, 2, none⟩ u2) :=
    ((Turned.setCell _ _ _ _ (by omega) (by omega)).trans (Turned.setCell _ _ _ _ (by omega) (by omega))).trans (Turned.setCell _ _ _ _ (by omega) (by omega))
  have hs := hT.size
  have hz := hB.size
  subst hnd; subst hnk
  exact ⟨_, _, _, _, rfl, (ho.turned hT h2 (.inr (by omega))).mono (by omega) (by omega), Below.thenTurned hB hT (by omega) (by omega)⟩
theorem Box3.setAll {X : World} {n : Nat} {T : TypeId} {x y z : Value} (h : Box3 X n T x y z) (u0 u1 u2 : Value) : Box3 (((X.setCell ⟨n, 0, none⟩ u0).setCell ⟨n, 1, none⟩ u1).setCell ⟨n, 2, none⟩ u2) n T u0 u1 u2 := by
  unfold Box3 at h ⊢
  simp [World.setCell, Array.getElem?_modify, h]
theorem MzOkPost.more {w w' w'' : World} {m : M.Mz} {ok : Bool} {e : Ending} (h : MzOkPost w m ok e w') (hb : Below w'.heap.size w' w'') : MzOkPost w m ok e w'' := by
  obtain ⟨a, c, b, d, he, ho, hB⟩ := h
  exact ⟨a, c, b, d, he, (ho.below hb (Nat.le_refl _)).mono (Nat.le_refl _) hb.size, hB.trans (hb.mono hB.size)⟩
/-- one set of keys written -/
theorem MzOwn.setKey {lo hi : Nat} {w : World} {m : M.Mz} {a b : Option Addr} {c d g off : Nat} (h : MzOwn lo hi w m a c b d) (hb : b = some ⟨g, off, none⟩) (k : Nat) (hk : k < m.keys.length) (v : Int) :
    MzOwn lo hi (w.setCell ⟨g, off + k, none⟩ (.int .i64 v)) ⟨m.size, m.doors, m.keys.set k v⟩ a c b d :=
  ⟨h.doors.far h.keys (by decide) hb (k := k) (by rw [M.encIs_len]; exact hk) _ _, by show OwnAt _ _ _ _ _ (M.encIs (m.keys.set k v)); rw [encIs_set]; exact h.keys.set_ hb k _, h.c1, h.c2, by show (m.keys.set k v).length ≤ d; rw [List.length_set]; exact h.d1, h.d2⟩
end C
end Go.Proofs.Ytbcobheiofajeaa
namespace Go.Proofs.Ytbcobheiofajeaa
open Go.RowKit
namespace M
theorem Valid.doorB {m : Mz} (V : Valid m) {d : Dr} (h : d ∈ m.doors) : 0 ≤ d.1 ∧ d.1 < m.size ∧ 0 ≤ d.2.1 ∧ d.2.1 < m.size ∧ d.1 < d.2.1 ∧ 0 ≤ d.2.2 ∧ d.2.2 < 64 := by
  obtain ⟨k, hk, rfl⟩ := List.mem_iff_getElem.1 h
  exact V.door k hk
theorem Valid.keyB {m : Mz} (V : Valid m) {s : Int} (h : s ∈ m.keys) : 0 ≤ s ∧ s < 64 := by
  obtain ⟨k, hk, rfl⟩ := List.mem_iff_getElem.1 h
  exact V.key k hk
/-- a maze of some of the doors, in their order, and other keys -/
theorem Valid.part {m : Mz} (V : Valid m) {ds : List Dr} {ks : List Int} (h1 : ds.Sublist m.doors) (h2 : ks.length = m.keys.length) (h3 : ∀ s ∈ ks, 0 ≤ s ∧ s < 64) : Valid ⟨m.size, ds, ks⟩ where
  size1 := V.size1
  size12 := V.size12
  few := Nat.le_trans h1.length_le V.few
  keysLen := by show ((ks.length : Nat) : Int) = m.size; rw [h2]; exact V.keysLen
  door := fun _ hk => V.doorB (h1.subset (List.getElem_mem hk))
  sorted := (show Asc ltD ds from List.Pairwise.sublist h1 V.asc).sorted
  key := fun _ hk => h3 _ (List.getElem_mem hk)
def atB (d : Dr) (x : Int) : Bool := decide (d.1 = x ∨ d.2.1 = x)
def noNode (m : Mz) (x : Int) : Mz := ⟨m.size, m.doors.filter fun d => !atB d x, m.keys⟩
theorem noNode_valid {m : Mz} (V : Valid m) (x : Int) : Valid (noNode m x) := V.part List.filter_sublist rfl fun _ h => V.keyB h
def lessS (s : Int) (t : Int) : Int := bits .andNot .i64 s t
theorem less_fin : ∀ s t : Fin 64, 0 ≤ lessS (s.val : Int) (t.val : Int) ∧ lessS (s.val : Int) (t.val : Int) < 64 := by decide +kernel
theorem less_set {s t : Int} (h0 : 0 ≤ s) (h1 : s < 64) (h2 : 0 ≤ t) (h3 : t < 64) : 0 ≤ lessS s t ∧ lessS s t < 64 := by
  have := less_fin ⟨s.toNat, by omega⟩ ⟨t.toNat, by omega⟩
  simp only at this
  rwa [Int.toNat_of_nonneg h0, Int.toNat_of_nonneg h2] at this
def noSet (m : Mz) (t : Int) : Mz := ⟨m.size, m.doors, m.keys.map fun s => lessS s t⟩
theorem noSet_valid {m : Mz} (V : Valid m) {t : Int} (h2 : 0 ≤ t) (h3 : t < 64) : Valid (noSet m t) := V.part (List.Sublist.refl _) (by simp) fun s h => by
  obtain ⟨u, hu, rfl⟩ := List.mem_map.1 h
  have := V.keyB hu
  exact less_set this.1 this.2 h2 h3
def noKeys (m : Mz) (x : Nat) : Mz := ⟨m.size, m.doors, m.keys.set x 0⟩
theorem noKeys_valid {m : Mz} (V : Valid m) (x : Nat) : Valid (noKeys m x) := V.part (List.Sublist.refl _) (by simp) fun s h => by
  rcases List.mem_or_eq_of_mem_set h with h | rfl
  · exact V.keyB h
  · exact ⟨by decide, by decide⟩
def noDoor (m : Mz) (k : Nat) : Mz := ⟨m.size, m.doors.take k ++ m.doors.drop (k + 1), m.keys⟩
theorem noDoor_valid {m : Mz} (V : Valid m) (k : Nat) : Valid (noDoor m k) := V.part (by rw [← List.eraseIdx_eq_take_drop_succ]; exact List.eraseIdx_sublist ..) rfl fun _ h => V.keyB h
/-- the first k doors without those at a node -/
theorem noNode_take_yes {l : List Dr} {x : Int} {k : Nat} (hk : k < l.length) (h : atB l[k] x = false) : (l.take (k + 1)).filter (fun d => !atB d x) = (l.take k).filter (fun d => !atB d x) ++ [l[k]] := by
  rw [List.take_succ_eq_append_getElem hk, List.filter_append, List.filter_cons_of_pos (p := fun d => !atB d x) (by show (!atB l[k] x) = true; rw [h]; rfl)]
  rfl
theorem noNode_take_no {l : List Dr} {x : Int} {k : Nat} (hk : k < l.length) (h : atB l[k] x = true) : (l.take (k + 1)).filter (fun d => !atB d x) = (l.take k).filter (fun d => !atB d x) := by
  rw [List.take_succ_eq_append_getElem hk, List.filter_append, List.filter_cons_of_neg (p := fun d => !atB d x) (by show ¬ (!atB l[k] x) = true; rw [h]; decide)]
  simp
end M
end Go.Proofs.Ytbcobheiofajeaa
namespace Go.Proofs.Ytbcobheiofajeaa
open Go.RowKit
namespace M
/-- the number of one colour, as the model reckons 1 << c -/
def bitI (c : Int) : Int := wrap64 (2 ^ c.toNat)
/-- the set of a list of colours -/
def setI (l : List Int) : Int := l.foldl (fun s c => bits .or .i64 s (bitI c)) 0
def colB (c : Int) : Bool := decide (0 ≤ c ∧ c < 6)
def colsB (l : List Int) : Bool := l.all colB
theorem setI_snoc {l : List Int} {k : Nat} (h : k < l.length) : setI (l.take (k + 1)) = bits .or .i64 (setI (l.take k)) (bitI l[k]) := by
  unfold setI; rw [List.take_succ_eq_append_getElem h, List.foldl_append]; rfl
theorem all_take_no {α : Type} {f : α → Bool} {l : List α} {k : Nat} (h : k < l.length) (hf : f l[k] = false) : l.all f = false := by
  rw [Bool.eq_false_iff]
  intro h'
  have := List.all_eq_true.1 h' _ (List.getElem_mem h)
  rw [hf] at this
  cases this
theorem all_of_take {α : Type} {f : α → Bool} {l : List α} (h : ∀ k (h : k < l.length), f l[k] = true) : l.all f = true := by
  rw [List.all_eq_true]
  intro x hx
  obtain ⟨k, hk, rfl⟩ := List.mem_iff_getElem.1 hx
  exact h k hk
end M
namespace C
/-- a set handed back, or 0 and false -/
def SetPost (w : World) (l : List Int) (e : Ending) (w' : World) : Prop := e = .returned (.tuple #[.int .i64 (if M.colsB l then M.setI l else 0), .bool (M.colsB l)]) ∧ w = w'
set_option maxHeartbeats 800000
set_option maxRecDepth 20000
end C
end Go.Proofs.Ytbcobheiofajeaa
namespace Go.Proofs.Ytbcobheiofajeaa
open Go.RowKit
namespace M
-- sets of colours
abbrev St6 := Fin 64
def cnt (a : St6) : Nat := (List.range 6).countP fun c => a.val.testBit c
def subF (a b : St6) : Bool := b.val &&& a.val == a.val
def ltS (a b : St6) : Bool := decide (cnt a < cnt b ∨ cnt a = cnt b ∧ a.val < b.val)
theorem subF_refl (a : St6) : subF a a = true := by unfold subF; rw [Nat.and_self, beq_self_eq_true]
theorem subF_trans {a b c : St6} (h1 : subF a b = true) (h2 : subF b c = true) : subF a c = true := by
  unfold subF at *
  rw [beq_iff_eq] at *
  rw [← h1, ← Nat.and_assoc, h2]
theorem subF_antisymm {a b : St6} (h1 : subF a b = true) (h2 : subF b a = true) : a = b := by
  unfold subF at *
  rw [beq_iff_eq] at *
  exact Fin.ext (by rw [← h1, Nat.and_comm, h2])
theorem sub_lt_fin : ∀ a b : St6, subF a b = true → a = b ∨ ltS a b = true := by decide +kernel
theorem ordS : Ord ltS := ⟨fun a => by simp [ltS], fun h1 h2 => by unfold ltS at *; simp only [decide_eq_true_eq] at *; omega, fun h1 h2 => by
  unfold ltS at *; simp only [decide_eq_false_iff_not] at *; exact Fin.ext (by omega)⟩
/-- the least ones of some sets -/
def Least (P : St6 → Prop) (s : St6) : Prop := P s ∧ ∀ t, P t → subF t s = true → t = s
theorem snoc_ind {α : Type} {p : List α → Prop} (h0 : p []) (h1 : ∀ l x, p l → p (l ++ [x])) (l : List α) : p l := by
  have : ∀ r : List α, p r.reverse := fun r => by
    induction r with
    | nil => exact h0
    | cons x r ih => rw [List.reverse_cons]; exact h1 _ _ ih
  have h := this l.reverse
  rwa [List.reverse_reverse] at h
/-- what the program keeps of a sorted list -/
def keep1 (cl : List St6) (s : St6) : List St6 := if cl.any (fun t => subF t s) then cl else cl ++ [s]
def keepAll (l : List St6) : List St6 := l.foldl keep1 []
theorem keepAll_snoc (l : List St6) (s : St6) : keepAll (l ++ [s]) = keep1 (keepAll l) s := by unfold keepAll; rw [List.foldl_append]; rfl
theorem keepAll_take {l : List St6} {k : Nat} (h : k < l.length) : keepAll (l.take (k + 1)) = keep1 (keepAll (l.take k)) l[k] := by rw [List.take_succ_eq_append_getElem h, keepAll_snoc]
structure KeepOk (l cl : List St6) : Prop where
  asc : Asc ltS cl
  mem : ∀ x ∈ cl, x ∈ l
  all : ∀ x ∈ l, ∃ y ∈ cl, subF y x = true
  anti : ∀ x ∈ cl, ∀ y ∈ cl, subF x y = true → x = y
def leS (a b : St6) : Bool := !ltS b a
theorem keep_ok : ∀ (l : List St6), (l.Pairwise fun a b => leS a b = true) → KeepOk l (keepAll l) := by
  intro l
  induction l using snoc_ind with
  | h0 => exact fun _ => ⟨Asc.nil, fun x hx => (by cases hx), fun x hx => (by cases hx), fun x hx => (by cases hx)⟩
  | h1 l s ih =>
    intro hs
    rw [List.pairwise_append] at hs
    have K := ih hs.1
    have hle : ∀ x ∈ l, leS x s = true := fun x hx => hs.2.2 x hx s (List.mem_singleton.2 rfl)
    rw [keepAll_snoc]
    unfold keep1
    split
    · rename_i ha
      obtain ⟨y, hy, hys⟩ := List.any_eq_true.1 ha
      refine ⟨K.asc, fun x hx => List.mem_append_left _ (K.mem x hx), fun x hx => ?_, K.anti⟩
      rcases List.mem_append.1 hx with h | h
      · exact K.all x h
      · rw [List.mem_singleton] at h; subst h; exact ⟨y, hy, hys⟩
    · rename_i ha
      have hno : ∀ y ∈ keepAll l, subF y s = false := fun y hy => by
        rw [Bool.eq_false_iff]; exact fun h => ha (List.any_eq_true.2 ⟨y, hy, h⟩)
      have hlt : ∀ y ∈ keepAll l, ltS y s = true := fun y hy => by
        have h1 := hle y (K.mem y hy)
        unfold leS at h1
        rw [Bool.not_eq_true'] at h1
        cases h : ltS y s with
        | true => rfl
        | false =>
          have := ordS.tri h h1
          subst this
          have := hno y hy
          rw [subF_refl] at this
          cases this
      refine ⟨?_, fun x hx => ?_, fun x hx => ?_, fun x hx y hy hxy => ?_⟩
      · unfold Asc
        rw [List.pairwise_append]
        exact ⟨K.asc, List.pairwise_singleton _ _, fun x hx y hy => by rw [List.mem_singleton] at hy; subst hy; exact hlt x hx⟩
      · rcases List.mem_append.1 hx with h | h
        · exact List.mem_append_left _ (K.mem x h)
        · exact List.mem_append_right _ h
      · rcases List.mem_append.1 hx with h | h
        · obtain ⟨y, h1, h2⟩ := K.all x h
          exact ⟨y, List.mem_append_left _ h1, h2⟩
        · rw [List.mem_singleton] at h; subst h
          exact ⟨x, List.mem_append_right _ (List.mem_singleton.2 rfl), subF_refl x⟩
      · rcases List.mem_append.1 hx with h | h <;> rcases List.mem_append.1 hy with h' | h'
        · exact K.anti x h y h' hxy
        · rw [List.mem_singleton] at h'; subst h'
          rw [hno x h] at hxy; cases hxy
        · rw [List.mem_singleton] at h; subst h
          rcases sub_lt_fin _ _ hxy with e | e
          · exact e
          · have := ordS.trans e (hlt y h')
            rw [ordS.irrefl] at this; cases this
        · rw [List.mem_singleton] at h h'; rw [h, h']
theorem keep_mem {l : List St6} {cl : List St6} (K : KeepOk l cl) (x : St6) : x ∈ cl ↔ Least (· ∈ l) x := by
  constructor
  · intro hx
    refine ⟨K.mem x hx, fun t ht hs => ?_⟩
    obtain ⟨y, hy, hyt⟩ := K.all t ht
    have := K.anti y hy x hx (subF_trans hyt hs)
    subst this
    exact subF_antisymm hs hyt
  · rintro ⟨hx, hm⟩
    obtain ⟨y, hy, hyx⟩ := K.all x hx
    have := hm y (K.mem y hy) hyx
    subst this
    exact hy
def srtS (l : List St6) : List St6 := l.mergeSort leS
theorem leS_trans (a b c : St6) (h1 : leS a b = true) (h2 : leS b c = true) : leS a c = true := by
  unfold leS ltS at *; simp only [Bool.not_eq_true', decide_eq_false_iff_not] at *; omega
theorem leS_total (a b : St6) : (leS a b || leS b a) = true := by
  unfold leS ltS; rw [Bool.or_eq_true]; simp only [Bool.not_eq_true', decide_eq_false_iff_not]; omega
theorem srtS_perm (l : List St6) : (srtS l).Perm l := List.mergeSort_perm l leS
theorem srtS_sorted (l : List St6) : (srtS l).Pairwise fun a b => leS a b = true := List.pairwise_mergeSort leS_trans leS_total l
/-- the clutter of a list of sets -/
def cluF (l : List St6) : List St6 := keepAll (srtS l)
theorem cluF_ok (l : List St6) : KeepOk (srtS l) (cluF l) := keep_ok _ (srtS_sorted l)
theorem mem_cluF {l : List St6} {x : St6} : x ∈ cluF l ↔ Least (· ∈ l) x := by
  rw [keep_mem (cluF_ok l)]
  unfold Least
  simp only [(srtS_perm l).mem_iff]
theorem cluF_asc (l : List St6) : Asc ltS (cluF l) := (cluF_ok l).asc
/-- all sets in the order of a clutter -/
def allS : List St6 := (List.range 7).flatMap fun n => (List.finRange 64).filter fun a => cnt a == n
theorem allS_asc : Asc ltS allS := by
  have h : allS.Pairwise (fun a b => ltS a b = true) := by decide +kernel
  exact h
theorem mem_allS : ∀ a : St6, a ∈ allS := by decide +kernel
/-- what the model keeps -/
def bit6 (c : Nat) (a : St6) : St6 := ⟨a.val ^^^ (if c < 6 then 1 <<< c else 0), by
  have ha : a.val < 2 ^ 6 := a.isLt
  show _ < 2 ^ 6
  refine Nat.xor_lt_two_pow ha ?_
  split
  · rename_i h
    rw [Nat.one_shiftLeft]
    exact Nat.pow_lt_pow_right (by decide) h
  · decide⟩
def leastB (P : St6 → Bool) (a : St6) : Bool := P a && (List.range 6).all fun c => !(a.val.testBit c && P (bit6 c a))
def leastF (P : St6 → Bool) : List St6 := allS.filter (leastB P)
theorem less_bit : ∀ a t : St6, subF t a = true → t = a ∨ ∃ c : Fin 6, a.val.testBit c.val = true ∧ subF t (bit6 c.val a) = true := by decide +kernel
theorem bit_less : ∀ a : St6, ∀ c : Fin 6, a.val.testBit c.val = true → subF (bit6 c.val a) a = true ∧ bit6 c.val a ≠ a := by decide +kernel
theorem leastB_iff {P : St6 → Bool} (hP : ∀ a b, subF a b = true → P a = true → P b = true) (a : St6) : leastB P a = true ↔ Least (fun t => P t = true) a := by
  unfold leastB Least
  rw [Bool.and_eq_true, List.all_eq_true]
  constructor
  · rintro ⟨h1, h2⟩
    refine ⟨h1, fun t ht hs => ?_⟩
    rcases less_bit a t hs with e | ⟨c, hc, hsc⟩
    · exact e
    · have h3 := h2 c.val (List.mem_range.2 c.isLt)
      rw [hc, hP _ _ hsc ht] at h3
      simp at h3
  · rintro ⟨h1, h2⟩
    refine ⟨h1, fun c hc => ?_⟩
    rw [List.mem_range] at hc
    cases hb : a.val.testBit c with
    | false => rfl
    | true =>
      cases hp : P (bit6 c a) with
      | false => rfl
      | true =>
        obtain ⟨h3, h4⟩ := bit_less a ⟨c, hc⟩ hb
        exact absurd (h2 _ hp h3) h4
/-- both keep the same -/
theorem least_same {P : St6 → Bool} (hP : ∀ a b, subF a b = true → P a = true → P b = true) {l : List St6} (hl : ∀ a, Least (fun t => P t = true) a ↔ Least (· ∈ l) a) : leastF P = cluF l := by
  refine Asc.ext ordS (List.Pairwise.sublist List.filter_sublist allS_asc) (cluF_asc l) fun x => ?_
  rw [mem_cluF, ← hl, ← leastB_iff hP]
  unfold leastF
  rw [List.mem_filter]
  exact ⟨fun h => h.2, fun h => ⟨mem_allS x, h⟩⟩
/-- of a list that has just the sets of a kind -/
theorem least_all {P : St6 → Bool} (hP : ∀ a b, subF a b = true → P a = true → P b = true) {l : List St6} (hl : ∀ a, a ∈ l ↔ P a = true) : leastF P = cluF l :=
  least_same hP fun a => by unfold Least; simp only [hl]
/-- of any list -/
def hasOneB (l : List St6) (a : St6) : Bool := l.any fun t => subF t a
theorem hasOne_up (l : List St6) (a b : St6) (h : subF a b = true) (ha : hasOneB l a = true) : hasOneB l b = true := by
  obtain ⟨t, ht, hs⟩ := List.any_eq_true.1 ha
  exact List.any_eq_true.2 ⟨t, ht, subF_trans hs h⟩
theorem least_list (l : List St6) : leastF (hasOneB l) = cluF l :=
  least_same (hasOne_up l) fun a => by
    unfold Least
    constructor
    · rintro ⟨h1, h2⟩
      obtain ⟨t, ht, hs⟩ := List.any_eq_true.1 h1
      have : t = a := h2 t (List.any_eq_true.2 ⟨t, ht, subF_refl t⟩) hs
      subst this
      exact ⟨ht, fun u hu hs => h2 u (List.any_eq_true.2 ⟨u, hu, subF_refl u⟩) hs⟩
    · rintro ⟨h1, h2⟩
      refine ⟨List.any_eq_true.2 ⟨a, h1, subF_refl a⟩, fun t ht hs => ?_⟩
      obtain ⟨u, hu, hus⟩ := List.any_eq_true.1 ht
      have := h2 u hu (subF_trans hus hs)
      subst this
      exact subF_antisymm hs hus
/-- when a list is its own clutter -/
theorem cluF_self {l : List St6} : cluF l = l ↔ Asc ltS l ∧ ∀ x ∈ l, ∀ y ∈ l, subF x y = true → x = y := by
  constructor
  · intro h
    rw [← h]
    refine ⟨cluF_asc l, (cluF_ok l).anti⟩
  · rintro ⟨h1, h2⟩
    refine Asc.ext ordS (cluF_asc l) h1 fun x => ?_
    rw [mem_cluF]
    exact ⟨fun h => h.1, fun h => ⟨h, fun t ht hs => h2 t ht x h hs⟩⟩
end M
end Go.Proofs.Ytbcobheiofajeaa
namespace Go.Proofs.Ytbcobheiofajeaa
open Go.RowKit
namespace C
def Box2 (w : World) (g : Nat) (T : TypeId) (x y : Value) : Prop := w.heap[g]? = some (.cells #[x, y] T (0, 0))
section
variable {w w' : World} {g : Nat} {T : TypeId} {x y : Value}
theorem Box2.lt (h : Box2 w g T x y) : g < w.heap.size := heap_lt h
theorem Box2.new (T : TypeId) (x y : Value) (hg : g = w.heap.size) : Box2 (w.alloc (.cells #[x, y] T)) g T x y := by subst hg; exact heap_alloc_new w _
theorem Box2.alloc (h : Box2 w g T x y) (o : Obj) : Box2 (w.alloc o) g T x y := (Below.heap_alloc w o g h.lt).trans h
theorem Box2.cells (h : Box2 w g T x y) : w.cell? ⟨g, 0, none⟩ = some x ∧ w.cell? ⟨g, 1, none⟩ = some y := ⟨cell_of_row w g 0 _ _ _ h, cell_of_row w g 1 _ _ _ h⟩
theorem Box2.free (h : Box2 w g T x y) : w.frozen? ⟨g, 0, none⟩ = false ∧ w.frozen? ⟨g, 1, none⟩ = false := by
  unfold Box2 at h
  exact ⟨by simp [World.frozen?, h], by simp [World.frozen?, h]⟩
theorem Box2.turned {lo hi : Nat} (h : Box2 w g T x y) (t : Turned lo hi w w') (hd : g < lo ∨ hi ≤ g) : Box2 w' g T x y := (t.block g h.lt hd).trans h
theorem Box2.below (h : Box2 w g T x y) (t : Below w.heap.size w w') : Box2 w' g T x y := (t.block g h.lt).trans h
theorem Box2.grown {row : Option Nat} (h : Box2 w g T x y) (hg : w.grownBy w' row) (hne : row ≠ some g) : Box2 w' g T x y := (hg.block g h.lt (fun e => hne e.symm)).trans h
theorem Box2.set0 (h : Box2 w g T x y) (u : Value) : Box2 (w.setCell ⟨g, 0, none⟩ u) g T u y := by
  unfold Box2 at h ⊢
  simp [World.setCell, Array.getElem?_modify, h]
theorem Box2.set1 (h : Box2 w g T x y) (u : Value) : Box2 (w.setCell ⟨g, 1, none⟩ u) g T x u := by
  unfold Box2 at h ⊢
  simp [World.setCell, Array.getElem?_modify, h]
theorem Box2.other {b : Nat} (h : Box2 w g T x y) (hne : g ≠ b) (i : Nat) (u : Value) : Box2 (w.setCell ⟨b, i, none⟩ u) g T x y := (Below.heap_setCell w ⟨b, i, none⟩ u g hne).trans h
end
theorem Turned.set2 {w : World} (r : Nat) (u0 u1 : Value) : Turned r (r + 1) w ((w.setCell ⟨r, 0, none⟩ u0).setCell ⟨r, 1, none⟩ u1) :=
  (Turned.setCell _ _ _ _ (Nat.le_refl _) (Nat.lt_succ_self _)).trans (Turned.setCell _ _ _ _ (Nat.le_refl _) (Nat.lt_succ_self _))
theorem Box2.setAll {w : World} {g : Nat} {T : TypeId} {x y : Value} (h : Box2 w g T x y) (u0 u1 : Value) : Box2 ((w.setCell ⟨g, 0, none⟩ u0).setCell ⟨g, 1, none⟩ u1) g T u0 u1 := (h.set0 u0).set1 u1
end C
end Go.Proofs.Ytbcobheiofajeaa
namespace Go.Proofs.Ytbcobheiofajeaa
open Go
namespace C
section
variable {P : Program} {ops : Array Oper} {Q : Exit → Act → World → Prop} {md : Region.Mode} {S : World → Prop} {Wr : Nat → Bool}
/-- whatever order is picked from here on; S holds behind every operation that is no writer -/
def wpAnyL (P : Program) (md : Region.Mode) (ops : Array Oper) (Q : Exit → Act → World → Prop) (S : World → Prop) (Wr : Nat → Bool) : Nat → Array Bool → Act → World → Prop
  | 0, listed, a, w => Region.ready md ops listed = [] ∧ Q .normal a w
  | fuel + 1, listed, a, w =>
    (Region.ready md ops listed = [] → Q .normal a w) ∧
    ∀ i ∈ Region.ready md ops listed, wpOp P ops Q i (fun a' w' => (Wr i = false → S w') ∧ wpAnyL P md ops Q S Wr fuel (listed.setIfInBounds i true) a' w') a w
theorem wpAny_of_late : ∀ (fuel : Nat) (listed : Array Bool) (a : Act) (w : World), wpAnyL P md ops Q S Wr fuel listed a w → wpAny P md ops Q fuel listed a w
  | 0, _, _, _, h => h
  | fuel + 1, _, _, _, h => ⟨h.1, fun i hi => wpOp_mono (fun a' w' h' => wpAny_of_late fuel _ a' w' h'.2) (h.2 i hi)⟩
/-- each writer waits for operation i -/
def waits (md : Region.Mode) (ops : Array Oper) (Wr : Nat → Bool) (i : Nat) : Prop := ∀ j oj, ops[j]? = some oj → Wr j = true → ∃ e ∈ oj.after, Region.binds md e = true ∧ e.on = i
theorem wpAnyL_first {i : Nat} {oi : Oper} {v : Value} (hi : ops[i]? = some oi) (hsel : ∀ (j : Nat) (o : Oper) cs b, ops[j]? = some o → o.op ≠ .select cs b)
    (hQ : ∀ c a w, Q (.panic c) (a.put oi.dst v) w → Q (.panic c) a w) (hW : waits md ops Wr i) :
    ∀ (fuel : Nat) (listed : Array Bool) (a : Act) (w : World),
      (∀ j oj, ops[j]? = some oj → j ≠ i → listed.getD j true = false → (∀ e ∈ oj.after, Region.binds md e = true → e.on ≠ i) → oi.apart ops oj = true) →
      i ∈ Region.ready md ops listed → YieldsIf P ops S oi v a → S w →
      wpAnyL P md ops Q S Wr fuel (listed.setIfInBounds i true) (a.put oi.dst v) w → wpAnyL P md ops Q S Wr (fuel + 1) listed a w := by
  intro fuel
  induction fuel with
  | zero =>
    intro listed a w _ hr hy hS H
    refine ⟨fun h => (by rw [h] at hr; cases hr), fun j hj => ?_⟩
    by_cases hji : j = i
    · subst hji; exact hy.wpOp hi hS ⟨fun _ => hS, H⟩
    · have := ready_mono hj hji
      rw [H.1] at this
      cases this
  | succ fuel ih =>
    intro listed a w hfree hr hy hS H
    refine ⟨fun h => (by rw [h] at hr; cases hr), fun j hj => ?_⟩
    by_cases hji : j = i
    · subst hji; exact hy.wpOp hi hS ⟨fun _ => hS, H⟩
    · have h1 := H.2 j (ready_mono hj hji)
      obtain ⟨hjun, oj, hoj, hall⟩ := mem_ready.1 hj
      have hnot : ∀ e ∈ oj.after, Region.binds md e = true → e.on ≠ i := fun e he hb heq => by
        have h1 := hall e he hb
        have h0 := (mem_ready.1 hr).1
        rw [heq] at h1
        rcases Nat.lt_or_ge i listed.size with h' | h'
        · simp [h'] at h0 h1; rw [h0] at h1; cases h1
        · simp [Array.getElem?_eq_none h'] at h1
      have hwj : Wr j = false := by
        cases hw : Wr j with
        | false => rfl
        | true =>
          obtain ⟨e, he, hb, heq⟩ := hW j oj hoj hw
          exact absurd heq (hnot e he hb)
      have h2 := wpOp_putIf hoj (hfree j oj hoj hji hjun hnot) (fun cs b => hsel i oi cs b hi) (fun cs b => hsel j oj cs b hoj) hQ hy h1
      have hfree' : ∀ k ok, ops[k]? = some ok → k ≠ i → (listed.setIfInBounds j true).getD k true = false →
          (∀ e ∈ ok.after, Region.binds md e = true → e.on ≠ i) → oi.apart ops ok = true := fun k ok hk hki hun hno => by
        refine hfree k ok hk hki ?_ hno
        by_cases hjk : j = k
        · subst hjk; exact hjun
        · rw [getD_set_ne true hjk] at hun; exact hun
      refine wpOp_mono (fun a' w' h3 => ⟨fun _ => h3.2.1 hwj, ih (listed.setIfInBounds j true) a' w' hfree' (ready_mono hr (Ne.symm hji)) h3.1 (h3.2.1 hwj) ?_⟩) h2
      rw [Array.setIfInBounds_comm _ _ hji]
      exact h3.2.2
/-- whether each writer waits for i, as a Bool -/
def waitsB (md : Region.Mode) (ops : Array Oper) (wr : List Nat) (i : Nat) : Bool := wr.all fun j => ((ops[j]?).map fun oj => oj.after.any fun e => Region.binds md e && (e.on == i)).getD true
theorem waits_of {wr : List Nat} {i : Nat} (h : waitsB md ops wr i = true) : waits md ops (fun j => wr.contains j) i := by
  intro j oj hj hw
  have := List.all_eq_true.1 h j (List.contains_iff_mem.1 hw)
  rw [hj] at this
  simp only [Option.map_some, Option.getD_some, Array.any_eq_true', Bool.and_eq_true, beq_iff_eq] at this
  exact this
theorem wpAnyL_take {wr : List Nat} {i : Nat} {oi : Oper} {v : Value} {fuel : Nat} {listed : Array Bool} {a : Act} {w : World} (hi : ops[i]? = some oi)
    (hs : Region.noSelect ops = true) (hf : Region.free md ops listed i = true) (hr : (Region.ready md ops listed).contains i = true) (hw : waitsB md ops wr i = true)
    (hQ : ∀ c a w, Q (.panic c) (a.put oi.dst v) w → Q (.panic c) a w) (hy : YieldsIf P ops S oi v a) (hS : S w)
    (h : wpAnyL P md ops Q S (fun j => wr.contains j) fuel (listed.setIfInBounds i true) (a.put oi.dst v) w) : wpAnyL P md ops Q S (fun j => wr.contains j) (fuel + 1) listed a w :=
  wpAnyL_first hi (Region.noSelect_spec hs) hQ (waits_of hw) fuel listed a w (Region.free_spec hi hf) (by simpa using hr) hy hS h
theorem wpAnyL_all {rs : List Nat} {fuel : Nat} {listed : Array Bool} {a : Act} {w : World} (hr : Region.ready md ops listed = rs) (hne : rs ≠ [])
    (h : ∀ i ∈ rs, wpOp P ops Q i (fun a' w' => (Wr i = false → S w') ∧ wpAnyL P md ops Q S Wr fuel (listed.setIfInBounds i true) a' w') a w) : wpAnyL P md ops Q S Wr (fuel + 1) listed a w :=
  ⟨fun h0 => absurd (hr ▸ h0) hne, hr ▸ h⟩
/-- one operation may come up alone -/
theorem wpAnyL_one {i : Nat} {oi : Oper} {fuel : Nat} {listed : Array Bool} {a : Act} {w : World} (hr : Region.ready md ops listed = [i]) (hi : ops[i]? = some oi)
    (h : ∀ K : Act → World → Prop, (∀ a' w', (Wr i = false → S w') → wpAnyL P md ops Q S Wr fuel (listed.setIfInBounds i true) a' w' → K a' w') → if Region.wanted oi (yielded ops a.tmps) = true then Oper.wp P oi a w K Q else K (a.put oi.dst undef) w) :
    wpAnyL P md ops Q S Wr (fuel + 1) listed a w := by
  refine wpAnyL_all hr (by simp) fun j hj => ?_
  have hj' : j = i := by simpa using hj
  subst hj'
  unfold wpOp
  rw [hi]
  have := h (fun a' w' => (Wr j = false → S w') ∧ wpAnyL P md ops Q S Wr fuel (listed.setIfInBounds j true) a' w') (fun _ _ h1 h2 => ⟨h1, h2⟩)
  show if Region.wanted oi (yielded ops a.tmps) = true then _ else _
  split
  · rename_i hw
    rw [if_pos hw] at this
    exact .inl this
  · rename_i hw
    rw [if_neg hw] at this
    exact this
theorem wpAnyL_done {listed : Array Bool} {a : Act} {w : World} (hr : Region.ready md ops listed = []) (h : Q .normal a w) :
    ∀ fuel, wpAnyL P md ops Q S Wr fuel listed a w
  | 0 => ⟨hr, h⟩
  | _ + 1 => ⟨fun _ => h, by rw [hr]; simp⟩
theorem wp_region_late (S : World → Prop) (wr : List Nat) {id : Nat} {a : Act} {w : World} (hm : P.follows .mixedOrders = true)
    (h : wpAnyL P .any ops Q S (fun j => wr.contains j) ops.size (Array.replicate ops.size false) a { w with drawn := w.drawn + 1 }) : (Code.region id ops true).wp P Q a w :=
  wp_region_any hm (wpAny_of_late _ _ _ _ h)
theorem wp_region_late2 (S : World → Prop) (wr : List Nat) (n : Nat) (l : Array Bool) {id : Nat} {a : Act} {w : World} (hn : ops.size = n) (hl : Array.replicate n false = l) (hm : P.follows .mixedOrders = true)
    (h : wpAnyL P .any ops Q S (fun j => wr.contains j) n l a w.drew) : (Code.region id ops true).wp P Q a w := by
  subst hl
  subst hn
  exact wp_region_late S wr hm h
end
end C
end Go.Proofs.Ytbcobheiofajeaa
namespace Go.Proofs.Ytbcobheiofajeaa
open Go.RowKit
namespace C
theorem step_call {P : Program} {w : World} {ops : Array Oper} {o : Oper} {a : Act} {K : Act → World → Prop} {Q : Exit → Act → World → Prop} {E : Prop} (hgd : o.guard = none) (f : FuncId) (args : Array Value)
    (hr : (execOp a.eval o).run P w = .ok (.enter f args) w) {R : Ending → World → Prop} (hc : Calls P f args w R) (hR : ∀ e w', R e w' → ∃ v, e = .returned v ∧ K (a.put o.dst v) w') :
    if Region.wanted o (yielded ops a.tmps) = true then Oper.wp P o a w K Q else E := by
  have hw : Region.wanted o (yielded ops a.tmps) = true := by simp [Region.wanted, hgd]
  rw [if_pos hw]
  unfold Oper.wp
  rw [hr, Oper.upon_enter]
  refine hc.mono fun e w' h => ?_
  obtain ⟨v, rfl, hk⟩ := hR e w' h
  exact hk
theorem step_callG {P : Program} {w : World} {ops : Array Oper} {o : Oper} {a : Act} {K : Act → World → Prop} {Q : Exit → Act → World → Prop} {E : Prop} (hw : Region.wanted o (yielded ops a.tmps) = true) (f : FuncId) (args : Array Value)
    (hr : (execOp a.eval o).run P w = .ok (.enter f args) w) {R : Ending → World → Prop} (hc : Calls P f args w R) (hR : ∀ e w', R e w' → ∃ v, e = .returned v ∧ K (a.put o.dst v) w') :
    if Region.wanted o (yielded ops a.tmps) = true then Oper.wp P o a w K Q else E := by
  rw [if_pos hw]
  unfold Oper.wp
  rw [hr, Oper.upon_enter]
  refine hc.mono fun e w' h => ?_
  obtain ⟨v, rfl, hk⟩ := hR e w' h
  exact hk
theorem own_ne_own {w : World} {B B' : Nat} {e e' : TypeId} {size size' : Nat} {v v' : Value} {n n' : Nat} {xs xs' : List Value} (h : w.ownsRow B e size v n xs) (h' : w.ownsRow B' e' size' v' n' xs') (hne : e ≠ e') : v'.ownBlock = none ∨ v.ownBlock ≠ v'.ownBlock := by
  rcases h'.2 with ⟨rfl, _⟩ | ⟨g', cap', cur', rfl, _, hh', _⟩
  · exact .inl rfl
  · right
    rcases h.2 with ⟨rfl, _⟩ | ⟨g, cap, cur, rfl, _, hh, _⟩
    · simp [Value.ownBlock]
    · intro he
      have : g = g' := by simpa [Value.ownBlock] using he
      subst this
      rw [hh] at hh'
      injection hh' with hh'
      injection hh' with _ ht
      exact hne ht
theorem own_ne_own2 {w : World} {B B' : Nat} {e e' : TypeId} {size size' : Nat} {v v' : Value} {n n' : Nat} {xs xs' : List Value} (h : w.ownsRow B e size v n xs) (h' : w.ownsRow B' e' size' v' n' xs') (hne : e ≠ e') : v'.ownBlock = none ∨ v'.ownBlock ≠ v.ownBlock := (own_ne_own h h' hne).imp id Ne.symm
theorem own_setBox {w : World} {B g : Nat} {e T : TypeId} {size : Nat} {v x y z : Value} {n : Nat} {xs : List Value} (h : w.ownsRow B e size v n xs) (hb : Box3 w g T x y z) (hne : e ≠ T) (i : Nat) (u : Value) : (w.setCell ⟨g, i, none⟩ u).ownsRow B e size v n xs := by
  have hn := own_ne_box h hb hne
  rcases h with ⟨hl, h | ⟨g', cap, cur, hv, hB, hh, hr⟩⟩
  · exact ⟨hl, .inl h⟩
  · refine ⟨hl, .inr ⟨g', cap, cur, hv, hB, ?_, hr⟩⟩
    rw [Below.heap_setCell w ⟨g, i, none⟩ u g' (by rintro rfl; exact hn (by rw [hv]; rfl))]
    exact hh
theorem Box3.set1 {X : World} {g : Nat} {T : TypeId} {x y z : Value} (h : Box3 X g T x y z) (u : Value) : Box3 (X.setCell ⟨g, 1, none⟩ u) g T x u z := by
  unfold Box3 at h ⊢
  simp [World.setCell, Array.getElem?_modify, h]
theorem Box3.other {X : World} {g g' : Nat} {T : TypeId} {x y z : Value} (h : Box3 X g T x y z) (hne : g ≠ g') (i : Nat) (u : Value) : Box3 (X.setCell ⟨g', i, none⟩ u) g T x y z := (Below.heap_setCell X ⟨g', i, none⟩ u g hne).trans h
theorem OwnAt.boxed {lo hi : Nat} {w : World} {T S : TypeId} {a : Option Addr} {xs : List Value} {g : Nat} {x y z : Value} (h : OwnAt lo hi w T a xs) (hb : Box3 w g S x y z) (hne : T ≠ S) (i : Nat) (u : Value) : OwnAt lo hi (w.setCell ⟨g, i, none⟩ u) T a xs := by
  rcases h with h | ⟨b, off, cur, ha, h1, h2, hh, hc⟩
  · exact .inl h
  · refine .inr ⟨b, off, cur, ha, h1, h2, ?_, hc⟩
    rw [Below.heap_setCell w ⟨g, i, none⟩ u b (by
      rintro rfl
      have hb' : w.heap[b]? = some (.cells #[x, y, z] S (0, 0)) := hb
      rw [hh] at hb'
      injection hb' with e
      injection e with _ e2
      exact hne e2)]
    exact hh
end C
end Go.Proofs.Ytbcobheiofajeaa
namespace Go.Proofs.Ytbcobheiofajeaa
open Go
namespace C
section
variable {P : Program} {ops : Array Oper} {Q : Exit → Act → World → Prop} {md : Region.Mode} {S : World → Prop} {Wr : Nat → Bool}
theorem wpOp_one {i : Nat} {oi : Oper} {fuel : Nat} {listed : Array Bool} {a : Act} {w : World} (hi : ops[i]? = some oi)
    (h : ∀ K : Act → World → Prop, (∀ a' w', (Wr i = false → S w') → wpAnyL P md ops Q S Wr fuel (listed.setIfInBounds i true) a' w' → K a' w') → if Region.wanted oi (yielded ops a.tmps) = true then Oper.wp P oi a w K Q else K (a.put oi.dst undef) w) :
    wpOp P ops Q i (fun a' w' => (Wr i = false → S w') ∧ wpAnyL P md ops Q S Wr fuel (listed.setIfInBounds i true) a' w') a w := by
  unfold wpOp
  rw [hi]
  have := h (fun a' w' => (Wr i = false → S w') ∧ wpAnyL P md ops Q S Wr fuel (listed.setIfInBounds i true) a' w') (fun _ _ h1 h2 => ⟨h1, h2⟩)
  show if Region.wanted oi (yielded ops a.tmps) = true then _ else _
  split
  · rename_i hw
    rw [if_pos hw] at this
    exact .inl this
  · rename_i hw
    rw [if_neg hw] at this
    exact this
/-- two operations may come up -/
theorem wpAnyL_two {i j : Nat} {oi oj : Oper} {fuel : Nat} {listed : Array Bool} {a : Act} {w : World} (hr : Region.ready md ops listed = [i, j]) (hi : ops[i]? = some oi) (hj : ops[j]? = some oj)
    (h1 : ∀ K : Act → World → Prop, (∀ a' w', (Wr i = false → S w') → wpAnyL P md ops Q S Wr fuel (listed.setIfInBounds i true) a' w' → K a' w') → if Region.wanted oi (yielded ops a.tmps) = true then Oper.wp P oi a w K Q else K (a.put oi.dst undef) w)
    (h2 : ∀ K : Act → World → Prop, (∀ a' w', (Wr j = false → S w') → wpAnyL P md ops Q S Wr fuel (listed.setIfInBounds j true) a' w' → K a' w') → if Region.wanted oj (yielded ops a.tmps) = true then Oper.wp P oj a w K Q else K (a.put oj.dst undef) w) :
    wpAnyL P md ops Q S Wr (fuel + 1) listed a w := by
  refine wpAnyL_all hr (by simp) fun k hk => ?_
  rcases List.mem_cons.1 hk with rfl | hk
  · exact wpOp_one hi h1
  · obtain rfl : k = j := by simpa using hk
    exact wpOp_one hj h2
end
end C
end Go.Proofs.Ytbcobheiofajeaa
namespace Go.Proofs.Ytbcobheiofajeaa
open Go.RowKit
namespace C
theorem Turned.set3 {w : World} (r : Nat) (u0 u1 u2 : Value) : Turned r (r + 1) w (((w.setCell ⟨r, 0, none⟩ u0).setCell ⟨r, 1, none⟩ u1).setCell ⟨r, 2, none⟩ u2) :=
  ((Turned.setCell _ _ _ _ (Nat.le_refl _) (Nat.lt_succ_self _)).trans (Turned.setCell _ _ _ _ (Nat.le_refl _) (Nat.lt_succ_self _))).trans (Turned.setCell _ _ _ _ (Nat.le_refl _) (Nat.lt_succ_self _))
theorem mz_endAt {w w3 : World} {r lo hi nd nk : Nat} {m : M.Mz} {a b : Option Addr} {c d : Nat} {u0 u1 u2 : Value} (hB : Below w.heap.size w w3) (ho : MzOwn lo hi w3 m a c b d) (hr : r < lo ∨ hi ≤ r) (h0 : w.heap.size ≤ r) (h1 : w.heap.size ≤ lo) (h2 : hi ≤ w3.heap.size) (hnd : m.doors.length = nd) (hnk : m.keys.length = nk) :
    MzPost w m (.returned (.agg #[.int .i64 m.size, .slice a nd c, .slice b nk d])) (((w3.setCell ⟨r, 0, none⟩ u0).setCell ⟨r, 1, none⟩ u1).setCell ⟨r, 2, none⟩ u2) := by
  have hT := Turned.set3 (w := w3) r u0 u1 u2
  have hs := hT.size
  have hz := hB.size
  subst hnd; subst hnk
  exact ⟨_, _, _, _, rfl, (ho.turned hT h2 (by omega)).mono h1 (by omega), Below.thenTurned hB hT h0 hz⟩
theorem mzNo_endAt {w w3 : World} {r : Nat} {u0 u1 u2 : Value} (hB : Below w.heap.size w w3) (h0 : w.heap.size ≤ r) :
    MzOkPost w mz0 false (.returned (.tuple #[.agg #[.int .i64 0, .slice none 0 0, .slice none 0 0], .bool false])) (((w3.setCell ⟨r, 0, none⟩ u0).setCell ⟨r, 1, none⟩ u1).setCell ⟨r, 2, none⟩ u2) :=
  ⟨_, _, _, _, rfl, MzOwn.zero _ _ _, Below.thenTurned hB (Turned.set3 (w := w3) r u0 u1 u2) h0 hB.size⟩
theorem mzYes_endAt {w w3 : World} {r lo hi nd nk : Nat} {ok : Bool} {m : M.Mz} {a b : Option Addr} {c d : Nat} {u0 u1 u2 : Value} (hB : Below w.heap.size w w3) (ho : MzOwn lo hi w3 m a c b d) (hr : r < lo ∨ hi ≤ r) (h0 : w.heap.size ≤ r) (h1 : w.heap.size ≤ lo) (h2 : hi ≤ w3.heap.size) (hnd : m.doors.length = nd) (hnk : m.keys.length = nk) :
    MzOkPost w m ok (.returned (.tuple #[.agg #[.int .i64 m.size, .slice a nd c, .slice b nk d], .bool ok])) (((w3.setCell ⟨r, 0, none⟩ u0).setCell ⟨r, 1, none⟩ u1).setCell ⟨r, 2, none⟩ u2) := by
  obtain ⟨a', c', b', d', he, hq, hb⟩ := mz_endAt (u0 := u0) (u1 := u1) (u2 := u2) hB ho hr h0 h1 h2 hnd hnk
  injection he with he
  refine ⟨a', c', b', d', by rw [he], hq, hb⟩
end C
end Go.Proofs.Ytbcobheiofajeaa
namespace Go.Proofs.Ytbcobheiofajeaa
open Go.RowKit
namespace M
def repT {α : Type} (f : α → α) (l : List α) (k : Nat) : List α := (l.take k).map f ++ l.drop k
section
variable {α : Type} {f : α → α} {l : List α} {k : Nat}
theorem repT_len (f : α → α) (l : List α) (k : Nat) : (repT f l k).length = l.length := by unfold repT; rw [List.length_append, List.length_map, List.length_take, List.length_drop]; omega
theorem repT_zero (f : α → α) (l : List α) : repT f l 0 = l := by unfold repT; simp
theorem repT_all (f : α → α) (l : List α) : repT f l l.length = l.map f := by unfold repT; simp
theorem repT_at (h : k < l.length) : repT f l k = (l.take k).map f ++ l[k] :: l.drop (k + 1) := by unfold repT; rw [List.drop_eq_getElem_cons h]
theorem repT_next (h : k < l.length) : repT f l (k + 1) = (l.take k).map f ++ f l[k] :: l.drop (k + 1) := by
  unfold repT
  rw [List.take_succ_eq_append_getElem h, List.map_append, List.append_assoc]
  rfl
theorem repT_set (h : k < l.length) : (repT f l k).set k (f l[k]) = repT f l (k + 1) := by
  rw [repT_at h, repT_next h, List.set_append_right _ _ (by rw [List.length_map, List.length_take]; omega)]
  have : k - ((l.take k).map f).length = 0 := by rw [List.length_map, List.length_take]; omega
  rw [this]
  rfl
theorem repT_get (h : k < l.length) : (repT f l k)[k]? = some l[k] := by
  rw [repT_at h, List.getElem?_append_right (by rw [List.length_map, List.length_take]; omega)]
  have : k - ((l.take k).map f).length = 0 := by rw [List.length_map, List.length_take]; omega
  rw [this]
  rfl
end
end M
end Go.Proofs.Ytbcobheiofajeaa
namespace Go.Proofs.Ytbcobheiofajeaa
open Go.RowKit
namespace C
set_option maxHeartbeats 1600000
set_option maxRecDepth 20000
theorem own_weaken {w : World} {B B' : Nat} {e : TypeId} {size : Nat} {v : Value} {n : Nat} {xs : List Value} (h : w.ownsRow B e size v n xs) (hB : B' ≤ B) : w.ownsRow B' e size v n xs := by
  rcases h with ⟨hl, h | ⟨g, cap, cur, hv, hb, hr⟩⟩
  · exact ⟨hl, .inl h⟩
  · exact ⟨hl, .inr ⟨g, cap, cur, hv, Nat.le_trans hB hb, hr⟩⟩
theorem own_turned {w w' : World} {lo hi B : Nat} {e : TypeId} {size : Nat} {v : Value} {n : Nat} {xs : List Value} (h : w.ownsRow B e size v n xs) (t : Turned lo hi w w') (hd : hi ≤ B) : w'.ownsRow B e size v n xs := by
  rcases h with ⟨hl, h | ⟨g, cap, cur, hv, hb, hh, hr⟩⟩
  · exact ⟨hl, .inl h⟩
  · exact ⟨hl, .inr ⟨g, cap, cur, hv, hb, (t.block g (heap_lt hh) (.inr (by omega))).trans hh, hr⟩⟩
def IntsOwnPost (w : World) (l : List Int) (e : Ending) (w' : World) : Prop :=
  ∃ a c, e = .returned (.slice a l.length c) ∧ w'.ownsRow w.heap.size 3 1 (.slice a l.length c) l.length (M.encIs l) ∧ Below w.heap.size w w'
def DoorsOwnPost (w : World) (l : List M.Dr) (e : Ending) (w' : World) : Prop :=
  ∃ a c, e = .returned (.slice a l.length c) ∧ w'.ownsRow w.heap.size 103 3 (.slice a l.length c) l.length (M.encDs l) ∧ Below w.heap.size w w'
theorem intsOwn_end {w w' : World} {l : List Int} {v : Value} (h : w'.ownsRow w.heap.size 3 1 v l.length (M.encIs l)) (hb : Below w.heap.size w w') : IntsOwnPost w l (.returned v) w' := by
  have h0 := h
  obtain ⟨a, c, rfl, _, _, _⟩ := own_slice h
  exact ⟨a, c, rfl, h0, hb⟩
theorem doorsOwn_end {w w' : World} {l : List M.Dr} {v : Value} (h : w'.ownsRow w.heap.size 103 3 v l.length (M.encDs l)) (hb : Below w.heap.size w w') : DoorsOwnPost w l (.returned v) w' := by
  have h0 := h
  obtain ⟨a, c, rfl, _, _, _⟩ := own_slice h
  exact ⟨a, c, rfl, h0, hb⟩
theorem cloneInts_own (w : World) (lo hi : Nat) (a : Option Addr) (c : Nat) (l : List Int) (h : RowIn lo hi w a (M.encIs l)) (hz : hi ≤ w.heap.size) (hl : l.length ≤ 1048576) :
    Calls Try.prog 119 #[.slice a l.length c] w (IntsOwnPost w l) := by
  obtain ⟨i0, hi0, hz0, hz1, hz2⟩ := info_parts infoI
  have H := Lib.hid h
  clear h
  have ho := ownsRow_empty w w.heap.size 3 1 (Nat.le_refl _)
  have HO := Lib.hid ho
  clear ho
  rcases a with _ | ad
  · obtain rfl : l = [] := by
      rcases H.out with h | ⟨b, off, e, _⟩
      · exact List.eq_nil_of_length_eq_zero (by rw [← M.encIs_len, h]; rfl)
      · cases e
    have hq := fun W => Lib.run_eql_slice_nil (P := Try.prog) W 39 3 none 0 c 0 0 Try.underlying39
    go_enter Try.func119, Try.ntmps119
    go_wp2_with fail
    go_ret
    exact intsOwn_end (l := []) (World.ownsRow_nil _ _ _ _) (Below.refl _ _)
  · have hcells : ∀ j u, (M.encIs l)[j]? = some u → (w.alloc (.cells #[] 3)).cell? (ad.add j) = some u := by
      intro j u hu
      rcases H.out with h | ⟨b, off, e, _, hb, hc⟩
      · rw [h] at hu; simp at hu
      · injection e with e
        subst e
        have hadd : (⟨b, off, none⟩ : Addr).add j = ⟨b, off + j, none⟩ := by
          unfold Addr.add
          split
          · rename_i h; subst h; rfl
          · rfl
        rw [hadd]
        exact (World.cell?_alloc_lt w _ _ (show b < _ by omega)).trans (hc j u hu)
    have HC := Lib.hid hcells
    clear hcells
    have hq := fun W => Lib.run_eql_slice_nil (P := Try.prog) W 39 3 (some ad) l.length c 0 0 Try.underlying39
    go_enter Try.func119, Try.ntmps119
    go_wp2_with (at_builtin; refine wpList_append_own _ rfl _ _ 39 rfl w.heap.size 3 i0 (.int .i64 0) 1 8 Try.underlying39 hi0 hz0 hz1 hz2 rfl (by decide) _ _ _ rfl HO.out ad l.length c (M.encIs l) rfl (by rw [M.encIs_len, Nat.mul_one]) HC.out (fun x hx => by unfold M.encIs at hx; obtain ⟨z, _, rfl⟩ := List.mem_map.1 hx; rfl) (by unfold maxLen; omega) (by omega) (by simp) ?_; intro v' w3 hown' hgrow3 hnil3)
    go_ret
    refine intsOwn_end (by simpa using hown') ((below_alloc _ _).grown hgrow3 (by simp) (own_base HO.out))
theorem cloneDoors_own (w : World) (lo hi : Nat) (a : Option Addr) (c : Nat) (l : List M.Dr) (h : RowIn lo hi w a (M.encDs l)) (hz : hi ≤ w.heap.size) (hl : l.length ≤ 1048576) :
    Calls Try.prog 118 #[.slice a l.length c] w (DoorsOwnPost w l) := by
  obtain ⟨i0, hi0, hz0, hz1, hz2⟩ := info_parts infoD
  have H := Lib.hid h
  clear h
  have ho := ownsRow_empty w w.heap.size 103 3 (Nat.le_refl _)
  have HO := Lib.hid ho
  clear ho
  rcases a with _ | ad
  · obtain rfl : l = [] := by
      rcases H.out with h | ⟨b, off, e, _⟩
      · exact List.eq_nil_of_length_eq_zero (by have := M.encDs_len l; rw [h] at this; simp at this; omega)
      · cases e
    have hq := fun W => Lib.run_eql_slice_nil (P := Try.prog) W 49 103 none 0 c 0 0 Try.underlying49
    go_enter Try.func118, Try.ntmps118
    go_wp2_with fail
    go_ret
    exact doorsOwn_end (l := []) (World.ownsRow_nil _ _ _ _) (Below.refl _ _)
  · have hcells : ∀ j u, (M.encDs l)[j]? = some u → (w.alloc (.cells #[] 103)).cell? (ad.add j) = some u := by
      intro j u hu
      rcases H.out with h | ⟨b, off, e, _, hb, hc⟩
      · rw [h] at hu; simp at hu
      · injection e with e
        subst e
        have hadd : (⟨b, off, none⟩ : Addr).add j = ⟨b, off + j, none⟩ := by
          unfold Addr.add
          split
          · rename_i h; subst h; rfl
          · rfl
        rw [hadd]
        exact (World.cell?_alloc_lt w _ _ (show b < _ by omega)).trans (hc j u hu)
    have HC := Lib.hid hcells
    clear hcells
    have hq := fun W => Lib.run_eql_slice_nil (P := Try.prog) W 49 103 (some ad) l.length c 0 0 Try.underlying49
    go_enter Try.func118, Try.ntmps118
    go_wp2_with (at_builtin; refine wpList_append_own _ rfl _ _ 49 rfl w.heap.size 103 i0 (.agg #[.int .i64 0, .int .i64 0, .int .i64 0]) 3 24 Try.underlying49 hi0 hz0 hz1 hz2 rfl (by decide) _ _ _ rfl HO.out ad l.length c (M.encDs l) rfl (M.encDs_len l) HC.out (encDs_one l) (by unfold maxLen; omega) (by omega) (by simp) ?_; intro v' w3 hown' hgrow3 hnil3)
    go_ret
    refine doorsOwn_end (by simpa using hown') ((below_alloc _ _).grown hgrow3 (by simp) (own_base HO.out))
/-- a maze in rows that the call owns -/
def MzRowPost (w : World) (m : M.Mz) (e : Ending) (w' : World) : Prop :=
  ∃ a c b d, e = .returned (.agg #[.int .i64 m.size, .slice a m.doors.length c, .slice b m.keys.length d]) ∧ w'.ownsRow w.heap.size 103 3 (.slice a m.doors.length c) m.doors.length (M.encDs m.doors) ∧ w'.ownsRow w.heap.size 3 1 (.slice b m.keys.length d) m.keys.length (M.encIs m.keys) ∧ Below w.heap.size w w'
theorem mzr_end {w w3 : World} {m : M.Mz} {da ia : Option Addr} {dc ic : Nat} {u0 u1 u2 : Value} (hB : Below w.heap.size w w3)
    (p1 : w3.ownsRow (w.heap.size + 1 + 1) 103 3 (.slice da m.doors.length dc) m.doors.length (M.encDs m.doors)) (p2 : w3.ownsRow (w.heap.size + 1 + 1) 3 1 (.slice ia m.keys.length ic) m.keys.length (M.encIs m.keys)) (hz : w.heap.size + 1 < w3.heap.size) :
    MzRowPost w m (.returned (.agg #[.int .i64 m.size, .slice da m.doors.length dc, .slice ia m.keys.length ic])) (((w3.setCell ⟨w.heap.size + 1, 0, none⟩ u0).setCell ⟨w.heap.size + 1, 1, none⟩ u1).setCell ⟨w.heap.size + 1, 2, none⟩ u2) := by
  have hT : Turned (w.heap.size + 1) (w.heap.size + 1 + 1) w3 (((w3.setCell ⟨w.heap.size + 1, 0, none⟩ u0).setCell ⟨w.heap.size + 1, 1, none⟩ u1).setCell ⟨w.heap.size + 1, 2, none⟩ u2) :=
    ((Turned.setCell _ _ _ _ (by omega) (by omega)).trans (Turned.setCell _ _ _ _ (by omega) (by omega))).trans (Turned.setCell _ _ _ _ (by omega) (by omega))
  exact ⟨_, _, _, _, rfl, own_weaken (own_turned p1 hT (Nat.le_refl _)) (by omega), own_weaken (own_turned p2 hT (Nat.le_refl _)) (by omega), Below.thenTurned hB hT (by omega) (by omega)⟩
theorem clone_row (w : World) (lo hi : Nat) (m : M.Mz) (a b : Option Addr) (c d : Nat) (h : MzIn lo hi w m a c b d) (hz : hi ≤ w.heap.size) (h1 : m.doors.length ≤ 1048576) (h2 : m.keys.length ≤ 1048576) :
    Calls Try.prog 87 #[.agg #[.int .i64 m.size, .slice a m.doors.length c, .slice b m.keys.length d]] w (MzRowPost w m) := by
  have H := Lib.hid h
  clear h
  go_enter Try.func87, Try.ntmps87
  go_wp2_with fail
  refine wp_named ?_
  intro W hW
  have hb : Below w.heap.size w W := by rw [hW]; exact ((Below.refl _ _).alloc (Nat.le_refl _) _).alloc (by simp) _
  have x1 : Box3 W w.heap.size 55 (.int .i64 m.size) (.slice a m.doors.length c) (.slice b m.keys.length d) := by rw [hW]; exact (Box3.new _ _ _ _ rfl).alloc _
  have x2 : Box3 W (w.heap.size + 1) 55 (.int .i64 0) (.slice none 0 0) (.slice none 0 0) := by rw [hW]; exact Box3.new _ _ _ _ (by simp)
  clear hW
  have hzw := hb.size
  have hz1 := x2.lt
  have X1 := Lib.hid x1
  have X2 := Lib.hid x2
  have HB := Lib.hid hb
  obtain ⟨c0, c1, c2⟩ := x1.cells
  obtain ⟨f0, f1, f2⟩ := x2.free
  have CD := Lib.hid (fun W' (hq : Below W.heap.size W W') => cloneDoors_own W' lo hi a c m.doors (H.out.doors.below (hb.trans (hq.mono hzw)) hz) (Nat.le_trans hz (Nat.le_trans hzw hq.size)) h1)
  have CI := Lib.hid (fun W' (hq : Below W.heap.size W W') => cloneInts_own W' lo hi b d m.keys (H.out.keys.below (hb.trans (hq.mono hzw)) hz) (Nat.le_trans hz (Nat.le_trans hzw hq.size)) h2)
  clear x1 x2 hb
  go_region_held3 (fun wq => wq.cell? ⟨w.heap.size, 0, none⟩ = some (.int .i64 m.size) ∧ wq.cell? ⟨w.heap.size, 1, none⟩ = some (.slice a m.doors.length c) ∧ wq.cell? ⟨w.heap.size, 2, none⟩ = some (.slice b m.keys.length d)) (first | exact ⟨d0, d1, d2⟩ | go_keep) (first
    | (go_at_call 118
       first
       | (refine (CD.out _ hbq).mono ?_; rintro e w3 ⟨da, dc, rfl, od, hb3⟩; have hbr := hbq.trans (hb3.mono hbq.size); obtain ⟨d0, d1, d2⟩ := (X1.out.below hbr).cells; obtain ⟨g0, g1, g2⟩ := (X2.out.below hbr).free; obtain ⟨k0, k1, k2⟩ := (X2.out.below hbr).cells)
       | (refine (CD.out _ (Below.refl W.heap.size W).drew).mono ?_; rintro e w2 ⟨da, dc, rfl, od, hb2⟩; have hbq : Below W.heap.size W w2 := (Below.refl W.heap.size W).drew.trans hb2; obtain ⟨d0, d1, d2⟩ := (X1.out.below hbq).cells; obtain ⟨g0, g1, g2⟩ := (X2.out.below hbq).free; obtain ⟨k0, k1, k2⟩ := (X2.out.below hbq).cells))
    | (go_at_call 119
       first
       | (refine (CI.out _ hbq).mono ?_; rintro e w3 ⟨ia, ic, rfl, oi, hb3⟩; have hbr := hbq.trans (hb3.mono hbq.size); obtain ⟨d0, d1, d2⟩ := (X1.out.below hbr).cells; obtain ⟨g0, g1, g2⟩ := (X2.out.below hbr).free; obtain ⟨k0, k1, k2⟩ := (X2.out.below hbr).cells)
       | (refine (CI.out _ (Below.refl W.heap.size W).drew).mono ?_; rintro e w2 ⟨ia, ic, rfl, oi, hb2⟩; have hbq : Below W.heap.size W w2 := (Below.refl W.heap.size W).drew.trans hb2; obtain ⟨d0, d1, d2⟩ := (X1.out.below hbq).cells; obtain ⟨g0, g1, g2⟩ := (X2.out.below hbq).free; obtain ⟨k0, k1, k2⟩ := (X2.out.below hbq).cells)))
  all_goals
    have hdz : W.drew.heap.size = W.heap.size := rfl
    have hzq := hbq.size
    have hz3 := hb3.size
    have p1 : Hid (w3.ownsRow (w.heap.size + 1 + 1) 103 3 (.slice da m.doors.length dc) m.doors.length (M.encDs m.doors)) := by
      first
      | exact Lib.hid (own_weaken (own_below od hb3) (by omega))
      | exact Lib.hid (own_weaken od (by omega))
    have p2 : Hid (w3.ownsRow (w.heap.size + 1 + 1) 3 1 (.slice ia m.keys.length ic) m.keys.length (M.encIs m.keys)) := by
      first
      | exact Lib.hid (own_weaken (own_below oi hb3) (by omega))
      | exact Lib.hid (own_weaken oi (by omega))
    have hBW := Lib.hid (HB.out.trans (hbr.mono hzw))
    clear od oi hbq hb3 hbr
    go_wp2_with fail
    refine bodyPost_ret (v := .agg #[.int .i64 m.size, .slice da m.doors.length dc, .slice ia m.keys.length ic]) (by simp [results, Try.results87, go_sem, k0, k1, k2]) rfl ?_
    exact mzr_end hBW.out p1.out p2.out (by omega)
end C
end Go.Proofs.Ytbcobheiofajeaa
namespace Go.Proofs.Ytbcobheiofajeaa
open Go.RowKit
namespace C
set_option maxHeartbeats 1600000
set_option maxRecDepth 20000
theorem l1Own_own (w : World) (lo hi : Nat) (a : Option Addr) (c : Nat) (l : List Int) (h : RowIn lo hi w a (M.encIs l)) (hz : hi ≤ w.heap.size) (hl : l.length ≤ 1048576) :
    Calls Try.prog 102 #[.slice a l.length c] w (IntsOwnPost w l) := by
  obtain ⟨i0, hi0, hz0, hz1, hz2⟩ := info_parts infoI
  have H := Lib.hid h
  clear h
  have ho := ownsRow_empty w w.heap.size 3 1 (Nat.le_refl _)
  have HO := Lib.hid ho
  clear ho
  rcases a with _ | ad
  · obtain rfl : l = [] := by
      rcases H.out with h | ⟨b, off, e, _⟩
      · exact List.eq_nil_of_length_eq_zero (by rw [← M.encIs_len, h]; rfl)
      · cases e
    have hrun := run_app_nil (P := Try.prog) (w.alloc (.cells #[] 3)) w.heap.size 39 39 3 i0 1 Try.underlying39 hi0 (.slice (some ⟨w.heap.size, 0, none⟩) 0 0) 0 [] HO.out c
    go_enter Try.func102, Try.ntmps102
    go_wp2_with fail
    go_ret
    exact intsOwn_end (l := []) HO.out (below_alloc _ _)
  · have hcells : ∀ j u, (M.encIs l)[j]? = some u → (w.alloc (.cells #[] 3)).cell? (ad.add j) = some u := by
      intro j u hu
      rcases H.out with h | ⟨b, off, e, _, hb, hc⟩
      · rw [h] at hu; simp at hu
      · injection e with e
        subst e
        have hadd : (⟨b, off, none⟩ : Addr).add j = ⟨b, off + j, none⟩ := by
          unfold Addr.add
          split
          · rename_i h; subst h; rfl
          · rfl
        rw [hadd]
        exact (World.cell?_alloc_lt w _ _ (show b < _ by omega)).trans (hc j u hu)
    have HC := Lib.hid hcells
    clear hcells
    go_enter Try.func102, Try.ntmps102
    go_wp2_with (at_builtin; refine wpList_append_own _ rfl _ _ 39 rfl w.heap.size 3 i0 (.int .i64 0) 1 8 Try.underlying39 hi0 hz0 hz1 hz2 rfl (by decide) _ _ _ rfl HO.out ad l.length c (M.encIs l) rfl (by rw [M.encIs_len, Nat.mul_one]) HC.out (fun x hx => by unfold M.encIs at hx; obtain ⟨z, _, rfl⟩ := List.mem_map.1 hx; rfl) (by unfold maxLen; omega) (by omega) (by simp) ?_; intro v' w3 hown' hgrow3 hnil3)
    go_ret
    refine intsOwn_end (by simpa using hown') ((below_alloc _ _).grown hgrow3 (by simp) (own_base HO.out))
end C
end Go.Proofs.Ytbcobheiofajeaa
