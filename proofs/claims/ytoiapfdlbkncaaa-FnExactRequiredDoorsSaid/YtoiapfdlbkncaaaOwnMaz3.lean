/-
  CONTRACT of spec.l2Own, a maze's copy, in full. Condition: at most 1048576 doors and keys.
-/
import Derived.Test.YtoiapfdlbkncaaaOwnMaz2
import Derived.Deep.RegionLaw
namespace Go.Proofs.Ytoiapfdlbkncaaa
open Go.RowKit
namespace C
set_option maxHeartbeats 32000000
set_option maxRecDepth 20000
theorem step_append_own {P : Program} {w : World} {ops : Array Oper} {o : Oper} {a : Act} {K : Act → World → Prop} {Q : Exit → Act → World → Prop} {E : Prop} (hgd : o.guard = none) (s x : Operand) (t : TypeId)
    (ho : o.op = .call { callee := .builtin .append, args := #[s, x], argTypes := #[t, t] })
    (base : Nat) (e : TypeId) (i : TypeInfo) (z : Value) (size bytes : Nat) (ht : P.underlying t = some (.slice e)) (hi : P.info? e = some i) (hz : i.zero = some z)
    (hsize : i.size = size) (hby : i.bytes = bytes) (hzs : z.cells.size = size) (hsz : 0 < size)
    (v : Value) (n : Nat) (xs : List Value) (hown : w.ownsRow base e size v n xs) (hs : a.eval s = v)
    (ad : Addr) (m c : Nat) (news : List Value) (hx : a.eval x = .slice (some ad) m c) (hl : news.length = m * size) (hnews : ∀ j u, news[j]? = some u → w.cell? (ad.add j) = some u) (h1 : ∀ u ∈ news, u.oneCell' = true)
    (h63 : n + m ≤ maxLen) (hbytes : (n + m) * bytes ≤ 140737488355328) (hbase : base ≤ w.heap.size)
    (h : ∀ v' w', w'.ownsRow base e size v' (n + m) (xs ++ news) → w.grownBy w' v.ownBlock → (v' = .slice none 0 0 ↔ v = .slice none 0 0 ∧ m = 0) → K (a.put o.dst v') w') :
    if Region.wanted o (yielded ops a.tmps) = true then Oper.wp P o a w K Q else E := by
  have hw : Region.wanted o (yielded ops a.tmps) = true := by simp [Region.wanted, hgd]
  rw [if_pos hw]
  exact wp_append_own w s x t ho base e i z size bytes ht hi hz hsize hby hzs hsz v n xs hs hown ad m c news hx hl hnews h1 h63 hbytes hbase h
theorem l2Own_some (w : World) (lo hi : Nat) (m : M.Mz) (ad : Addr) (b : Option Addr) (c d : Nat) (h : MzIn lo hi w m (some ad) c b d) (hz : hi ≤ w.heap.size) (h1 : m.doors.length ≤ 1048576) (h2 : m.keys.length ≤ 1048576) :
    Calls Try.prog 115 #[.agg #[.int .i64 m.size, .slice (some ad) m.doors.length c, .slice b m.keys.length d]] w (MzPost w m) := by
  obtain ⟨i0, hi0, hz0, hz1, hz2⟩ := info_parts infoD
  have H := Lib.hid h
  clear h
  have hcells : ∀ W' (hq : Below w.heap.size w W') j u, (M.encDs m.doors)[j]? = some u → W'.cell? (ad.add j) = some u := by
    intro W' hq j u hu
    rcases H.out.doors with h | ⟨b, off, e, _, hb, hc⟩
    · rw [h] at hu; simp at hu
    · injection e with e
      subst e
      have hadd : (⟨b, off, none⟩ : Addr).add j = ⟨b, off + j, none⟩ := by
        unfold Addr.add
        split
        · rename_i h; subst h; rfl
        · rfl
      rw [hadd]
      exact (hq.cell (p := ⟨b, off + j, none⟩) (show b < _ by omega)).trans (hc j u hu)
  have HC := Lib.hid hcells
  clear hcells
  go_enter Try.func115, Try.ntmps115
  go_wp2_with fail
  refine wp_named ?_
  intro W hW
  have hb : Below w.heap.size w W := by rw [hW]; exact ((Below.refl _ _).alloc (Nat.le_refl _) _).alloc (by simp) _
  have x1 : Box3 W w.heap.size 29 (.int .i64 m.size) (.slice (some ad) m.doors.length c) (.slice b m.keys.length d) := by rw [hW]; exact (Box3.new _ _ _ _ rfl).alloc _
  have x2 : Box3 W (w.heap.size + 1) 29 (.int .i64 0) (.slice none 0 0) (.slice none 0 0) := by rw [hW]; exact Box3.new _ _ _ _ (by simp)
  clear hW
  have hzw := hb.size
  have hzx := x2.lt
  have hz0' := x1.lt
  have X1 := Lib.hid x1
  have X2 := Lib.hid x2
  have HB := Lib.hid hb
  obtain ⟨c0, c1, c2⟩ := x1.cells
  obtain ⟨f0, f1, f2⟩ := x2.free
  have OI := Lib.hid (fun W' (hq : Below W.heap.size W W') => l1Own_any W' lo hi b d m.keys (H.out.keys.below (hb.trans (hq.mono hzw)) hz) (Nat.le_trans hz (Nat.le_trans hzw hq.size)) h2)
  have hdz : W.drew.heap.size = W.heap.size := rfl
  clear x1 x2
  go_region_held3 (fun wq => wq.cell? ⟨w.heap.size, 0, none⟩ = some (.int .i64 m.size) ∧ wq.cell? ⟨w.heap.size, 1, none⟩ = some (.slice (some ad) m.doors.length c) ∧ wq.cell? ⟨w.heap.size, 2, none⟩ = some (.slice b m.keys.length d)) (first | exact ⟨d0, d1, d2⟩ | go_keep) (first
    | (go_at_call 132
       first
       | (refine (OI.out _ hba).mono ?_; rintro e w9 ⟨ia, ic, rfl, oi, qi1, qi2, hb2⟩; have hbr : Below W.heap.size W w9 := hba.trans (hb2.mono hba.size); have hs2 := hba.size; have hs9 := hb2.size; have p1 : Hid (OwnAt (w.heap.size + 1 + 1) w9.heap.size w9 81 da (M.encDs m.doors)) := Lib.hid ((od.below hb2 (Nat.le_refl _)).mono (by omega) (by omega)); have p2 : Hid (OwnAt (w.heap.size + 1 + 1) w9.heap.size w9 3 ia (M.encIs m.keys)) := Lib.hid (oi.mono (by omega) (by omega)); obtain ⟨d0, d1, d2⟩ := (X1.out.below hbr).cells; obtain ⟨g0, g1, g2⟩ := (X2.out.below hbr).free; obtain ⟨k0, k1, k2⟩ := (X2.out.below hbr).cells; have hn1 := (X1.out.below hbr).lt; have hn2 := (X2.out.below hbr).lt)
       | (refine (OI.out _ ((Below.refl W.heap.size W).drew.alloc (Nat.le_refl _) _)).mono ?_; rintro e w2 ⟨ia, ic, rfl, oi, qi1, qi2, hb2⟩; have hbq : Below W.heap.size W w2 := ((Below.refl W.heap.size W).drew.alloc (Nat.le_refl _) _).trans (hb2.mono (by simp)); have hown2 := own_below (ownsRow_empty W.drew W.heap.size 81 3 (Nat.le_refl _)) hb2; have hs2 := hbq.size; obtain ⟨d0, d1, d2⟩ := (X1.out.below hbq).cells; obtain ⟨g0, g1, g2⟩ := (X2.out.below hbq).free; obtain ⟨k0, k1, k2⟩ := (X2.out.below hbq).cells; have hn1 := (X1.out.below hbq).lt; have hn2 := (X2.out.below hbq).lt)
       | (refine (OI.out _ ((Below.refl W.heap.size W).drew)).mono ?_; rintro e w2 ⟨ia, ic, rfl, oi, qi1, qi2, hb2⟩; have hbq : Below W.heap.size W w2 := ((Below.refl W.heap.size W).drew).trans hb2; have hs2 := hbq.size; obtain ⟨d0, d1, d2⟩ := (X1.out.below hbq).cells; obtain ⟨g0, g1, g2⟩ := (X2.out.below hbq).free; obtain ⟨k0, k1, k2⟩ := (X2.out.below hbq).cells; have hn1 := (X1.out.below hbq).lt; have hn2 := (X2.out.below hbq).lt))
    | (first
       | (refine step_append_own rfl (.tmp 5) (.tmp 7) 22 rfl W.heap.size 81 i0 (.agg #[.int .i64 0, .int .i64 0, .int .i64 0]) 3 24 Try.underlying22 hi0 hz0 hz1 hz2 rfl (by decide) _ _ _ hown2 (by simp [Act.eval, Act.put]) ad m.doors.length c (M.encDs m.doors) (by simp [Act.eval, Act.put]) (M.encDs_len _) (HC.out _ (hb.trans (hbq.mono hzw))) (encDs_one _) (by unfold maxLen; omega) (by omega) (by first | (simp; done) | (have := hbq.size; omega)) ?_; intro v' w9 hown' hgrow' hnil'; obtain ⟨da, dc, rfl, qd1, qd2, od⟩ := own_slice (show C.ownsNow w9 W.heap.size v' m by unfold C.ownsNow; simpa using hown'); have hbr : Below W.heap.size W w9 := hbq.grown hgrow' hs2 (own_base hown2); have hs9 := hbr.size; have hg9 := hgrow'.size; have p1 : Hid (OwnAt (w.heap.size + 1 + 1) w9.heap.size w9 81 da (M.encDs m.doors)) := Lib.hid (od.mono (by omega) (by omega)); have p2 : Hid (OwnAt (w.heap.size + 1 + 1) w9.heap.size w9 3 ia (M.encIs m.keys)) := Lib.hid ((oi.turned (turned_of_grown hgrow' rfl) (Nat.le_refl _) (.inr (by simp))).mono (by first | omega | (simp; omega)) (by omega)); obtain ⟨d0, d1, d2⟩ := (X1.out.below hbr).cells; obtain ⟨g0, g1, g2⟩ := (X2.out.below hbr).free; obtain ⟨k0, k1, k2⟩ := (X2.out.below hbr).cells; have hn1 := (X1.out.below hbr).lt; have hn2 := (X2.out.below hbr).lt)
       | (refine step_append_own rfl (.tmp 5) (.tmp 7) 22 rfl w2.heap.size 81 i0 (.agg #[.int .i64 0, .int .i64 0, .int .i64 0]) 3 24 Try.underlying22 hi0 hz0 hz1 hz2 rfl (by decide) _ _ _ (ownsRow_empty w2 w2.heap.size 81 3 (Nat.le_refl _)) (by simp [Act.eval, Act.put]) ad m.doors.length c (M.encDs m.doors) (by simp [Act.eval, Act.put]) (M.encDs_len _) (HC.out _ ((hb.trans (hbq.mono hzw)).alloc (by omega) _)) (encDs_one _) (by unfold maxLen; omega) (by omega) (by first | (simp; done) | (have := hbq.size; omega)) ?_; intro v' w9 hown' hgrow' hnil'; obtain ⟨da, dc, rfl, qd1, qd2, od⟩ := own_slice (show C.ownsNow w9 w2.heap.size v' m by unfold C.ownsNow; simpa using hown'); have hb9 : Below w2.heap.size w2 w9 := (below_alloc w2 _).grown hgrow' (by simp) (own_base (ownsRow_empty w2 w2.heap.size 81 3 (Nat.le_refl _))); have hs9 := hb9.size; have hbr : Below W.heap.size W w9 := hbq.trans (hb9.mono hs2); have p1 : Hid (OwnAt (w.heap.size + 1 + 1) w9.heap.size w9 81 da (M.encDs m.doors)) := Lib.hid (od.mono (by omega) (by omega)); have p2 : Hid (OwnAt (w.heap.size + 1 + 1) w9.heap.size w9 3 ia (M.encIs m.keys)) := Lib.hid ((oi.below hb9 (Nat.le_refl _)).mono (by first | omega | (simp; omega)) (by omega)); obtain ⟨d0, d1, d2⟩ := (X1.out.below hbr).cells; obtain ⟨g0, g1, g2⟩ := (X2.out.below hbr).free; obtain ⟨k0, k1, k2⟩ := (X2.out.below hbr).cells; have hn1 := (X1.out.below hbr).lt; have hn2 := (X2.out.below hbr).lt)
       | (refine step_append_own rfl (.tmp 5) (.tmp 7) 22 rfl W.heap.size 81 i0 (.agg #[.int .i64 0, .int .i64 0, .int .i64 0]) 3 24 Try.underlying22 hi0 hz0 hz1 hz2 rfl (by decide) _ _ _ (ownsRow_empty W.drew W.heap.size 81 3 (Nat.le_refl _)) (by simp [Act.eval]) ad m.doors.length c (M.encDs m.doors) (by simp [Act.eval]) (M.encDs_len _) (HC.out _ (hb.trans (((Below.refl W.heap.size W).drew.alloc (Nat.le_refl _) _).mono hzw))) (encDs_one _) (by unfold maxLen; omega) (by omega) (by first | (simp; done) | (have := hbq.size; omega)) ?_; intro v' w2 hown' hgrow' hnil'; obtain ⟨da, dc, rfl, qd1, qd2, od⟩ := own_slice (show C.ownsNow w2 W.heap.size v' m by unfold C.ownsNow; simpa using hown'); have hba : Below W.heap.size W w2 := ((Below.refl W.heap.size W).drew.alloc (Nat.le_refl _) _).grown hgrow' (by simp) (own_base (ownsRow_empty W.drew W.heap.size 81 3 (Nat.le_refl _))); obtain ⟨d0, d1, d2⟩ := (X1.out.below hba).cells; obtain ⟨g0, g1, g2⟩ := (X2.out.below hba).free; obtain ⟨k0, k1, k2⟩ := (X2.out.below hba).cells; have hn1 := (X1.out.below hba).lt; have hn2 := (X2.out.below hba).lt)))
  all_goals
    have hBW := Lib.hid (HB.out.trans (hbr.mono hzw))
    have hsr := hbr.size
    go_wp2_with fail
    refine bodyPost_ret (v := .agg #[.int .i64 m.size, .slice da m.doors.length dc, .slice ia m.keys.length ic]) (by simp [results, Try.results115, go_sem, k0, k1, k2]) rfl ?_
    exact mz_end hBW.out p1.out p2.out qd1 qd2 qi1 qi2 (by omega)
theorem l2Own_any (w : World) (lo hi : Nat) (m : M.Mz) (a b : Option Addr) (c d : Nat) (h : MzIn lo hi w m a c b d) (hz : hi ≤ w.heap.size) (h1 : m.doors.length ≤ 1048576) (h2 : m.keys.length ≤ 1048576) :
    Calls Try.prog 115 #[.agg #[.int .i64 m.size, .slice a m.doors.length c, .slice b m.keys.length d]] w (MzPost w m) := by
  rcases a with _ | ad
  · exact l2Own_none w lo hi m b c d h hz h1 h2
  · exact l2Own_some w lo hi m ad b c d h hz h1 h2
end C
end Go.Proofs.Ytoiapfdlbkncaaa
