/-
  CONTRACTS of the program's search over visits: nextVisits, actsFrom, isWon; what lay in memory stays. Condition: valid works, a valid visit.
-/
import Derived.Test.YtdgfceiobpnchaaActI
import Derived.Test.YtdgfceiobpnchaaFewV
import Derived.Test.YtdgfceiobpnchaaWanM
namespace Go.Proofs.Ytdgfceiobpnchaa
open Go.RowKit
namespace M
theorem st64V {m : Wk} (V : WV m) {s : Vs} (h : VsOk m s) : C.St64 s := by
  have := V.size12
  obtain ⟨h1, h2, h3, h4⟩ := h
  exact ⟨WalkArith.wf_i64 (by omega), WalkArith.wf_i64 (by omega)⟩
theorem steps_of {m : Wk} (V : WV m) {N : Vs → List Vs} {F : List Vs} (hn : F.Nodup) (h0 : ∀ s ∈ F, VsOk m s) (h1 : ∀ s, VsOk m s → ∀ t ∈ N s, VsOk m t) (h2 : ∀ s, VsOk m s → (N s).length ≤ 100000) : C.StepsOk N (VsOk m) F := by
  have v12 := V.size12
  refine ⟨hn, h0, h1, fun t ht => st64V V ht, h2, 768, fun t => t.1 * 64 + t.2, by decide, fun t ht => ?_, fun t u ht hu e => ?_⟩
  · obtain ⟨h1, h2, h3, h4⟩ := ht
    show 0 ≤ t.1 * 64 + t.2 ∧ t.1 * 64 + t.2 < 768
    constructor <;> omega
  · obtain ⟨h1, h2, h3, h4⟩ := ht
    obtain ⟨k1, k2, k3, k4⟩ := hu
    have e' : t.1 * 64 + t.2 = u.1 * 64 + u.2 := e
    obtain ⟨a, b⟩ := t
    obtain ⟨c, d⟩ := u
    simp only at *
    have ea : a = c := by omega
    subst ea
    have eb : b = d := by omega
    rw [eb]
theorem steps_next {m : Wk} (V : WV m) {s : Vs} (h : VsOk m s) : C.StepsOk (nextW m) (VsOk m) [s] :=
  steps_of V (by simp) (fun t ht => by rw [List.mem_singleton] at ht; subst ht; exact h) (fun t ht u hu => nextW_ok V ht hu) (fun t _ => by have := nextW_len m t; omega)
def nextTo (m : Wk) (s : Vs) (k : Nat) : List Vs := ((actsL m s).take k).map (doA m s)
theorem nextTo_succ {m : Wk} {s : Vs} {k : Nat} (h : k < (actsL m s).length) : nextTo m s (k + 1) = nextTo m s k ++ [doA m s (actsL m s)[k]] := by unfold nextTo; rw [List.take_succ_eq_append_getElem h, List.map_append]; rfl
theorem nextTo_len {m : Wk} {s : Vs} {k : Nat} (h : k ≤ (actsL m s).length) : (nextTo m s k).length = k := by unfold nextTo; rw [List.length_map, List.length_take]; omega
theorem nextTo_end (m : Wk) (s : Vs) : nextTo m s (actsL m s).length = nextW m s := by unfold nextTo nextW; rw [List.take_length]
def wonV (m : Wk) (t : Vs) : Bool := t.1 == m.size - 1
end M
namespace C
set_option maxHeartbeats 3200000
set_option maxRecDepth 20000
theorem wonV_any (w : World) (m : M.Wk) (a b : Option Addr) (c d : Nat) (h1 : 1 ≤ m.size) (h2 : m.size ≤ 12) (s : M.Vs) :
    Calls Try.prog 85 #[.agg #[.int .i64 m.size, .slice a m.gates.length c, .slice b m.pulls.length d], .agg #[.int .i64 s.1, .int .i64 s.2]] w (BoolW w (M.wonV m s)) := by
  obtain ⟨x, y⟩ := s
  show Calls _ _ #[_, .agg #[.int .i64 x, .int .i64 y]] _ _
  have HF : Hid (M.wonV m (x, y) = (x == m.size - 1)) := Lib.hid rfl
  have hw1 : IntKind.i64.wrap (m.size - 1) = m.size - 1 := IntWalk.i64_in _ (by omega)
  go_enter Try.func85, Try.ntmps85
  go_wp2_with fail
  go_ret
  exact ⟨by rw [HF.out]; rfl, (below_alloc _ _).alloc (by simp) _⟩
theorem nextVisits_any (w : World) (lo hi : Nat) (m : M.Wk) (a b : Option Addr) (c d : Nat) (h : WkIn lo hi w m a c b d) (hz : hi ≤ w.heap.size) (V : M.WV m) (s : M.Vs) (hs : M.VsOk m s) :
    Calls Try.prog 118 #[.agg #[.int .i64 m.size, .slice a m.gates.length c, .slice b m.pulls.length d], .agg #[.int .i64 s.1, .int .i64 s.2]] w (StsPost w (M.nextW m s)) := by
  obtain ⟨i0, hi0, hz0, hz1, hz2⟩ := info_parts infoS
  have HAC := Lib.hid (fun W (hq : Below w.heap.size w W) => actsAt_any W lo hi m a b c d (h.below hq hz) (by have := hq.size; omega) V s hs)
  have HBE := Lib.hid (fun W (hq : Below w.heap.size w W) act ha => behind_any W lo hi m a b c d (h.below hq hz) (by have := hq.size; omega) V s hs act ha)
  have hal := M.actsL_len m s
  have HRN := Lib.hid (fun k (hk : k < (M.actsL m s).length) => (M.actsL_rng V (List.getElem_mem hk)).1)
  have HSU := Lib.hid (fun k (hk : k < (M.actsL m s).length) => M.nextTo_succ hk)
  have HLE := Lib.hid (fun k (hk : k ≤ (M.actsL m s).length) => M.nextTo_len hk)
  have HEN := Lib.hid (M.nextTo_end m s)
  clear h V
  go_enter Try.func118, Try.ntmps118
  go_upto_region 2 with fail
  refine wp_named ?_
  intro W hW
  have hb : Below w.heap.size w W := by rw [hW]; exact ((below_alloc _ _).alloc (by simp) _).alloc (by simp; omega) _
  have x1 : Box3 W w.heap.size 28 (.int .i64 m.size) (.slice a m.gates.length c) (.slice b m.pulls.length d) := by rw [hW]; exact ((Box3.new _ _ _ _ rfl).alloc _).alloc _
  have z1 : Box2 W (w.heap.size + 1) 71 (.int .i64 s.1) (.int .i64 s.2) := by rw [hW]; exact (Box2.new _ _ _ (by simp)).alloc _
  have o1 : W.ownsRow (w.heap.size + 1 + 1) 71 2 (.slice (some ⟨w.heap.size + 1 + 1, 0, none⟩) 0 0) 0 [] := by
    rw [hW]
    have := ownsRow_empty ((w.alloc (.cells #[.int .i64 m.size, .slice a m.gates.length c, .slice b m.pulls.length d] 28)).alloc (.cells #[.int .i64 s.1, .int .i64 s.2] 71)) (w.heap.size + 1 + 1) 71 2 (by simp)
    rw [World.size_alloc, World.size_alloc] at this
    exact this
  clear hW
  obtain ⟨c0, c1, c2⟩ := x1.cells
  obtain ⟨k0, k1⟩ := z1.cells
  have hzw := hb.size
  have hzl := z1.lt
  have X1 := Lib.hid x1
  have Z1 := Lib.hid z1
  have O1 := Lib.hid o1
  have HB := Lib.hid hb
  clear x1 z1 o1 hb
  go_wp2_with fail
  refine (HAC.out W HB.out).mono ?_
  rintro e w2 ⟨ra, rc, rfl, ho, hq1, hq2, hb2⟩
  have R2 : Hid (RowIn W.heap.size w2.heap.size w2 ra (M.encIs (M.actsL m s))) := Lib.hid ho.row
  have X2 := Lib.hid (X1.out.below hb2)
  have Z2 := Lib.hid (Z1.out.below hb2)
  have O2 := Lib.hid (own_below O1.out hb2)
  have B2 := Lib.hid (HB.out.trans (hb2.mono hzw))
  have hz2' := hb2.size
  have HDO : Hid (∀ k (hk : k < (M.actsL m s).length), M.doA m s (M.actsL m s)[k] = M.doA m s (M.actsL m s)[k]) := Lib.hid fun _ _ => rfl
  clear ho hb2 c0 c1 c2 k0 k1 hq1 hq2
  generalize M.actsL m s = T at *
  go_wp2_with fail
  go_loopw [5, 7, 13] (fun v5 _ v13 wr => ∃ (k : Nat), k ≤ T.length ∧ v13 = .int .i64 (k : Int) ∧ wr.ownsRow (w.heap.size + 1 + 1) 71 2 v5 k (M.encSs (M.nextTo m s k)) ∧ RowIn W.heap.size w2.heap.size wr ra (M.encIs T) ∧ Box3 wr w.heap.size 28 (.int .i64 m.size) (.slice a m.gates.length c) (.slice b m.pulls.length d) ∧ Box2 wr (w.heap.size + 1) 71 (.int .i64 s.1) (.int .i64 s.2) ∧ Below w.heap.size w wr ∧ w2.heap.size ≤ wr.heap.size ∧ (∀ z, v5.ownBlock = some z → z < W.heap.size ∨ w2.heap.size ≤ z)) (fun _ _ v13 _ => T.length - (intOf v13).toNat)
  case atStart => exact ⟨0, Nat.zero_le _, rfl, O2.out, R2.out, X2.out, Z2.out, B2.out, Nat.le_refl _, fun z hz => by injection hz with hz; exact .inl (by have := (O1.out.lt _ rfl).2; omega)⟩
  case round =>
    obtain ⟨k, hk, rfl, hso, hro, hx, hzb, hlow, hsz, hzone⟩ := hrel
    obtain ⟨la, lc, hv, hl1, hl2, _⟩ := own_slice hso
    subst hv
    have SO := Lib.hid hso
    have RO := Lib.hid hro
    have X7 := Lib.hid hx
    have Z7 := Lib.hid hzb
    have LO := Lib.hid hlow
    have ZO := Lib.hid hzone
    have hzr := hlow.size
    have hxl := hx.lt
    have hzl7 := hzb.lt
    clear hso hro hx hzb hlow hzone
    by_cases hkl : k < T.length
    · obtain ⟨tb, tf, rfl, ht1, ht2, hcc⟩ := RO.out.at_ (k := k) (by rw [M.encIs_len]; exact hkl)
      have g0 := hcc _ _ (M.encIs_at hkl)
      have hact := HRN.out k hkl
      have HS := Lib.hid (HSU.out k hkl)
      clear hcc
      generalize T[k] = act at *
      obtain ⟨x0, x1, x2⟩ := X7.out.cells
      obtain ⟨k0, k1⟩ := Z7.out.cells
      have HB9 := Lib.hid (HBE.out wr LO.out act hact)
      generalize M.doA m s act = t at *
      go_wp2_with fail
      refine (HB9.out).mono ?_
      rintro e w3 ⟨rfl, hb3⟩
      have SO3 := Lib.hid (own_below SO.out hb3)
      have RO3 := Lib.hid (RO.out.turned (Turned.of_below hb3 0 0) (by omega) (.inr (Nat.zero_le _)))
      have X3 := Lib.hid (X7.out.below hb3)
      have Z3 := Lib.hid (Z7.out.below hb3)
      have LO3 := Lib.hid (LO.out.trans (hb3.mono hzr))
      have hz3 := hb3.size
      clear hb3 x0 x1 x2 k0 k1 g0
      have HNX := Lib.hid (own_ne_box SO3.out X3.out (by decide))
      go_wp2_with (at_builtin; refine wpList_append_lies _ rfl _ _ 92 rfl (w.heap.size + 1 + 1) 71 i0 (.agg #[.int .i64 0, .int .i64 0]) 2 16 Try.underlying92 hi0 hz0 hz1 hz2 rfl (by decide) (.slice la k lc) _ _ rfl (SO3.out.alloc _) ⟨w3.heap.size, 0, none⟩ 1 1 [.int .i64 t.1, .int .i64 t.2] rfl rfl (newsS (Box2.new _ _ _ rfl)) (fun x hx => by simp at hx; rcases hx with rfl | rfl <;> rfl) (by decide) (by unfold maxLen; omega) (by omega) (by rw [World.size_alloc]; omega) _ rfl ?_; intro g7 c7 w7 hown' hgrow7 hat7 hlt7)
      go_roundw
      case rel =>
        have hsz7 := hgrow7.size
        rw [World.size_alloc] at hsz7
        have hbase : ∀ z, (Value.slice la k lc).ownBlock = some z → w.heap.size + 1 + 1 ≤ z := own_base SO3.out
        have hbl : ∀ z, (Value.slice la k lc).ownBlock = some z → z < w3.heap.size := fun z hz => (SO3.out.lt z hz).2
        refine ⟨k + 1, by omega, by go_num, ?_, ?_, ?_, ?_, (LO3.out.alloc (by omega) _).grown hgrow7 (by simp; omega) (fun z hz => by have := hbase z hz; omega), by omega, fun z hz => ?_⟩
        · rw [HS.out, M.encSs_append]
          exact hown'
        · exact (RO3.out.turned (Turned.of_below (below_alloc _ _) 0 0) (by omega) (.inr (Nat.zero_le _))).grown hgrow7 (by rw [World.size_alloc]; omega) (fun z hz => by have := ZO.out z hz; omega)
        · exact (X3.out.alloc _).grown hgrow7 (fun e => by have := hbase _ e; omega)
        · exact (Z3.out.alloc _).grown hgrow7 (fun e => by have := hbase _ e; omega)
        · injection hz with hz
          subst hz
          rw [World.size_alloc] at hat7
          rcases hat7 with e | e
          · exact (ZO.out _ e).imp id id
          · exact .inr (show w2.heap.size ≤ g7 by omega)
      case measure => simp [intOf]; omega
    · obtain rfl : k = T.length := by omega
      have HL := Lib.hid (HLE.out T.length (Nat.le_refl _))
      go_wp2_with fail
      go_ret
      rw [← HEN.out]
      exact sts_end SO.out (by omega) HL.out.symm LO.out
end C
end Go.Proofs.Ytdgfceiobpnchaa
