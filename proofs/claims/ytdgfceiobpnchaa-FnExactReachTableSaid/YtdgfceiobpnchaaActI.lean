/-
  CONTRACTS of the program's nodesFrom and actsAt: to which nodes one can go, and all acts that are possible, in memory of the call's own; what lay in memory stays. Condition: valid works, a valid visit.
-/
import Derived.Test.YtdgfceiobpnchaaActS
import Derived.Deep.DeepCutAuto
namespace Go.Proofs.Ytdgfceiobpnchaa
open Go.RowKit
namespace M
theorem or12 {n q : Nat} (hn : n < 4096) (hq : q < 12) : bits .or .i64 (n : Int) (2 ^ q) = ((n ||| 2 ^ q : Nat) : Int) := by
  have h := (bits_nat .i64 62 (by decide) wraps_i64 n (2 ^ q) (by omega) (Nat.lt_trans (pow12_lt hq) (by decide))).2
  rwa [show ((2 ^ q : Nat) : Int) = 2 ^ q by simp] at h
theorem wraps12 {p : Nat} (h : p < 12) : wrap64 (2 ^ p) = 2 ^ p ∧ IntKind.i64.wrap (2 ^ p) = 2 ^ p := by
  have hp := pow12_lt h
  have e : ((2 : Int) ^ p) = ((2 ^ p : Nat) : Int) := by simp
  rw [e]
  generalize 2 ^ p = n at hp
  exact ⟨by unfold wrap64; omega, wraps_i64 _ (by omega) (by omega)⟩
theorem stepI_shut {s : Vs} {acc : Nat} {g : Gt} (h : openG g s.2 = false) : stepI s acc g = acc := by unfold stepI; rw [if_neg (by rw [h]; decide)]
theorem stepI_fst {s : Vs} {acc : Nat} {g : Gt} (h : openG g s.2 = true) (h1 : g.1 = s.1) : stepI s acc g = acc ||| 2 ^ g.2.1.toNat := by unfold stepI; rw [if_pos h, if_pos h1]
theorem stepI_snd {s : Vs} {acc : Nat} {g : Gt} (h : openG g s.2 = true) (h1 : g.1 ≠ s.1) (h2 : g.2.1 = s.1) : stepI s acc g = acc ||| 2 ^ g.1.toNat := by unfold stepI; rw [if_pos h, if_neg h1, if_pos h2]
theorem stepI_none {s : Vs} {acc : Nat} {g : Gt} (h1 : g.1 ≠ s.1) (h2 : g.2.1 ≠ s.1) : stepI s acc g = acc := by unfold stepI; rw [if_neg h1, if_neg h2]; split <;> rfl
end M
namespace C
set_option maxHeartbeats 3200000
set_option maxRecDepth 20000
def RowPost (w : World) (l : List Int) (e : Ending) (w' : World) : Prop := ∃ v, e = .returned v ∧ RowAt w.heap.size w' v l ∧ Below w.heap.size w w'
theorem RowPost.ints {w w' : World} {l : List Int} {e : Ending} (h : RowPost w l e w') : IntsPost w l e w' := by
  obtain ⟨v, rfl, ⟨_, h1⟩, h2⟩ := h
  exact ints_end h1 h2
theorem digitsR_any (n : Nat) (hn : n < 4096) (w : World) : Calls Try.prog 129 #[.int .i64 (n : Int)] w (RowPost w (M.digsTo n 12)) := by
  obtain ⟨i0, hi0, hz0, hz1, hz2⟩ := info_parts infoI
  have h12 : Hid (n / 2 ^ 12 = 0) := Lib.hid (Nat.div_eq_of_lt hn)
  go_enter Try.func129, Try.ntmps129
  go_wp2_with fail
  go_loopw [3, 4] (fun v i wr => ∃ (k : Nat), k ≤ 12 ∧ i = .int .i64 k ∧ RowAt w.heap.size wr v (M.digsTo n k) ∧ Below w.heap.size w wr) (fun _ i _ => 12 - (intOf i).toNat)
  case atStart => exact ⟨0, Nat.zero_le _, rfl, ⟨⟨_, _, rfl⟩, ownsRow_empty _ _ _ _ (Nat.le_refl _)⟩, below_alloc _ _⟩
  case round =>
    obtain ⟨k, hk, rfl, hrow, hnx⟩ := hrel
    obtain ⟨⟨vb, vc, rfl⟩, hown⟩ := hrow
    have HN := Lib.hid hnx
    have HO := Lib.hid hown
    have hzr := hnx.size
    have hlen := M.digsTo_len n k
    clear hnx
    have hsh := M.shr_nat n k
    by_cases hp : 0 < n / 2 ^ k
    · have hk12 : k < 12 := by
        rcases Nat.lt_or_ge k 12 with h | h
        · exact h
        · have : k = 12 := by omega
          subst this
          rw [h12.out] at hp
          omega
      have hpt : 0 < (n : Int) / 2 ^ k := by rw [hsh]; exact_mod_cast hp
      have hbt := M.bit_test (p := k) hn
      clear hsh hp
      cases hd : M.digB n k with
      | true =>
        rw [hd] at hbt
        have HD := Lib.hid (M.digsTo_yes hd)
        clear hd
        go_wp2_with (at_builtin; refine wpList_append_own _ rfl _ _ 23 rfl w.heap.size 3 i0 (.int .i64 0) 1 8 Try.underlying23 hi0 hz0 hz1 hz2 rfl (by decide) _ _ _ rfl (hown.alloc _) ⟨wr.heap.size, 0, none⟩ 1 1 [.int .i64 (k : Int)] rfl rfl (cell_one_new _ _ _) (fun x hx => by simp at hx; subst hx; rfl) (by unfold maxLen; omega) (by omega) (by simp; omega) ?_; intro v' w3 hown' hgrow3 hnil3)
        go_roundw
        case rel =>
          refine ⟨k + 1, by omega, by go_num, ?_, (HN.out.alloc hzr _).grown hgrow3 (by simp; omega) (own_base hown)⟩
          rw [HD.out]
          have h9 : w3.ownsRow w.heap.size 3 1 v' (M.digsTo n k ++ [(k : Int)]).length (M.encIs (M.digsTo n k ++ [(k : Int)])) := by simpa [M.encIs] using hown'
          exact ⟨row_some h9 (by simp), h9⟩
        case measure => simp [intOf]; omega
      | false =>
        rw [hd] at hbt
        have HD := Lib.hid (M.digsTo_no hd)
        clear hd hown
        go_wp2_with fail
        go_roundw
        case rel => exact ⟨k + 1, by omega, by go_num, by rw [HD.out]; exact ⟨⟨_, _, rfl⟩, HO.out⟩, HN.out⟩
        case measure => simp [intOf]; omega
    · have hz : n / 2 ^ k = 0 := Nat.eq_zero_of_not_pos hp
      have hpt : ¬ 0 < (n : Int) / 2 ^ k := by rw [hsh, hz]; simp
      have HE : Hid (M.digsTo n 12 = M.digsTo n k) := Lib.hid (M.digsTo_eq hz hk)
      clear hsh hz hp hown
      go_wp2_with fail
      go_ret
      exact ⟨_, rfl, by rw [HE.out]; exact ⟨⟨_, _, rfl⟩, HO.out⟩, HN.out⟩
theorem nodesFrom_any (w : World) (lo hi : Nat) (m : M.Wk) (a b : Option Addr) (c d : Nat) (h : WkIn lo hi w m a c b d) (hz : hi ≤ w.heap.size) (V : M.WV m) (s : M.Vs) (hs : M.VsOk m s) :
    Calls Try.prog 115 #[.agg #[.int .i64 m.size, .slice a m.gates.length c, .slice b m.pulls.length d], .agg #[.int .i64 s.1, .int .i64 s.2]] w (RowPost w (M.goL m s)) := by
  have HEND := Lib.hid (M.accI_end V s)
  have HL := Lib.hid (fun k (hk : k ≤ m.gates.length) => M.accI_lt V s k hk)
  have HS := Lib.hid (fun k (hk : k < m.gates.length) => M.accI_succ (s := s) hk)
  obtain ⟨x, lev⟩ := s
  obtain ⟨h1, h2, h3, h4⟩ := hs
  simp only at h1 h2 h3 h4
  show Calls _ _ #[_, .agg #[.int .i64 x, .int .i64 lev]] _ _
  have v12 := V.size12
  have v30 := V.few
  have hc1 := h.c1
  have hc2 := h.c2
  have HG := Lib.hid V.gate
  have H := Lib.hid h
  clear h V
  go_enter Try.func115, Try.ntmps115
  go_upto_region 1 with fail
  refine wp_named ?_
  intro W hW
  have hb : Below w.heap.size w W := by rw [hW]; exact (below_alloc _ _).alloc (by simp) _
  have x1 : Box3 W w.heap.size 28 (.int .i64 m.size) (.slice a m.gates.length c) (.slice b m.pulls.length d) := by rw [hW]; exact (Box3.new _ _ _ _ rfl).alloc _
  have z1 : Box2 W (w.heap.size + 1) 71 (.int .i64 x) (.int .i64 lev) := by rw [hW]; exact Box2.new _ _ _ (by simp)
  clear hW
  have X1 := Lib.hid x1
  have Z1 := Lib.hid z1
  have HB := Lib.hid hb
  obtain ⟨x0, xx1, x2⟩ := x1.cells
  clear x1 z1 hb
  go_wp2_with fail
  go_loopw [5, 7, 11] (fun v5 _ v11 wr => ∃ (k : Nat), k ≤ m.gates.length ∧ v11 = .int .i64 (k : Int) ∧ v5 = .int .i64 ((M.accI m (x, lev) k : Nat) : Int) ∧ Box3 wr w.heap.size 28 (.int .i64 m.size) (.slice a m.gates.length c) (.slice b m.pulls.length d) ∧ Box2 wr (w.heap.size + 1) 71 (.int .i64 x) (.int .i64 lev) ∧ Below w.heap.size w wr) (fun _ _ v11 _ => m.gates.length - (intOf v11).toNat)
  case atStart => exact ⟨0, Nat.zero_le _, rfl, rfl, X1.out, Z1.out, HB.out⟩
  case round =>
    obtain ⟨k, hk, rfl, rfl, hx, hzb, hlow⟩ := hrel
    have X7 := Lib.hid hx
    have Z7 := Lib.hid hzb
    have LO := Lib.hid hlow
    have hzr := hlow.size
    clear x0 xx1 x2
    have hxl := hzb.lt
    clear hx hzb hlow
    by_cases hkl : k < m.gates.length
    · obtain ⟨gb, go, rfl, hgb, g0, g1, g2, g3⟩ := gate_at (H.out.below LO.out hz).gates hkl
      obtain ⟨q1, q2, q3, q4, q5, q6, q7⟩ := HG.out k hkl
      have hacc := HL.out k hk
      have HS1 := Lib.hid (HS.out k hkl)
      generalize m.gates[k] = g at *
      have HOP := Lib.hid (fun W => isOpenG_any g lev W q4 q5 h3 h4)
      obtain ⟨p, hp⟩ : ∃ p : Nat, g.1 = (p : Int) := ⟨g.1.toNat, by omega⟩
      obtain ⟨q, hq⟩ : ∃ q : Nat, g.2.1 = (q : Int) := ⟨g.2.1.toNat, by omega⟩
      have hp12 : p < 12 := by omega
      have hq12 : q < 12 := by omega
      have HT0 := Lib.hid (fun ho => HS1.out.trans (M.stepI_shut (s := (x, lev)) ho))
      have HT1 := Lib.hid (fun ho h1 => HS1.out.trans (M.stepI_fst (s := (x, lev)) ho h1))
      have HT2 := Lib.hid (fun ho h1 h2 => HS1.out.trans (M.stepI_snd (s := (x, lev)) ho h1 h2))
      have HT3 := Lib.hid (fun h1 h2 => HS1.out.trans (M.stepI_none (s := (x, lev)) h1 h2))
      simp only at HT0 HT1 HT2 HT3
      rw [hq, Int.toNat_natCast] at HT1
      rw [hp, Int.toNat_natCast] at HT2
      rw [hp] at HT3
      rw [hq] at HT2 HT3
      rw [hp] at HT1
      obtain ⟨hpw, hpw2⟩ := M.wraps12 hp12
      obtain ⟨hqw, hqw2⟩ := M.wraps12 hq12
      have horp := M.or12 hacc hp12
      have horq := M.or12 hacc hq12
      rw [hp] at g0
      rw [hq] at g1
      rw [hp, hq] at HOP
      have hp0 : ¬ (p : Int) < 0 := by omega
      have hq0 : ¬ (q : Int) < 0 := by omega
      have hpq : (p : Int) < (q : Int) := by omega
      clear HS1 hp hq
      generalize M.accI m (x, lev) k = acc at *
      go_upto_region 5 with fail
      refine wp_named ?_
      intro W1 hW1
      have hb1 : Below wr.heap.size wr W1 := by rw [hW1]; exact below_alloc _ _
      have b11 : Box4 W1 wr.heap.size 67 (.int .i64 (p : Int)) (.int .i64 (q : Int)) (.int .i64 g.2.2.1) (.int .i64 g.2.2.2) := by rw [hW1]; exact Box4.new _ _ _ _ _ rfl
      clear hW1 g0 g1 g2 g3
      obtain ⟨y0, y1, y2, y3⟩ := b11.cells
      have X8 := Lib.hid (X7.out.below hb1)
      have Z8 := Lib.hid (Z7.out.below hb1)
      have LO1 := Lib.hid (LO.out.trans (hb1.mono hzr))
      have hz1 := hb1.size
      have B4 := Lib.hid b11
      have hyl := b11.lt
      obtain ⟨k0, k1⟩ := Z8.out.cells
      clear hb1 b11
      cases hop : M.openG g lev with
      | false =>
        have HO1 := HOP.out W1
        rw [hop] at HO1
        have HQ := Lib.hid (HT0.out hop)
        clear hop
        go_wp2_with fail
        refine HO1.mono ?_
        rintro e w2 ⟨rfl, hb2⟩
        have X2 := Lib.hid (X8.out.below hb2)
        have Z2 := Lib.hid (Z8.out.below hb2)
        have LO2 := Lib.hid (LO1.out.trans (hb2.mono (by omega)))
        clear hb2 HO1 y0 y1 y2 y3 k0 k1
        go_wp2_with fail
        go_roundw
        case rel => exact ⟨k + 1, by omega, by go_num, by rw [HQ.out], X2.out, Z2.out, LO2.out⟩
        case measure => simp [intOf]; omega
      | true =>
        have HO1 := HOP.out W1
        rw [hop] at HO1
        have HOPN := Lib.hid hop
        clear hop
        rcases Decidable.em ((p : Int) = x) with e1 | e1
        · have HQ := Lib.hid (HT1.out HOPN.out e1)
          have hb0 : (x == (p : Int)) = true := by simpa using e1.symm
          clear e1
          go_wp2_with fail
          refine HO1.mono ?_
          rintro e w2 ⟨rfl, hb2⟩
          have X2 := Lib.hid (X8.out.below hb2)
          have Z2 := Lib.hid (Z8.out.below hb2)
          have B42 := Lib.hid (B4.out.below hb2)
          have LO2 := Lib.hid (LO1.out.trans (hb2.mono (by omega)))
          clear hb2 HO1 y0 y1 y2 y3 k0 k1
          obtain ⟨y0, y1, y2, y3⟩ := B42.out.cells
          obtain ⟨k0, k1⟩ := Z2.out.cells
          go_wp2_with fail
          go_roundw
          case rel => exact ⟨k + 1, by omega, by go_num, by rw [HQ.out], X2.out, Z2.out, LO2.out⟩
          case measure => simp [intOf]; omega
        · have hb0 : (x == (p : Int)) = false := by simp; omega
          rcases Decidable.em ((q : Int) = x) with e2 | e2
          · have HQ := Lib.hid (HT2.out HOPN.out e1 e2)
            have hb1' : (x == (q : Int)) = true := by simpa using e2.symm
            clear e1 e2
            go_wp2_with fail
            refine HO1.mono ?_
            rintro e w2 ⟨rfl, hb2⟩
            have X2 := Lib.hid (X8.out.below hb2)
            have Z2 := Lib.hid (Z8.out.below hb2)
            have B42 := Lib.hid (B4.out.below hb2)
            have LO2 := Lib.hid (LO1.out.trans (hb2.mono (by omega)))
            clear hb2 HO1 y0 y1 y2 y3 k0 k1
            obtain ⟨y0, y1, y2, y3⟩ := B42.out.cells
            obtain ⟨k0, k1⟩ := Z2.out.cells
            go_wp2_with fail
            go_roundw
            case rel => exact ⟨k + 1, by omega, by go_num, by rw [HQ.out], X2.out, Z2.out, LO2.out⟩
            case measure => simp [intOf]; omega
          · have HQ := Lib.hid (HT3.out e1 e2)
            have hb1' : (x == (q : Int)) = false := by simp; omega
            clear e1 e2
            go_wp2_with fail
            refine HO1.mono ?_
            rintro e w2 ⟨rfl, hb2⟩
            have X2 := Lib.hid (X8.out.below hb2)
            have Z2 := Lib.hid (Z8.out.below hb2)
            have B42 := Lib.hid (B4.out.below hb2)
            have LO2 := Lib.hid (LO1.out.trans (hb2.mono (by omega)))
            clear hb2 HO1 y0 y1 y2 y3 k0 k1
            obtain ⟨y0, y1, y2, y3⟩ := B42.out.cells
            obtain ⟨k0, k1⟩ := Z2.out.cells
            go_wp2_with fail
            go_roundw
            case rel => exact ⟨k + 1, by omega, by go_num, by rw [HQ.out], X2.out, Z2.out, LO2.out⟩
            case measure => simp [intOf]; omega
    · obtain rfl : k = m.gates.length := by omega
      have hacc := HL.out m.gates.length (Nat.le_refl _)
      go_wp2_with fail
      refine (digitsR_any (M.accI m (x, lev) m.gates.length) hacc wr).mono ?_
      rintro e w2 ⟨v2, rfl, ho2, hb2⟩
      have HO2 := Lib.hid ho2
      have LO2 := Lib.hid (LO.out.trans (hb2.mono hzr))
      clear ho2 hb2
      go_wp2_with fail
      go_ret
      rw [← HEND.out]
      exact ⟨_, rfl, ⟨HO2.out.1, own_weaken HO2.out.2 hzr⟩, LO2.out⟩
theorem actsAt_any (w : World) (lo hi : Nat) (m : M.Wk) (a b : Option Addr) (c d : Nat) (h : WkIn lo hi w m a c b d) (hz : hi ≤ w.heap.size) (V : M.WV m) (s : M.Vs) (hs : M.VsOk m s) :
    Calls Try.prog 73 #[.agg #[.int .i64 m.size, .slice a m.gates.length c, .slice b m.pulls.length d], .agg #[.int .i64 s.1, .int .i64 s.2]] w (IntsPost w (M.actsL m s)) := by
  obtain ⟨i0, hi0, hz0, hz1, hz2⟩ := info_parts infoI
  have HNF := Lib.hid (fun W (hq : Below w.heap.size w W) => nodesFrom_any W lo hi m a b c d (h.below hq hz) (by have := hq.size; omega) V s hs)
  have hgl := M.goL_len m s
  have HAC : Hid (M.actsL m s = M.pullL m s.1 ++ M.goL m s) := Lib.hid rfl
  have HGO : Hid (∀ y ∈ M.goL m s, True) := Lib.hid fun _ _ => trivial
  generalize M.goL m s = L at *
  generalize M.actsL m s = R at *
  obtain ⟨x, lev⟩ := s
  obtain ⟨h1, h2, h3, h4⟩ := hs
  simp only at h1 h2 h3 h4 HAC HNF
  show Calls _ _ #[_, .agg #[.int .i64 x, .int .i64 lev]] _ _
  have v12 := V.size12
  have hd1 := h.d1
  have hd2 := h.d2
  obtain ⟨kx, rfl⟩ : ∃ k : Nat, x = (k : Int) := ⟨x.toNat, by omega⟩
  have hk12 : kx < 12 := by omega
  obtain ⟨pb, po, rfl, hpb, hpl, hpc⟩ := pull_cell V h.pulls h2
  have HP0 := Lib.hid (fun e => M.pullL_no (m := m) (x := (kx : Int)) e)
  have HP1 := Lib.hid (fun e => M.pullL_yes (m := m) (x := (kx : Int)) e)
  clear h V
  generalize M.pullA m (kx : Int) = pu at *
  generalize M.pullL m (kx : Int) = PL at *
  go_enter Try.func73, Try.ntmps73
  go_upto_region 2 with fail
  refine wp_named ?_
  intro W hW
  have hb : Below w.heap.size w W := by rw [hW]; exact ((below_alloc _ _).alloc (by simp) _).alloc (by simp; omega) _
  have x1 : Box3 W w.heap.size 28 (.int .i64 m.size) (.slice a m.gates.length c) (.slice (some ⟨pb, po, none⟩) m.pulls.length d) := by rw [hW]; exact ((Box3.new _ _ _ _ rfl).alloc _).alloc _
  have z1 : Box2 W (w.heap.size + 1) 71 (.int .i64 (kx : Int)) (.int .i64 lev) := by rw [hW]; exact (Box2.new _ _ _ (by simp)).alloc _
  have o1 : W.ownsRow w.heap.size 3 1 (.slice (some ⟨w.heap.size + 1 + 1, 0, none⟩) 0 0) 0 [] := by
    rw [hW]
    have := ownsRow_empty ((w.alloc (.cells #[.int .i64 m.size, .slice a m.gates.length c, .slice (some ⟨pb, po, none⟩) m.pulls.length d] 28)).alloc (.cells #[.int .i64 (kx : Int), .int .i64 lev] 71)) w.heap.size 3 1 (by simp; omega)
    rw [World.size_alloc, World.size_alloc] at this
    exact this
  have gk : W.cell? ⟨pb, po + kx, none⟩ = some (.int .i64 pu) := (hb.cell (p := ⟨pb, po + kx, none⟩) (show pb < _ by omega)).trans hpc
  clear hW hpc
  obtain ⟨c0, c1, c2⟩ := x1.cells
  obtain ⟨k0, k1⟩ := z1.cells
  have hzw := hb.size
  have X1 := Lib.hid x1
  have Z1 := Lib.hid z1
  have O1 := Lib.hid o1
  have HB := Lib.hid hb
  clear x1 z1 o1 hb
  by_cases hpu : pu = 0
  case' pos =>
    have hpub : (pu != 0) = false := by simpa using hpu
    obtain ⟨pre, hpre⟩ : ∃ p : List Int, p = [] := ⟨_, rfl⟩
    have O3 : Hid (W.ownsRow w.heap.size 3 1 (.slice (some ⟨w.heap.size + 1 + 1, 0, none⟩) 0 0) pre.length (M.encIs pre)) := Lib.hid (by rw [hpre]; exact O1.out)
    have HR : Hid (R = pre ++ L) := Lib.hid (by rw [hpre, HAC.out, HP0.out hpu])
    have hpl1 : pre.length ≤ 1 := by rw [hpre]; simp
    clear hpu hpre O1
    obtain ⟨W3, hW3⟩ : ∃ W3, W3 = W := ⟨_, rfl⟩
    subst hW3
    have X3 := X1
    have Z3 := Z1
    have B3 := HB
    go_wp2_with fail
  case' neg =>
    have hpub : (pu != 0) = true := by simpa using hpu
    have HR : Hid (R = [-1] ++ L) := Lib.hid (by rw [HAC.out, HP1.out hpu])
    clear hpu
    go_wp2_with (at_builtin; go_loud (refine wpList_append_own _ rfl _ _ 23 rfl w.heap.size 3 i0 (.int .i64 0) 1 8 Try.underlying23 hi0 hz0 hz1 hz2 rfl (by decide) _ _ _ rfl (O1.out.alloc _) ⟨W.heap.size, 0, none⟩ 1 1 [.int .i64 (-1)] rfl rfl (cell_one_new _ _ _) (fun x hx => by simp at hx; subst hx; rfl) (by unfold maxLen; omega) (by omega) (by rw [World.size_alloc]; omega) ?_; intro base W3 hown' hgrow7 hnil7; have hgrow8 : World.grownBy _ W3 (some (w.heap.size + 1 + 1)) := hgrow7; have B3 : Hid (Below w.heap.size w W3) := Lib.hid ((HB.out.alloc (by omega) _).grown hgrow8 (by first | (simp; done) | (simp; omega)) (fun k hk => by injection hk with hk; omega)); have X3 : Hid (Box3 W3 w.heap.size 28 (.int .i64 m.size) (.slice a m.gates.length c) (.slice (some ⟨pb, po, none⟩) m.pulls.length d)) := Lib.hid ((X1.out.alloc _).grown hgrow8 (by first | (simp; done) | (simp; omega))); have Z3 : Hid (Box2 W3 (w.heap.size + 1) 71 (.int .i64 (kx : Int)) (.int .i64 lev)) := Lib.hid ((Z1.out.alloc _).grown hgrow8 (by first | (simp; done) | (simp; omega))); have h9 : W3.ownsRow w.heap.size 3 1 base [(-1 : Int)].length (M.encIs [-1]) := (by simpa [M.encIs] using hown'); have O3 := Lib.hid h9; clear h9 hown' hgrow7 hgrow8 hnil7; obtain ⟨pre, hpre⟩ : ∃ p : List Int, p = [-1] := ⟨_, rfl⟩; rw [← hpre] at O3 HR; have hpl1 : pre.length ≤ 1 := (by rw [hpre]; first | done | simp); clear hpre; clear c0 c1 c2 k0 k1 gk; obtain ⟨c0, c1, c2⟩ := X3.out.cells; obtain ⟨k0, k1⟩ := Z3.out.cells))
  all_goals
    refine (HNF.out W3 B3.out).mono ?_
    rintro e w4 ⟨v4, rfl, ho4, hb4⟩
    obtain ⟨⟨vb, vc, rfl⟩, ho5⟩ := ho4
    obtain ⟨_, _, _, hcc⟩ := row_cells ho5
    have O4 := Lib.hid (own_below O3.out hb4)
    have B4 := Lib.hid (B3.out.trans (hb4.mono B3.out.size))
    have hz4 := B4.out.size
    have hcells : ∀ j u, (M.encIs L)[j]? = some u → w4.cell? ((⟨vb, 0, none⟩ : Addr).add j) = some u := fun j u hu => by rw [add_off]; exact hcc j u hu
    have HC := Lib.hid hcells
    clear ho5 hcc hb4 hcells
    go_wp2_with (at_builtin; refine wpList_append_own _ rfl _ _ 23 rfl w.heap.size 3 i0 (.int .i64 0) 1 8 Try.underlying23 hi0 hz0 hz1 hz2 rfl (by decide) _ _ _ rfl O4.out ⟨vb, 0, none⟩ L.length vc (M.encIs L) rfl (by rw [M.encIs_len, Nat.mul_one]) HC.out (fun x hx => by unfold M.encIs at hx; obtain ⟨z, _, rfl⟩ := List.mem_map.1 hx; rfl) (by unfold maxLen; omega) (by omega) (by omega) ?_; intro v5 w5 hown5 hgrow5 hnil5)
    go_ret
    have h9 : w5.ownsRow w.heap.size 3 1 v5 (pre ++ L).length (M.encIs (pre ++ L)) := by rw [M.encIs_append, List.length_append]; exact hown5
    rw [HR.out]
    exact ints_end h9 (B4.out.grown hgrow5 hz4 (own_base O4.out))
end C
end Go.Proofs.Ytdgfceiobpnchaa
