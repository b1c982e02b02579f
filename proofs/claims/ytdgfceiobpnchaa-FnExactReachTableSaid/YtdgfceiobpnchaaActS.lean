/-
  CONTRACT of the model's l8Acts: all acts that are possible at a visit, in memory of the call's own; what lay in memory stays. Condition: valid works, a valid visit.
-/
import Derived.Test.YtdgfceiobpnchaaPar
import Derived.Test.YtdgfceiobpnchaaVis
import Derived.Test.YtdgfceiobpnchaaPutJ
import Derived.Test.YtdgfceiobpnchaaOwnW
namespace Go.Proofs.Ytdgfceiobpnchaa
open Go.RowKit
namespace M
theorem gto_shut {s : Vs} {g : Gt} (h : openG g s.2 = false) : gto s g = [] := by unfold gto; rw [h]; rfl
theorem gto_fst {s : Vs} {g : Gt} (h : openG g s.2 = true) (h1 : g.1 = s.1) (h2 : g.1 < g.2.1) : gto s g = [g.2.1] := by
  unfold gto
  rw [if_pos h, if_pos h1, if_neg (by omega)]
  rfl
theorem gto_snd {s : Vs} {g : Gt} (h : openG g s.2 = true) (h1 : g.2.1 = s.1) (h2 : g.1 < g.2.1) : gto s g = [g.1] := by
  unfold gto
  rw [if_pos h, if_neg (by omega), if_pos h1]
  rfl
theorem gto_none {s : Vs} {g : Gt} (h1 : g.1 ≠ s.1) (h2 : g.2.1 ≠ s.1) : gto s g = [] := by
  unfold gto
  rw [if_neg h1, if_neg h2]
  split <;> rfl
theorem accS_none {m : Wk} {s : Vs} {k : Nat} (h : k < m.gates.length) (hg : gto s m.gates[k] = []) : accS m s (k + 1) = accS m s k := by rw [accS_succ h, hg]; rfl
theorem accS_one {m : Wk} {s : Vs} {k : Nat} (h : k < m.gates.length) {y : Int} (hg : gto s m.gates[k] = [y]) : accS m s (k + 1) = put ltI (accS m s k) y := by rw [accS_succ h, hg]; rfl
end M
namespace C
set_option maxHeartbeats 3200000
set_option maxRecDepth 20000
theorem gate_at {w : World} {lo hi : Nat} {m : M.Wk} {a : Option Addr} (h : RowIn lo hi w a (M.encGs m.gates)) {k : Nat} (hk : k < m.gates.length) :
    ∃ gb go, a = some ⟨gb, go, none⟩ ∧ gb < hi ∧ w.cell? ⟨gb, go + k * 4, none⟩ = some (.int .i64 m.gates[k].1) ∧ w.cell? ⟨gb, go + k * 4 + 1, none⟩ = some (.int .i64 m.gates[k].2.1) ∧ w.cell? ⟨gb, go + k * 4 + 2, none⟩ = some (.int .i64 m.gates[k].2.2.1) ∧ w.cell? ⟨gb, go + k * 4 + 3, none⟩ = some (.int .i64 m.gates[k].2.2.2) := by
  obtain ⟨gb, go, e, _, h2, hc⟩ := h.at_ (k := k * 4) (by rw [M.encGs_len]; omega)
  exact ⟨gb, go, e, h2, hc _ _ (M.encGs_at0 hk), hc _ _ (M.encGs_at1 hk), hc _ _ (M.encGs_at2 hk), hc _ _ (M.encGs_at3 hk)⟩
/-- a row of the call's own, at some place -/
def RowAt (B : Nat) (w : World) (v : Value) (l : List Int) : Prop := (∃ b c, v = .slice (some ⟨b, 0, none⟩) l.length c) ∧ w.ownsRow B 3 1 v l.length (M.encIs l)
theorem RowAt.below {B : Nat} {w w' : World} {v : Value} {l : List Int} (h : RowAt B w v l) (t : Below w.heap.size w w') : RowAt B w' v l := ⟨h.1, own_below h.2 t⟩
theorem RowAt.alloc {B : Nat} {w : World} {v : Value} {l : List Int} (h : RowAt B w v l) (o : Obj) : RowAt B (w.alloc o) v l := ⟨h.1, h.2.alloc o⟩
theorem rowAt_put {B : Nat} {w : World} {l : List Int} {y : Int} {v : Value} (h : w.ownsRow B 3 1 v (M.put M.ltI l y).length (M.encIs (M.put M.ltI l y))) : RowAt B w v (M.put M.ltI l y) :=
  ⟨row_some h (List.length_pos_iff.2 fun e => by have : y ∈ M.put M.ltI l y := M.mem_put.2 (.inr rfl); rw [e] at this; cases this), h⟩
theorem rowAt_eq {B : Nat} {w : World} {v : Value} {l l' : List Int} (h : RowAt B w v l) (e : l' = l) : RowAt B w v l' := e ▸ h
theorem l8Acts_any (w : World) (lo hi : Nat) (m : M.Wk) (a b : Option Addr) (c d : Nat) (h : WkIn lo hi w m a c b d) (hz : hi ≤ w.heap.size) (V : M.WV m) (s : M.Vs) (hs : M.VsOk m s) :
    Calls Try.prog 71 #[.agg #[.int .i64 m.size, .slice a m.gates.length c, .slice b m.pulls.length d], .int .i64 s.1, .int .i64 s.2] w (IntsPost w (M.actsL m s)) := by
  obtain ⟨i0, hi0, hz0, hz1, hz2⟩ := info_parts infoI
  have HEND := Lib.hid (M.accS_end V s)
  have HL := Lib.hid (fun k => M.accS_len m s k V.few)
  obtain ⟨x, lev⟩ := s
  obtain ⟨h1, h2, h3, h4⟩ := hs
  simp only at h1 h2 h3 h4
  have v12 := V.size12
  have v30 := V.few
  have hd1 := h.d1
  have hd2 := h.d2
  have hc1 := h.c1
  have hc2 := h.c2
  obtain ⟨kx, rfl⟩ : ∃ k : Nat, x = (k : Int) := ⟨x.toNat, by omega⟩
  have hk12 : kx < 12 := by omega
  obtain ⟨pb, po, rfl, hpb, hpl, hpc⟩ := pull_cell V h.pulls h2
  have hp0 := (M.pullA_set V (kx : Int)).1
  have HG := Lib.hid V.gate
  have H := Lib.hid h
  have HP0 : Hid (M.pullA m (kx : Int) = 0 → M.accS m ((kx : Int), lev) 0 = []) := Lib.hid fun e => by rw [M.accS_zero]; exact M.pullL_no e
  have HP1 : Hid (M.pullA m (kx : Int) ≠ 0 → M.accS m ((kx : Int), lev) 0 = [-1]) := Lib.hid fun e => by rw [M.accS_zero]; exact M.pullL_yes e
  clear h V
  have hpc1 := (World.cell?_alloc_lt w (.cells #[.int .i64 m.size, .slice a m.gates.length c, .slice (some ⟨pb, po, none⟩) m.pulls.length d] 28) ⟨pb, po + kx, none⟩ (show pb < _ by omega)).trans hpc
  have hpc2 := (World.cell?_alloc_lt (w.alloc (.cells #[.int .i64 m.size, .slice a m.gates.length c, .slice (some ⟨pb, po, none⟩) m.pulls.length d] 28)) (.cells #[] 3) ⟨pb, po + kx, none⟩ (show pb < _ by simp; omega)).trans hpc1
  clear hpc hpc1
  generalize M.pullA m (kx : Int) = pu at *
  have LOOP : ∀ (W : World) (v7 : Value) , RowAt w.heap.size W v7 (M.accS m ((kx : Int), lev) 0) → Box3 W w.heap.size 28 (.int .i64 m.size) (.slice a m.gates.length c) (.slice (some ⟨pb, po, none⟩) m.pulls.length d) → Below w.heap.size w W → True := fun _ _ _ _ _ => trivial
  clear LOOP
  go_enter Try.func71, Try.ntmps71
  by_cases hpu : pu = 0
  case' pos =>
    have hpub : ¬ (0 : Int) < pu := by omega
    have HR0 := HP0.out hpu
    go_wp2_with fail
    refine wp_named ?_
    intro W hW
    have hb : Below w.heap.size w W := by rw [hW]; exact (below_alloc _ _).alloc (by simp) _
    have x1 : Box3 W w.heap.size 28 (.int .i64 m.size) (.slice a m.gates.length c) (.slice (some ⟨pb, po, none⟩) m.pulls.length d) := by rw [hW]; exact (Box3.new _ _ _ _ rfl).alloc _
    have o1 : RowAt w.heap.size W (.slice (some ⟨w.heap.size + 1, 0, none⟩) 0 0) (M.accS m ((kx : Int), lev) 0) := by
      rw [hW, HR0]
      refine ⟨⟨_, _, rfl⟩, ?_⟩
      have := ownsRow_empty (w.alloc (.cells #[.int .i64 m.size, .slice a m.gates.length c, .slice (some ⟨pb, po, none⟩) m.pulls.length d] 28)) w.heap.size 3 1 (by simp)
      rw [World.size_alloc] at this
      exact this
    clear hW HR0
  case' neg =>
    have hpub : (0 : Int) < pu := by omega
    have HR0 := HP1.out hpu
    have oe : ((w.alloc (.cells #[.int .i64 m.size, .slice a m.gates.length c, .slice (some ⟨pb, po, none⟩) m.pulls.length d] 28)).alloc (.cells #[] 3)).ownsRow w.heap.size 3 1 (.slice (some ⟨w.heap.size + 1, 0, none⟩) 0 0) 0 [] := by
      have := ownsRow_empty (w.alloc (.cells #[.int .i64 m.size, .slice a m.gates.length c, .slice (some ⟨pb, po, none⟩) m.pulls.length d] 28)) w.heap.size 3 1 (by simp)
      rw [World.size_alloc] at this
      exact this
    have OE := Lib.hid oe
    clear oe
    go_wp2_with (at_builtin; refine wpList_append_own _ rfl _ _ 23 rfl w.heap.size 3 i0 (.int .i64 0) 1 8 Try.underlying23 hi0 hz0 hz1 hz2 rfl (by decide) _ _ _ rfl (OE.out.alloc _) ⟨w.heap.size + 1 + 1, 0, none⟩ 1 1 [.int .i64 (-1)] rfl rfl (by have := cell_one_new ((w.alloc (.cells #[.int .i64 m.size, .slice a m.gates.length c, .slice (some ⟨pb, po, none⟩) m.pulls.length d] 28)).alloc (.cells #[] 3)) (.int .i64 (-1)) 3; rw [World.size_alloc, World.size_alloc] at this; exact this) (fun x hx => by simp at hx; subst hx; rfl) (by unfold maxLen; omega) (by omega) (by simp; omega) ?_; intro v' W hown' hgrow7 hnil7)
    have hgrow8 : World.grownBy _ W (some (w.heap.size + 1)) := hgrow7
    have hb : Below w.heap.size w W := (((below_alloc w (.cells #[.int .i64 m.size, .slice a m.gates.length c, .slice (some ⟨pb, po, none⟩) m.pulls.length d] 28)).alloc (by simp) (.cells #[] 3)).alloc (by simp; omega) _).grown hgrow8 (by simp; omega) (fun k hk => by injection hk with hk; omega)
    have x1 : Box3 W w.heap.size 28 (.int .i64 m.size) (.slice a m.gates.length c) (.slice (some ⟨pb, po, none⟩) m.pulls.length d) := (((Box3.new _ _ _ _ rfl).alloc _).alloc _).grown hgrow8 (by simp)
    have o1 : RowAt w.heap.size W v' (M.accS m ((kx : Int), lev) 0) := by
      rw [HR0]
      have h9 : W.ownsRow w.heap.size 3 1 v' [(-1 : Int)].length (M.encIs [-1]) := by simpa [M.encIs] using hown'
      exact ⟨row_some h9 (by simp), h9⟩
    clear hown' hgrow7 hgrow8 hnil7 HR0 OE
  all_goals
    have X1 := Lib.hid x1
    have O1 := Lib.hid o1
    have HB := Lib.hid hb
    clear x1 o1 hb hpc2 HP0 HP1
    go_wp2_with fail
    go_loopw [7, 8, 9] (fun v7 v8 _ wr => ∃ (k : Nat), k ≤ m.gates.length ∧ v8 = .int .i64 (k : Int) ∧ RowAt w.heap.size wr v7 (M.accS m ((kx : Int), lev) k) ∧ Box3 wr w.heap.size 28 (.int .i64 m.size) (.slice a m.gates.length c) (.slice (some ⟨pb, po, none⟩) m.pulls.length d) ∧ Below w.heap.size w wr) (fun _ v8 _ _ => m.gates.length - (intOf v8).toNat)
    case atStart => exact ⟨0, Nat.zero_le _, rfl, O1.out, X1.out, HB.out⟩
    case round =>
      obtain ⟨k, hk, rfl, hso, hx, hlow⟩ := hrel
      obtain ⟨⟨vb, vc, hv⟩, _⟩ := hso.1, hso.2
      subst hv
      have SO := Lib.hid hso
      have X7 := Lib.hid hx
      have LO := Lib.hid hlow
      have hzr := hlow.size
      have hll := HL.out k
      obtain ⟨x0, x1, x2⟩ := hx.cells
      have hxl := hx.lt
      clear hso hx hlow
      by_cases hkl : k < m.gates.length
      · obtain ⟨gb, go, rfl, hgb, g0, g1, g2, g3⟩ := gate_at (H.out.below LO.out hz).gates hkl
        obtain ⟨q1, q2, q3, q4, q5, q6, q7⟩ := HG.out k hkl
        have HN0 := Lib.hid (fun hg => M.accS_none (s := ((kx : Int), lev)) hkl hg)
        have HN1 := Lib.hid (fun y hg => M.accS_one (s := ((kx : Int), lev)) (y := y) hkl hg)
        have HT0 := Lib.hid (fun ho => M.gto_shut (s := ((kx : Int), lev)) (g := m.gates[k]'hkl) ho)
        have HT1 := Lib.hid (fun ho h1 => M.gto_fst (s := ((kx : Int), lev)) (g := m.gates[k]'hkl) ho h1 q2)
        have HT2 := Lib.hid (fun ho h1 => M.gto_snd (s := ((kx : Int), lev)) (g := m.gates[k]'hkl) ho h1 q2)
        have HT3 := Lib.hid (fun h1 h2 => M.gto_none (s := ((kx : Int), lev)) (g := m.gates[k]'hkl) h1 h2)
        generalize m.gates[k] = g at *
        simp only at HT0 HT1 HT2 HT3
        have HOP := Lib.hid (fun W => l8Open_any g lev W q4 q5 h3 h4)
        go_upto_region 8 with fail
        refine wp_named ?_
        intro W1 hW1
        have hb1 : Below wr.heap.size wr W1 := by rw [hW1]; exact below_alloc _ _
        have b11 : Box4 W1 wr.heap.size 67 (.int .i64 g.1) (.int .i64 g.2.1) (.int .i64 g.2.2.1) (.int .i64 g.2.2.2) := by rw [hW1]; exact Box4.new _ _ _ _ _ rfl
        clear hW1 x0 x1 x2 g0 g1 g2 g3
        obtain ⟨y0, y1, y2, y3⟩ := b11.cells
        have S1 := Lib.hid (SO.out.below hb1)
        have X8 := Lib.hid (X7.out.below hb1)
        have LO1 := Lib.hid (LO.out.trans (hb1.mono hzr))
        have hz1 := hb1.size
        have B4 := Lib.hid b11
        have hyl := b11.lt
        clear hb1 b11
        cases hop : M.openG g lev with
        | false =>
          have HO1 := HOP.out W1
          rw [hop] at HO1
          have HQ := Lib.hid (HN0.out (HT0.out hop))
          clear hop
          go_wp2_with fail
          refine HO1.mono ?_
          rintro e w2 ⟨rfl, hb2⟩
          have S2 := Lib.hid (S1.out.below hb2)
          have X2 := Lib.hid (X8.out.below hb2)
          have LO2 := Lib.hid (LO1.out.trans (hb2.mono (by omega)))
          clear hb2 HO1 y0 y1 y2 y3
          go_wp2_with fail
          go_roundw
          case rel => exact ⟨k + 1, by omega, by go_num, rowAt_eq S2.out HQ.out, X2.out, LO2.out⟩
          case measure => simp [intOf]; omega
        | true =>
          have HO1 := HOP.out W1
          rw [hop] at HO1
          rcases Decidable.em (g.1 = (kx : Int)) with e1 | e1
          · have HQ := Lib.hid (HN1.out _ (HT1.out hop e1))
            have hb0 : (g.1 == (kx : Int)) = true := by simpa using e1
            have hb2' : (g.2.1 == (kx : Int)) = false := by simp; omega
            clear hop e1
            go_wp2_with fail
            refine HO1.mono ?_
            rintro e w2 ⟨rfl, hb2⟩
            have S2 := Lib.hid (S1.out.below hb2)
            have X2 := Lib.hid (X8.out.below hb2)
            have B42 := Lib.hid (B4.out.below hb2)
            have LO2 := Lib.hid (LO1.out.trans (hb2.mono (by omega)))
            have hz2' := hb2.size
            clear hb2 HO1 y0 y1 y2 y3
            obtain ⟨y0, y1, y2, y3⟩ := B42.out.cells
            go_wp2_with fail
            refine (l1Put_row w.heap.size w2 vb 0 vc _ g.2.1 S2.out.2 (by omega) (by omega)).mono ?_
            rintro e w3 ⟨v3, rfl, ho3, hb3⟩
            have S3 := Lib.hid (rowAt_put ho3)
            have X3 := Lib.hid (X2.out.below hb3)
            have B43 := Lib.hid (B42.out.below hb3)
            have LO3 := Lib.hid (LO2.out.trans (hb3.mono (by omega)))
            clear ho3 hb3 y0 y1 y2 y3
            obtain ⟨y0, y1, y2, y3⟩ := B43.out.cells
            go_wp2_with fail
            go_roundw
            case rel => exact ⟨k + 1, by omega, by go_num, rowAt_eq S3.out HQ.out, X3.out, LO3.out⟩
            case measure => simp [intOf]; omega
          · rcases Decidable.em (g.2.1 = (kx : Int)) with e2 | e2
            · have HQ := Lib.hid (HN1.out _ (HT2.out hop e2))
              have hb0 : (g.1 == (kx : Int)) = false := by simpa using e1
              have hb2' : (g.2.1 == (kx : Int)) = true := by simpa using e2
              clear hop e1 e2
              go_wp2_with fail
              refine HO1.mono ?_
              rintro e w2 ⟨rfl, hb2⟩
              have S2 := Lib.hid (S1.out.below hb2)
              have X2 := Lib.hid (X8.out.below hb2)
              have B42 := Lib.hid (B4.out.below hb2)
              have LO2 := Lib.hid (LO1.out.trans (hb2.mono (by omega)))
              have hz2' := hb2.size
              clear hb2 HO1 y0 y1 y2 y3
              obtain ⟨y0, y1, y2, y3⟩ := B42.out.cells
              go_wp2_with fail
              refine (l1Put_row w.heap.size w2 vb 0 vc _ g.1 S2.out.2 (by omega) (by omega)).mono ?_
              rintro e w3 ⟨v3, rfl, ho3, hb3⟩
              have S3 := Lib.hid (rowAt_put ho3)
              have X3 := Lib.hid (X2.out.below hb3)
              have LO3 := Lib.hid (LO2.out.trans (hb3.mono (by omega)))
              clear ho3 hb3 y0 y1 y2 y3
              go_wp2_with fail
              go_roundw
              case rel => exact ⟨k + 1, by omega, by go_num, rowAt_eq S3.out HQ.out, X3.out, LO3.out⟩
              case measure => simp [intOf]; omega
            · have HQ := Lib.hid (HN0.out (HT3.out e1 e2))
              have hb0 : (g.1 == (kx : Int)) = false := by simpa using e1
              have hb2' : (g.2.1 == (kx : Int)) = false := by simpa using e2
              clear hop e1 e2
              go_wp2_with fail
              refine HO1.mono ?_
              rintro e w2 ⟨rfl, hb2⟩
              have S2 := Lib.hid (S1.out.below hb2)
              have X2 := Lib.hid (X8.out.below hb2)
              have B42 := Lib.hid (B4.out.below hb2)
              have LO2 := Lib.hid (LO1.out.trans (hb2.mono (by omega)))
              have hz2' := hb2.size
              clear hb2 HO1 y0 y1 y2 y3
              obtain ⟨y0, y1, y2, y3⟩ := B42.out.cells
              go_wp2_with fail
              go_roundw
              case rel => exact ⟨k + 1, by omega, by go_num, rowAt_eq S2.out HQ.out, X2.out, LO2.out⟩
              case measure => simp [intOf]; omega
      · obtain rfl : k = m.gates.length := by omega
        go_wp2_with fail
        go_ret
        rw [← HEND.out]
        exact ints_end SO.out.2 LO.out
end C
end Go.Proofs.Ytdgfceiobpnchaa
