/-
  CONTRACT of the program's SpanOfPulls; what lay in memory stays. No condition but that the works read so.
-/
import Derived.Test.YtdgfceiobpnchaaSpanM
import Derived.Test.YtdgfceiobpnchaaKeepA
import Derived.Test.YtdgfceiobpnchaaWkImp
import Derived.Test.YtdgfceiobpnchaaRunM
import Derived.Test.YtdgfceiobpnchaaIdsV
import Derived.Test.YtdgfceiobpnchaaOwn
import Derived.StillTailTactics
import Derived.IntWalk
import Derived.Deep.Cut
namespace Go.Proofs.Ytdgfceiobpnchaa
open Go.RowKit
namespace C
set_option maxHeartbeats 3200000
set_option maxRecDepth 20000
theorem implSpan_lw (w : World) (lo hi : Nat) (m : M.Wk) (a b : Option Addr) (c d : Nat) (h : WkIn lo hi w m a c b d) (hz : hi ≤ w.heap.size) (_h1 : m.gates.length ≤ 1048576) (_h2 : m.pulls.length ≤ 1048576) :
    Calls Try.prog 51 #[.agg #[.int .i64 m.size, .slice a m.gates.length c, .slice b m.pulls.length d]] w (fun e w' => e = .returned (.tuple #[.int .i64 (M.spanV m), .bool (M.worksB m)]) ∧ Below w.heap.size w w') := by
  obtain ⟨ii0, hi0, hz0, hzz1, hz2⟩ := info_parts infoI
  have H := Lib.hid h
  have hc1 := h.c1
  have hc2 := h.c2
  have hd1 := h.d1
  have hd2 := h.d2
  clear h
  go_enter Try.func51, Try.ntmps51
  go_wp2_with fail
  refine named ?_
  intro W hW
  have hb : Below w.heap.size w W := by rw [hW]; exact below_alloc _ _
  have x1 : Box3 W w.heap.size 28 (.int .i64 m.size) (.slice a m.gates.length c) (.slice b m.pulls.length d) := by rw [hW]; exact Box3.new _ _ _ _ rfl
  clear hW
  have hzw := hb.size
  refine (isWorks_any W lo hi m a b c d (H.out.below hb hz) (by omega)).mono ?_
  rintro e w1 ⟨rfl, hb1⟩
  have X1 := Lib.hid (x1.below hb1)
  have HB1 := Lib.hid (hb.trans (hb1.mono hzw))
  have hz1 := hb1.size
  have hxl1 := X1.out.lt
  clear hb hb1 x1
  obtain ⟨c0, c1, c2⟩ := X1.out.cells
  cases q0 : M.worksB m with
  | false =>
    have HM := Lib.hid q0
    clear q0
    go_wp2_with fail
    go_ret2
    have HF := Lib.hid (M.span_off HM.out)
    rw [HF.out, HM.out]
    exact ⟨rfl, HB1.out⟩
  | true =>
    have HM := Lib.hid q0
    have HV := Lib.hid (M.wv_of q0)
    clear q0
    have HVS := Lib.hid (M.span_on HM.out)
    have hpl := HV.out.pullsLen
    have v12 := HV.out.size12
    have hp12 : m.pulls.length ≤ 12 := by omega
    have HLB := Lib.hid (M.spnI_len hp12)
    have HSU := Lib.hid (fun k (hk : k < m.pulls.length) => M.spnI_succ hk)
    have hoS : (w1.alloc (.cells #[.int .i64 0] 3)).ownsRow (w.heap.size + 1) 3 1 (.slice (some ⟨w1.heap.size, 0, none⟩) 1 1) 1 (M.encIs (M.spnI m 0)) :=
      ⟨rfl, .inr ⟨w1.heap.size, 1, _, rfl, by omega, heap_alloc_new w1 _, Nat.le_refl _, by unfold maxLen; omega, by simp, rfl⟩⟩
    have HL0 : Hid ((M.spnI m 0).length = 1) := Lib.hid rfl
    go_upto_region 4 with fail
    refine wp_named ?_
    intro W4 hW4
    have hb4 : Below w1.heap.size w1 W4 := by rw [hW4]; exact below_alloc _ _
    rw [← hW4] at hoS
    have O4 := Lib.hid hoS
    have X4 := Lib.hid (X1.out.below hb4)
    have HB4 := Lib.hid (HB1.out.trans (hb4.mono (by omega)))
    clear hW4 hoS hb4 c0 c1 c2
    obtain ⟨c0, c1, c2⟩ := X4.out.cells
    generalize w1.heap.size = g1 at *
    go_wp2_with fail
    go_loopw [4, 16] (fun v4 v16 wr => ∃ (k ga ca : Nat), k ≤ m.pulls.length ∧ v16 = .int .i64 (k : Int) ∧ v4 = .slice (some ⟨ga, 0, none⟩) (M.spnI m k).length ca ∧ wr.ownsRow (w.heap.size + 1) 3 1 v4 (M.spnI m k).length (M.encIs (M.spnI m k)) ∧ Box3 wr w.heap.size 28 (.int .i64 m.size) (.slice a m.gates.length c) (.slice b m.pulls.length d) ∧ Below w.heap.size w wr) (fun _ v16 _ => m.pulls.length - (intOf v16).toNat)
    case atStart => exact ⟨0, g1, 1, Nat.zero_le _, rfl, rfl, O4.out, X4.out, HB4.out⟩
    case round =>
      obtain ⟨k, ga, ca, hk, rfl, rfl, hown, hbx, hlow⟩ := hrel
      have O := Lib.hid hown
      have BX := Lib.hid hbx
      have LO := Lib.hid hlow
      have hzr := hlow.size
      have hlb := HLB.out k
      have hga : w.heap.size + 1 ≤ ga ∧ ga < wr.heap.size := hown.lt _ rfl
      clear hown hbx hlow
      by_cases hkl : k < m.pulls.length
      · have HS1 := Lib.hid (HSU.out k hkl)
        obtain ⟨pb, po, rfl, _, hpb, hcell⟩ := (H.out.below LO.out hz).pulls.at_ (k := k) (by rw [M.encIs_len]; exact hkl)
        have p0 := hcell _ _ (M.encIs_at hkl)
        clear hcell
        have HCO := Lib.hid (containsI_any wr (w.heap.size + 1) wr.heap.size (some ⟨ga, 0, none⟩) ca (M.spnI m k) m.pulls[k] (OwnAt.of_own O.out).row (by omega))
        generalize m.pulls[k] = p at *
        generalize hLL : M.spnI m k = L at *
        clear hLL
        cases q1 : M.memB L p with
        | true =>
          have HN := Lib.hid (HS1.out.trans (M.spanI_old q1))
          rw [q1] at HCO
          clear q1
          go_wp2_with fail
          refine (HCO.out).mono ?_
          rintro e w5 ⟨rfl, rfl⟩
          go_wp2_with fail
          go_roundw
          case rel => exact ⟨k + 1, ga, ca, by omega, by go_num, by rw [HN.out], by rw [HN.out]; exact O.out, BX.out, LO.out⟩
          case measure => simp [intOf]; omega
        | false =>
          have HN := Lib.hid (HS1.out.trans (M.spanI_new q1))
          rw [q1] at HCO
          clear q1
          go_wp2_with fail
          refine (HCO.out).mono ?_
          rintro e w5 ⟨rfl, rfl⟩
          go_wp2_with fail
          have SN0 : Hid (∀ i (hi : i < L.length), wr.cell? ⟨ga, i, none⟩ = some (.int .i64 L[i])) := Lib.hid fun i hi => by rw [O.out.cellAt i (by omega), M.encIs_at hi]
          generalize wr.heap.size = g5 at *
          go_loopw [4, 8, 25] (fun v4 _ v25 wr => ∃ (j gb cb : Nat), j ≤ L.length ∧ v25 = .int .i64 (j : Int) ∧ v4 = .slice (some ⟨gb, 0, none⟩) (L.length + j) cb ∧ wr.ownsRow (w.heap.size + 1) 3 1 v4 (L.length + j) (M.encIs (L ++ (L.map (M.xorP p)).take j)) ∧ (∀ i (hi : i < L.length), wr.cell? ⟨ga, i, none⟩ = some (.int .i64 L[i])) ∧ Box3 wr w.heap.size 28 (.int .i64 m.size) (.slice a m.gates.length c) (.slice (some ⟨pb, po, none⟩) m.pulls.length d) ∧ Below w.heap.size w wr) (fun _ _ v25 _ => L.length - (intOf v25).toNat)
          case atStart => exact ⟨0, ga, ca, Nat.zero_le _, rfl, rfl, by rw [List.take_zero, List.append_nil]; exact O.out, SN0.out, BX.out, LO.out⟩
          case round =>
            obtain ⟨j, gb, cb, hj, rfl, rfl, hoj, hsn, hbx, hlow⟩ := hrel
            have OJ := Lib.hid hoj
            have SN := Lib.hid hsn
            have BJ := Lib.hid hbx
            have LJ := Lib.hid hlow
            have hzj := hlow.size
            have hgb : w.heap.size + 1 ≤ gb ∧ gb < wr.heap.size := hoj.lt _ rfl
            clear hoj hsn hbx hlow
            by_cases hjl : j < L.length
            · have y0 := SN.out j hjl
              have HT := Lib.hid (M.map_take_succ (f := M.xorP p) hjl)
              have hgl : ga < wr.heap.size := World.block_lt_of_cell? wr _ y0
              generalize L[j] = x at *
              have hxp : M.xorP p x = bits .xor .i64 x p := rfl
              go_wp2_with (at_builtin; refine wpList_append_keep _ rfl _ _ 23 rfl (w.heap.size + 1) 3 ii0 (.int .i64 0) 1 8 Try.underlying23 hi0 hz0 hzz1 hz2 rfl (by decide) gb (L.length + j) cb _ rfl (OJ.out.alloc _) ⟨wr.heap.size, 0, none⟩ 1 1 [.int .i64 (M.xorP p x)] rfl rfl (cell_one_new _ _ _) (fun x hx => by simp at hx; subst hx; rfl) (by decide) (by unfold maxLen; omega) (by omega) (by simp; omega) ?_; intro g7 c7 w7 hown7 hgrow7 hat7 hlt7)
              go_roundw
              case rel =>
                have hsz7 := hgrow7.size
                rw [World.size_alloc] at hsz7
                refine ⟨j + 1, g7, c7, by omega, by go_num, by rw [Nat.add_assoc], ?_, ?_, ?_, ?_⟩
                · rw [HT.out, ← List.append_assoc, M.encIs_append]
                  exact hown7
                · intro i hi
                  have hi0 := (SN.out i hi)
                  have hi1 : (wr.alloc (.cells #[.int .i64 (M.xorP p x)] 3)).cell? ⟨ga, i, none⟩ = some (.int .i64 L[i]) := ((below_alloc wr _).cell (p := ⟨ga, i, none⟩) hgl).trans hi0
                  rcases hat7 with rfl | ⟨rfl, hold⟩
                  · by_cases e : ga = g7
                    · subst e
                      rw [hown7.cellAt i (by omega), List.getElem?_append_left (by rw [M.encIs_len, List.length_append]; omega), M.encIs_append, List.getElem?_append_left (by rw [M.encIs_len]; exact hi), M.encIs_at hi]
                    · rw [hgrow7.cell_far ⟨ga, i, none⟩ (by rw [World.size_alloc]; show ga < _; omega) (by intro e'; injection e' with e'; exact e e')]
                      exact hi1
                  · rw [World.cell?_of_block (hold ga (by rw [World.size_alloc]; omega))]
                    exact hi1
                · exact (BJ.out.alloc _).grown hgrow7 (by simp; omega)
                · exact (LJ.out.alloc (by omega) _).grown hgrow7 (by simp; omega) (fun z hz => by injection hz with hz; omega)
              case measure => simp [intOf]; omega
            · obtain rfl : j = L.length := by omega
              have HLN : Hid ((M.spnI m (k + 1)).length = L.length + L.length) := Lib.hid (by rw [HN.out, List.length_append, List.length_map])
              have OE := OJ.out
              rw [List.take_of_length_le (by rw [List.length_map]; exact Nat.le_refl _), ← HN.out] at OE
              have OEH := Lib.hid OE
              clear OE
              go_wp2_with fail
              go_roundw
              case rel => exact ⟨k + 1, gb, cb, by omega, by go_num, by rw [HLN.out], by rw [HLN.out]; exact OEH.out, BJ.out, LJ.out⟩
              case measure => simp [intOf]; omega
      · obtain rfl : k = m.pulls.length := by omega
        go_wp2_with fail
        go_ret2
        rw [HVS.out, HM.out]
        exact ⟨rfl, LO.out⟩
end C
end Go.Proofs.Ytdgfceiobpnchaa
