/-
  CONTRACT of spec.l3Entered: for each node the round in which it is entered, or 0, in a new list; what lay in memory stays. Condition: a valid maze, a set of colours.
-/
import Derived.Test.YtoiapfdlbkncaaaEntMath
import Derived.Test.YtoiapfdlbkncaaaRounds
import Derived.Test.YtoiapfdlbkncaaaMzEnd
import Derived.Deep.RegionHeld3
import Derived.Deep.RegionWith
import Derived.Deep.DeepCutAuto
import Derived.OwnWalk
namespace Go.Proofs.Ytoiapfdlbkncaaa
open Go.RowKit
namespace C
set_option maxHeartbeats 3200000
set_option maxRecDepth 20000
theorem made_zero (n : Nat) : (madeCells (Value.int .i64 0).cells (n * 1)).toList = M.encIs (List.replicate n 0) := by
  refine List.ext_getElem? fun k => ?_
  unfold madeCells M.encIs
  rcases Nat.lt_or_ge k n with h | h
  · simp [h, Value.cells, Nat.mod_one]
  · simp [h]
theorem make_run {i : TypeInfo} (hi : Try.prog.info? 3 = some i) (hz : i.zero = some (.int .i64 0)) (hs : i.size = 1) (hb : i.bytes = 8) {x : Int} {n : Nat} (hx : x = (n : Int)) (hn : n ≤ 1000) : ∃ zs : Array Value, zs.size = n ∧ zs.toList = M.encIs (List.replicate n 0) ∧ ∀ w : World,
    (Instr.makeSlice 23 (.int .i64 x) (.int .i64 x)).run Try.prog w = .ok (.slice (some ⟨w.heap.size, 0, none⟩) n n) (w.alloc (.cells zs 3)) := by
  subst hx
  refine ⟨madeCells (Value.int .i64 0).cells (n * 1), by rw [size_madeCells]; omega, made_zero n, fun w => ?_⟩
  have := run_make (P := Try.prog) w 23 3 i (.int .i64 0) Try.underlying23 hi hz .i64 .i64 n n (by omega) (Int.le_refl _) (by rw [hb]; omega) (by omega)
  rw [Int.toNat_natCast, hs] at this
  exact this
theorem own_made {w : World} {B n : Nat} {zs : Array Value} (hs : zs.size = n) (hn : n ≤ 1000) (hB : B ≤ w.heap.size) : (w.alloc (.cells zs 3)).ownsRow B 3 1 (.slice (some ⟨w.heap.size, 0, none⟩) n n) n zs.toList :=
  ⟨by simp [hs], .inr ⟨w.heap.size, n, zs, rfl, hB, heap_alloc_new w _, Nat.le_refl _, by unfold maxLen; omega, by simp [hs], by rw [List.take_of_length_le (by simp [hs])]⟩⟩
/-- a row at its block's head lies in that block -/
theorem OwnAt.of_own0 {w : World} {base size n c g : Nat} {T : TypeId} {xs : List Value} (h : w.ownsRow base T size (.slice (some ⟨g, 0, none⟩) n c) n xs) : OwnAt g (g + 1) w T (some ⟨g, 0, none⟩) xs := by
  rcases OwnAt.of_own h with h | ⟨b, off, cur, ha, _, _, hh, hc⟩
  · exact .inl h
  · injection ha with ha
    injection ha with e1 e2 _
    subst e1; subst e2
    exact .inr ⟨g, 0, cur, rfl, Nat.le_refl _, Nat.lt_succ_self _, hh, hc⟩
theorem entered_any (w : World) (lo hi : Nat) (m : M.Mz) (a b : Option Addr) (c d : Nat) (h : MzIn lo hi w m a c b d) (hz : hi ≤ w.heap.size) (V : M.Valid m) (s : Int) (h0 : 0 ≤ s) (h1 : s < 64) :
    Calls Try.prog 78 #[.agg #[.int .i64 m.size, .slice a m.doors.length c, .slice b m.keys.length d], .int .i64 s] w (IntsPost w (M.nodeRounds m s (M.lastK m s + 1))) := by
  obtain ⟨ii0, hi0, hz0, hzz1, hz2⟩ := info_parts infoI
  have H := Lib.hid h
  have HVA := Lib.hid V
  have hkl := V.keysLen
  have v12 := V.size12
  have v1 := V.size1
  have hlk := M.lastK_le m s
  have HIT := Lib.hid (fun k => M.it_set V ⟨h0, h1⟩ k)
  clear h V
  obtain ⟨n, hn⟩ : ∃ n : Nat, m.size = (n : Int) := ⟨m.size.toNat, by omega⟩
  have hn12 : n ≤ 12 := by omega
  have HNS := Lib.hid hn
  clear hn
  go_enter Try.func78, Try.ntmps78
  go_upto_region 1 with fail
  refine wp_named ?_
  intro W hW
  have hb : Below w.heap.size w W := by rw [hW]; exact below_alloc _ _
  have x1 : Box3 W w.heap.size 29 (.int .i64 m.size) (.slice a m.doors.length c) (.slice b m.keys.length d) := by rw [hW]; exact Box3.new _ _ _ _ rfl
  clear hW
  have hzw := hb.size
  have HB := Lib.hid hb
  have X1 := Lib.hid x1
  have HRO := Lib.hid (fun W' (hq : Below W.heap.size W W') => rounds_any W' lo hi m a b c d (H.out.below (HB.out.trans (hq.mono (by omega))) hz) (by have := hq.size; omega) HVA.out s h0 h1)
  obtain ⟨d0, d1, d2⟩ := x1.cells
  obtain ⟨zs, hzs1, hzs2, hmr⟩ := make_run hi0 hz0 hzz1 hz2 HNS.out (by omega)
  clear hb x1
  go_cut [5, 6] (fun s5 s6 wx => ∃ g lo2 hi2 ra rc, s5 = .slice (some ⟨g, 0, none⟩) n n ∧ s6 = .slice ra (M.lastK m s + 1) rc ∧ OwnAt g (g + 1) wx 3 (some ⟨g, 0, none⟩) (M.encIs (M.nodeRounds m s 0)) ∧ OwnAt lo2 hi2 wx 3 ra (M.encIs (M.setsTo m s (M.lastK m s))) ∧ (g < lo2 ∨ hi2 ≤ g) ∧ hi2 ≤ wx.heap.size ∧ g < wx.heap.size ∧ W.heap.size ≤ g ∧ W.heap.size ≤ lo2 ∧ M.lastK m s + 1 ≤ rc ∧ rc ≤ 9223372036854775807 ∧ Below W.heap.size W wx)
  case first =>
    go_region_held3 (fun wq => wq.cell? ⟨w.heap.size, 0, none⟩ = some (.int .i64 m.size) ∧ wq.cell? ⟨w.heap.size, 1, none⟩ = some (.slice a m.doors.length c) ∧ wq.cell? ⟨w.heap.size, 2, none⟩ = some (.slice b m.keys.length d)) (first | exact ⟨d0, d1, d2⟩ | go_keep) (first
      | (go_at_call 72; refine (HRO.out W.drew (Below.refl W.heap.size W).drew).mono ?_; rintro e w5 ⟨ra, rc, rfl, ho, ho1, ho2, hb5⟩; have hb5' : Below W.heap.size W w5 := (Below.refl W.heap.size W).drew.trans hb5; obtain ⟨d0, d1, d2⟩ := (X1.out.below hb5').cells; have hz5 := hb5'.size)
      | (go_at_call 72; refine (HRO.out (W.drew.alloc (.cells zs 3)) ((Below.refl W.heap.size W).drew.alloc (Nat.le_refl _) _)).mono ?_; rintro e w5 ⟨ra, rc, rfl, ho, ho1, ho2, hb5⟩; have hb5' : Below W.heap.size W w5 := ((Below.refl W.heap.size W).drew.alloc (Nat.le_refl _) _).trans (hb5.mono (by simp)); obtain ⟨d0, d1, d2⟩ := (X1.out.below hb5').cells; have hz5 := hb5'.size))
    all_goals
      go_wp2_with fail
      go_meet
      rw [M.setsTo_len] at ho1
      have hnr : M.encIs (M.nodeRounds m s 0) = zs.toList := by rw [hzs2, M.nodeRounds0 HNS.out]
      rw [hnr]
      first
        | exact ⟨W.heap.size, W.heap.size + 1, w5.heap.size, ra, rc, rfl, by rw [M.setsTo_len], ((OwnAt.of_own0 (own_made (w := W.drew) (B := 0) hzs1 (by omega) (Nat.zero_le _))).mono (Nat.le_refl _) (by simp)).below hb5 (by simp), ho.mono (by simp) (Nat.le_refl _), .inl (Nat.lt_succ_self _), Nat.le_refl _, by have := hb5.size; simp at this; omega, Nat.le_refl _, Nat.le_succ _, ho1, ho2, hb5'⟩
        | exact ⟨w5.heap.size, W.heap.size, w5.heap.size, ra, rc, rfl, by rw [M.setsTo_len], (OwnAt.of_own0 (own_made (w := w5) (B := 0) hzs1 (by omega) (Nat.zero_le _))).mono (Nat.le_refl _) (Nat.le_refl _), ((ho.mono (by simp) (Nat.le_refl _)).below (below_alloc _ _) (Nat.le_refl _)), .inr (Nat.le_refl _), by simp, by simp, hz5, Nat.le_refl _, ho1, ho2, hb5'.alloc hz5 _⟩
  case rest =>
    obtain ⟨g, lo2, hi2, ra, rc, rfl, rfl, hout, hset, hdis, hhi, hgl, hgW, hlW, hrc1, hrc2, hbc⟩ := hcut
    have X2 := Lib.hid (X1.out.below hbc)
    have HBC := Lib.hid hbc
    have hwc := hbc.size
    have OUT := Lib.hid hout
    have SET := Lib.hid hset
    have hwl := X1.out.lt
    clear hbc hout hset d0 d1 d2 hmr hzs2
    go_wp2_with fail
    go_loopw [7, 8, 9] (fun v7 _ _ wr => ∃ (r : Nat), r ≤ M.lastK m s + 1 ∧ v7 = .int .i64 r ∧ OwnAt g (g + 1) wr 3 (some ⟨g, 0, none⟩) (M.encIs (M.nodeRounds m s r)) ∧ OwnAt lo2 hi2 wr 3 ra (M.encIs (M.setsTo m s (M.lastK m s))) ∧ Box3 wr w.heap.size 29 (.int .i64 m.size) (.slice a m.doors.length c) (.slice b m.keys.length d) ∧ Below W.heap.size W wr ∧ wc.heap.size ≤ wr.heap.size) (fun v7 _ _ _ => M.lastK m s + 1 - (intOf v7).toNat)
    case atStart => exact ⟨0, Nat.zero_le _, rfl, OUT.out, SET.out, X2.out, HBC.out, Nat.le_refl _⟩
    case round =>
      obtain ⟨r, hr, rfl, ho3, hs3, hx3, hb3, hsz3⟩ := hrel
      have O3 := Lib.hid ho3
      have S3 := Lib.hid hs3
      have X3 := Lib.hid hx3
      have B3 := Lib.hid hb3
      clear ho3 hs3 hx3 hb3
      by_cases hrl : r < M.lastK m s + 1
      · obtain ⟨sb, soff, hsa, hsb1, hsb2, hsc⟩ := S3.out.row.at_ (k := r) (by rw [M.encIs_len, M.setsTo_len]; exact hrl)
        have sx : wr.cell? ⟨sb, soff + r, none⟩ = some (.int .i64 (M.it m s r)) := hsc _ _ (by unfold M.encIs; rw [List.getElem?_map, M.setsTo_at hrl]; rfl)
        subst hsa
        obtain ⟨c0, c1, c2⟩ := X3.out.cells
        obtain ⟨i0, i1⟩ := HIT.out r
        have hmA := M.midR_all m s r
        have HMA := Lib.hid hmA
        have HMN := Lib.hid (M.midR_nil m s r)
        have hsb3 : sb < wr.heap.size := by omega
        clear hsc hmA
        generalize hs0 : M.it m s r = s0 at *
        have HRE := Lib.hid (fun W' (hq : Below wr.heap.size wr W') => reach_any W' lo hi m a b c d (H.out.below (HB.out.trans ((B3.out.trans (hq.mono (by omega))).mono hzw)) hz) (by have := hq.size; omega) HVA.out 0 s0 (Int.le_refl _) (by omega) i0 i1)
        have HN := Lib.hid (fun y hy => M.reach_node HVA.out (s := s0) (y := y) hy)
        have hlen : (M.reachOf m 0 s0).length ≤ 12 := M.rchL_len _ _ _
        generalize M.reachOf m 0 s0 = L at *
        clear hs0
        go_wp2_with fail
        go_cut [8] (fun s8 wx => ∃ qa qc, s8 = .slice qa L.length qc ∧ OwnAt wr.heap.size wx.heap.size wx 3 qa (M.encIs L) ∧ L.length ≤ qc ∧ qc ≤ 9223372036854775807 ∧ Below wr.heap.size wr wx)
        case first =>
          go_region_held3 (fun wq => wq.cell? ⟨w.heap.size, 0, none⟩ = some (.int .i64 m.size) ∧ wq.cell? ⟨w.heap.size, 1, none⟩ = some (.slice a m.doors.length c) ∧ wq.cell? ⟨w.heap.size, 2, none⟩ = some (.slice b m.keys.length d) ∧ wq.cell? ⟨sb, soff + r, none⟩ = some (.int .i64 s0)) (first | exact ⟨c0, c1, c2, sx⟩ | go_keep) (first
            | (go_at_call 62; refine (HRE.out wr.drew (Below.refl wr.heap.size wr).drew).mono ?_; rintro e w5 ⟨qa, qc, rfl, hq, hq1, hq2, hb5⟩; have hb5' : Below wr.heap.size wr w5 := (Below.refl wr.heap.size wr).drew.trans hb5; obtain ⟨c0, c1, c2⟩ := (X3.out.below hb5').cells; have sx := (hb5'.cell (p := ⟨sb, soff + r, none⟩) hsb3).trans sx))
          all_goals
            go_wp2_with fail
            go_meet
            exact ⟨qa, qc, rfl, hq, hq1, hq2, hb5'⟩
        case rest =>
          obtain ⟨qa, qc, rfl, hq, hq1, hq2, hb4⟩ := hcut
          have hz4 := hb4.size
          have Q4 := Lib.hid hq
          have O4 := Lib.hid (show OwnAt g (g + 1) wc 3 (some ⟨g, 0, none⟩) (M.encIs (M.midR m s r (L.take 0))) from by rw [List.take_zero, HMN.out]; exact O3.out.below hb4 (by omega))
          have S4 := Lib.hid (S3.out.below hb4 (by omega))
          have X4 := Lib.hid (X3.out.below hb4)
          have B4 := Lib.hid (B3.out.trans (hb4.mono B3.out.size))
          clear hq hb4 c0 c1 c2 sx
          have hmn : m.size.toNat = n := by rw [HNS.out]; rfl
          go_wp2_with fail
          go_loopw [9] (fun v9 wx => ∃ (i : Nat), i ≤ L.length ∧ v9 = .int .i64 i ∧ OwnAt g (g + 1) wx 3 (some ⟨g, 0, none⟩) (M.encIs (M.midR m s r (L.take i))) ∧ Turned g (g + 1) wc wx) (fun v9 _ => L.length - (intOf v9).toNat)
          case atStart => exact ⟨0, Nat.zero_le _, rfl, O4.out, Turned.refl _ _ _⟩
          case round =>
            obtain ⟨i, hi', rfl, hox, htx⟩ := hrel
            have OX := Lib.hid hox
            have TX := Lib.hid htx
            have htz := htx.size
            clear hox htx
            by_cases hil : i < L.length
            · obtain ⟨lb, loff, hla, hlb1, hlb2, hlc⟩ := (Q4.out.turned TX.out (Nat.le_refl _) (.inr (by omega))).row.at_ (k := i) (by rw [M.encIs_len]; exact hil)
              have lx := hlc _ _ (M.encIs_at hil)
              obtain ⟨y0, y1⟩ := HN.out L[i] (List.getElem_mem hil)
              obtain ⟨j, hj⟩ : ∃ j : Nat, L[i] = (j : Int) := ⟨L[i].toNat, by omega⟩
              have hjn : j < n := by have := HNS.out; omega
              have hjs : j < m.size.toNat := by omega
              have HJ := Lib.hid hj
              rw [hj] at lx
              subst hla
              obtain ⟨u, hu, ox, fx⟩ := OX.out.cell0 (k := j) (by rw [M.encIs_len, M.midR_len]; exact hjs)
              have hue : u = .int .i64 (M.vR m s r (L.take i) j) := by
                unfold M.encIs at hu
                rw [List.getElem?_map, M.midR_at hjs] at hu
                injection hu with hu
                exact hu.symm
              subst hue
              clear hlc y0 y1 hj hu
              by_cases hv : M.vR m s r (L.take i) j = 0
              · have hst := OX.out.set0 j (.int .i64 ((r : Int) + 1))
                rw [← encIs_set, show ((r : Int) + 1) = ((r + 1 : Nat) : Int) by omega, ← M.mid_yes hil HJ.out hjs hv] at hst
                rw [show ((r + 1 : Nat) : Int) = (r : Int) + 1 by omega] at hst
                have HST := Lib.hid hst
                rw [hv] at ox
                clear hst hv
                go_wp2_with fail
                go_roundw
                case rel => exact ⟨i + 1, by omega, by go_num, HST.out, TX.out.trans (Turned.setCell _ _ _ _ (Nat.le_refl _) (Nat.lt_succ_self _))⟩
                case measure => simp [intOf]; omega
              · have HM := Lib.hid (M.mid_no hil HJ.out hv)
                have hvb : (M.vR m s r (L.take i) j == 0) = false := by rw [beq_eq_false_iff_ne]; exact hv
                generalize M.vR m s r (L.take i) j = vv at *
                go_wp2_with fail
                go_roundw
                case rel => exact ⟨i + 1, by omega, by go_num, by rw [HM.out]; exact OX.out, TX.out⟩
                case measure => simp [intOf]; omega
            · obtain rfl : i = L.length := by omega
              go_wp2_with fail
              go_roundw
              case rel =>
                refine ⟨r + 1, by omega, by go_num, ?_, S4.out.turned TX.out (by omega) (by omega), X4.out.turned TX.out (.inl (by omega)), Below.thenTurned B4.out TX.out (by omega) B4.out.size, by omega⟩
                rw [← HMA.out]
                have := OX.out
                rw [List.take_of_length_le (Nat.le_refl _)] at this
                exact this
              case measure => simp [intOf]; omega
      · obtain rfl : r = M.lastK m s + 1 := by omega
        have hln := M.nodeRounds_len m s (M.lastK m s + 1)
        have hmn : m.size.toNat = n := by rw [HNS.out]; rfl
        rw [hmn] at hln
        have HL := Lib.hid hln
        clear hln hmn
        go_wp2_with fail
        go_ret
        exact ⟨_, _, by rw [HL.out]; rfl, O3.out.mono (by omega) (by omega), by rw [HL.out]; exact Nat.le_refl _, by omega, HB.out.trans (B3.out.mono hzw)⟩
end C
end Go.Proofs.Ytoiapfdlbkncaaa
