/-
  CONTRACT of spec.l3Rounds: the sets that one has at first and behind each round that brings a colour, in a new list; what lay in memory stays. Condition: a valid maze, a set of colours.
-/
import Derived.Test.YtoiapfdlbkncaaaClose
namespace Go.Proofs.Ytoiapfdlbkncaaa
open Go.RowKit
namespace C
def sliceL : Value → Nat
  | .slice _ n _ => n
  | _ => 0
set_option maxHeartbeats 3200000
set_option maxRecDepth 20000
theorem rounds_any (w : World) (lo hi : Nat) (m : M.Mz) (a b : Option Addr) (c d : Nat) (h : MzIn lo hi w m a c b d) (hz : hi ≤ w.heap.size) (V : M.Valid m) (s : Int) (h0 : 0 ≤ s) (h1 : s < 64) :
    Calls Try.prog 72 #[.agg #[.int .i64 m.size, .slice a m.doors.length c, .slice b m.keys.length d], .int .i64 s] w (IntsPost w (M.setsTo m s (M.lastK m s))) := by
  obtain ⟨ii0, hi0, hz0, hzz1, hz2⟩ := info_parts infoI
  have H := Lib.hid h
  have HVA := Lib.hid V
  have hkl := V.keysLen
  have v12 := V.size12
  have v1 := V.size1
  have hlk := M.lastK_le m s
  have HLI := Lib.hid (fun (k : Nat) (hk : k ≤ M.lastK m s) => M.last_iff V ⟨h0, h1⟩ hk)
  have HIT := Lib.hid (fun k => M.it_set V ⟨h0, h1⟩ k)
  clear h V
  go_enter Try.func72, Try.ntmps72
  go_wp2_with fail
  refine wp_named ?_
  intro W hW
  have hb : Below w.heap.size w W := by rw [hW]; exact (below_alloc _ _).alloc (by simp) _
  have x1 : Box3 W w.heap.size 29 (.int .i64 m.size) (.slice a m.doors.length c) (.slice b m.keys.length d) := by rw [hW]; exact (Box3.new _ _ _ _ rfl).alloc _
  have o1 : W.ownsRow w.heap.size 3 1 (.slice (some ⟨w.heap.size + 1, 0, none⟩) 1 1) 1 (M.encIs (M.setsTo m s 0)) := by
    rw [hW]
    have := ownsRow_one (w.alloc (.cells #[.int .i64 m.size, .slice a m.doors.length c, .slice b m.keys.length d] 29)) w.heap.size 3 (.int .i64 s) (by simp)
    rw [World.size_alloc] at this
    exact this
  clear hW
  have X1 := Lib.hid x1
  have O1 := Lib.hid o1
  have HB := Lib.hid hb
  clear x1 o1 hb
  go_loopw [5, 6, 7, 8, 9] (fun v5 _ _ _ _ wr => ∃ (k : Nat), k ≤ M.lastK m s ∧ wr.ownsRow w.heap.size 3 1 v5 (k + 1) (M.encIs (M.setsTo m s k)) ∧ Box3 wr w.heap.size 29 (.int .i64 m.size) (.slice a m.doors.length c) (.slice b m.keys.length d) ∧ Below w.heap.size w wr) (fun v5 _ _ _ _ _ => 70 - sliceL v5)
  case atStart => exact ⟨0, Nat.zero_le _, O1.out, X1.out, HB.out⟩
  case round =>
    obtain ⟨k, hk, hso, hx, hlow⟩ := hrel
    obtain ⟨la, lc, hv, hl1, hl2, hlr⟩ := own_slice hso
    subst hv
    have SO := Lib.hid hso
    obtain ⟨sb, soff, hsa, _, _, hsc⟩ := hlr.row.at_ (k := k) (by rw [M.encIs_len, M.setsTo_len]; omega)
    have sx : wr.cell? ⟨sb, soff + k, none⟩ = some (.int .i64 (M.it m s k)) := hsc _ _ (by unfold M.encIs; rw [List.getElem?_map, M.setsTo_at (by omega)]; rfl)
    subst hsa
    have X7 := Lib.hid hx
    have B7 := Lib.hid hlow
    have hzr := hlow.size
    have hbl := hx.lt
    obtain ⟨c0, c1, c2⟩ := hx.cells
    obtain ⟨i0, i1⟩ := HIT.out k
    obtain ⟨j0, j1⟩ := HIT.out (k + 1)
    have HPC := Lib.hid (HLI.out k hk)
    have HNX : Hid (M.gath m (M.reachOf m 0 (M.it m s k)) (M.it m s k) = M.it m s (k + 1)) := Lib.hid rfl
    clear hso hx hlow hlr hsc
    generalize hs0 : M.it m s k = s0 at *
    have HS0 := Lib.hid hs0
    clear hs0
    go_wp2_with fail
    refine (reach_any wr lo hi m a b c d (H.out.below B7.out hz) (by omega) HVA.out 0 s0 (Int.le_refl _) (by omega) i0 i1).mono ?_
    rintro e w1 ⟨ra, rc, rfl, ho, ho1, ho2, hb1⟩
    have SO8 := Lib.hid (own_below SO.out hb1)
    have HN := Lib.hid (fun y hy => M.reach_node HVA.out (s := s0) (y := y) hy)
    have hlen : (M.reachOf m 0 s0).length ≤ 12 := M.rchL_len _ _ _
    generalize hLL : M.reachOf m 0 s0 = L at *
    have HLL := Lib.hid hLL
    have HO := Lib.hid ho
    have X8 := Lib.hid (X7.out.below hb1)
    have B8 := Lib.hid (B7.out.trans (hb1.mono hzr))
    have hz1 := hb1.size
    clear hLL ho hb1 c0 c1 c2 sx
    go_wp2_with fail
    go_loopw [8, 9] (fun v7 v8 wr => ∃ (i : Nat), i ≤ L.length ∧ v8 = .int .i64 i ∧ v7 = .int .i64 (M.gath m (L.take i) s0) ∧ Below w1.heap.size w1 wr) (fun _ v8 _ => L.length - (intOf v8).toNat)
    case atStart => exact ⟨0, Nat.zero_le _, rfl, rfl, Below.refl _ _⟩
    case round =>
      obtain ⟨i, hi', rfl, rfl, hni⟩ := hrel
      have HI := Lib.hid hni
      have hzi := hni.size
      clear hni
      by_cases hil : i < L.length
      · obtain ⟨lb, loff, hla, hlb1, hlb2, hlc⟩ := (HO.out.below HI.out (Nat.le_refl _)).row.at_ (k := i) (by rw [M.encIs_len]; exact hil)
        have lx := hlc _ _ (M.encIs_at hil)
        obtain ⟨y0, y1⟩ := HN.out L[i] (List.getElem_mem hil)
        obtain ⟨j, hj⟩ : ∃ j : Nat, L[i] = (j : Int) := ⟨L[i].toNat, by omega⟩
        have hjl : j < m.keys.length := by omega
        obtain ⟨ib, ioff, hib, _, hib2, hic⟩ := H.out.keys.at_ (k := j) (by rw [M.encIs_len]; exact hjl)
        subst hib
        have kx : wr.cell? ⟨ib, ioff + j, none⟩ = some (.int .i64 m.keys[j]) := ((B8.out.trans (HI.out.mono B8.out.size)).cell (p := ⟨ib, ioff + j, none⟩) (show ib < w.heap.size by omega)).trans (hic _ _ (M.encIs_at hjl))
        have hgt : Hid (M.gath m (L.take (i + 1)) s0 = bits .or .i64 (M.gath m (L.take i) s0) m.keys[j]) := Lib.hid (by rw [M.gath_take hil, hj, Int.toNat_natCast, List.getD_eq_getElem?_getD, List.getElem?_eq_getElem hjl]; rfl)
        rw [hj] at lx
        subst hla
        have hjd : j < d := by have := H.out.d1; omega
        have x9 := X8.out.below HI.out
        obtain ⟨c0, c1, c2⟩ := x9.cells
        have hbl9 := x9.lt
        have E2 := cell_grown hbl9 c2
        have E3 := cell_grown (a := ⟨lb, loff + i, none⟩) (show lb < wr.heap.size by omega) lx
        have E4 := cell_grown (a := ⟨ib, ioff + j, none⟩) (show ib < wr.heap.size by omega) kx
        clear hlc hic y0 y1 hj x9
        have mixed : Try.prog.follows .mixedOrders = true := by kernel_rfl
        have hil' : ((i : Nat) : Int) < ((L.length : Nat) : Int) := by omega
        go_wp2_with fail
        refine wp_region_quiet_grown (by assumption) (by kernel_rfl) ?_
        repeat (first | go_big_quiet_step (fail) | quiet_step (fail))
        refine wpQuiet_nil ?_
        intro _ hw'
        obtain ⟨⟨nq, osq⟩, hw''⟩ := hw'
        subst hw''
        go_wp2_with fail
        go_roundw
        case rel => exact ⟨i + 1, by omega, by go_num, by rw [hgt.out], HI.out.trans ((below_grown wr nq osq).mono hzi)⟩
        case measure => simp [intOf]; omega
      · obtain rfl : i = L.length := by omega
        rw [List.take_of_length_le (Nat.le_refl _), HNX.out]
        have SO9 := Lib.hid (own_below SO8.out HI.out)
        have X9 := Lib.hid (X8.out.below HI.out)
        have B9 := Lib.hid (B8.out.trans (HI.out.mono B8.out.size))
        by_cases hkk : k = M.lastK m s
        · have hEQ : Hid (M.it m s (k + 1) = s0) := Lib.hid (by rw [HPC.out.2 hkk])
          have HK := Lib.hid hkk
          rw [hEQ.out]
          clear hkk
          go_wp2_with fail
          go_ret
          rw [← HK.out]
          have hfin := SO9.out
          have hsl := M.setsTo_len m s k
          rw [← hsl] at hfin ⊢
          exact ints_end hfin B9.out
        · have hne : (M.it m s (k + 1) == s0) = false := by rw [beq_eq_false_iff_ne]; exact fun e => hkk (HPC.out.1 e)
          have hne2 : ¬ M.it m s (k + 1) = s0 := fun e => hkk (HPC.out.1 e)
          have HK := Lib.hid hkk
          have HNE := Lib.hid (own_ne_box SO9.out X9.out (by decide))
          have HGS := Lib.hid (M.setsTo_succ m s k)
          clear hkk
          generalize M.it m s (k + 1) = s1 at *
          go_wp2_with (at_builtin; refine wpList_append_own _ rfl _ _ 23 rfl w.heap.size 3 ii0 (.int .i64 0) 1 8 Try.underlying23 hi0 hz0 hzz1 hz2 rfl (by decide) _ _ _ rfl (SO9.out.alloc _) ⟨wr.heap.size, 0, none⟩ 1 1 [.int .i64 s1] rfl rfl (cell_one_new _ _ _) (fun x hx => by simp at hx; subst hx; rfl) (by unfold maxLen; omega) (by omega) (by simp; omega) ?_; intro v' w3 hown' hgrow3 hnil3)
          obtain ⟨va, vc, hva, _, _, _⟩ := own_slice hown'
          subst hva
          refine ⟨⟨k + 1, by have := HK.out; omega, ?_, (X9.out.alloc _).grown hgrow3 HNE.out, (B9.out.alloc (by have := B9.out.size; omega) _).grown hgrow3 (by have := B9.out.size; simp; omega) (own_base SO9.out)⟩, by simp [sliceL]; omega⟩
          rw [HGS.out, M.encIs_append]
          exact hown'
end C
end Go.Proofs.Ytoiapfdlbkncaaa
