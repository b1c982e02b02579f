/-
  CONTRACT of spec.l2Close: the colours that one has at last, and the nodes that are entered with them, in a new list; what lay in memory stays. Condition: a valid maze, a set of colours.
  CONTRACT of spec.l3Rounds: the sets that one has at first and behind each round that brings a colour, in a new list; what lay in memory stays. Condition: a valid maze, a set of colours.
  CONTRACT of spec.l3Entered: for each node the round in which it is entered, or 0, in a new list; what lay in memory stays. Condition: a valid maze, a set of colours.
  CONTRACTS of the model's RoundsOf, GainAtLast, l3Wins, CanWin, NodeRounds, WinRound; what lay in memory stays. No condition but that the maze reads so.
  CONTRACTS of spec.l6Wins and spec.l6Bars: for each set whether it wins or bars, in a new list; what lay in memory stays. Condition: a valid maze that reads so.
  CONTRACTS of spec.l2Many, spec.l6Order and spec.l6Least: how many colours a set has; all sets in the order of a clutter; the least ones of a kind of sets, each in a new list; what lay in memory stays. Condition: sets of colours, a list of 64 bools that reads so.
-/
import Derived.Test.YtddpjjdncmokmaaReachS
import Derived.Test.YtddpjjdncmokmaaWEDoorsAt
import Derived.Test.YtddpjjdncmokmaaWCBefore
import Derived.Deep.RegionHeld3
import Derived.Deep.RegionWith
import Derived.Deep.DeepCutAuto
import Derived.OwnWalk
import Derived.Test.YtddpjjdncmokmaaWGAsk
import Derived.IntWalk
import Derived.Test.YtddpjjdncmokmaaWBDigitsI
import Derived.BigQuiet
namespace Go.Proofs.Ytddpjjdncmokmaa
open Go.RowKit
namespace C
set_option maxHeartbeats 3200000
set_option maxRecDepth 20000
def ClosePost (w : World) (s : Int) (l : List Int) (e : Ending) (w' : World) : Prop :=
  ∃ a c, e = .returned (.tuple #[.int .i64 s, .slice a l.length c]) ∧ OwnAt w.heap.size w'.heap.size w' 3 a (M.encIs l) ∧ l.length ≤ c ∧ c ≤ 9223372036854775807 ∧ Below w.heap.size w w'
theorem close_any (w : World) (lo hi : Nat) (m : M.Mz) (a b : Option Addr) (c d : Nat) (h : MzIn lo hi w m a c b d) (hz : hi ≤ w.heap.size) (V : M.Valid m) (s : Int) (h0 : 0 ≤ s) (h1 : s < 64) :
    Calls Try.prog 117 #[.agg #[.int .i64 m.size, .slice a m.doors.length c, .slice b m.keys.length d], .int .i64 s] w (ClosePost w (M.finC m s) (M.reachOf m 0 (M.finC m s))) := by
  have H := Lib.hid h
  have HVA := Lib.hid V
  have hkl := V.keysLen
  have v12 := V.size12
  have v1 := V.size1
  have hlk := M.lastK_le m s
  have HLI := Lib.hid (fun (k : Nat) (hk : k ≤ M.lastK m s) => M.last_iff V ⟨h0, h1⟩ hk)
  have HIT := Lib.hid (fun k => M.it_set V ⟨h0, h1⟩ k)
  clear h V
  go_enter Try.func117, Try.ntmps117
  go_wp2_with fail
  go_loopw [1, 6, 7, 8] (fun v1 _ _ _ wr => ∃ (k : Nat), k ≤ M.lastK m s ∧ v1 = .int .i64 (M.it m s k) ∧ Box3 wr w.heap.size 27 (.int .i64 m.size) (.slice a m.doors.length c) (.slice b m.keys.length d) ∧ Below w.heap.size w wr) (fun v1 _ _ _ _ => 64 - (intOf v1).toNat)
  case atStart => exact ⟨0, Nat.zero_le _, rfl, Box3.new _ _ _ _ rfl, below_alloc _ _⟩
  case round =>
    obtain ⟨k, hk, rfl, hx, hlow⟩ := hrel
    have X7 := Lib.hid hx
    have B7 := Lib.hid hlow
    have hzr := hlow.size
    have hbl := hx.lt
    obtain ⟨c0, c1, c2⟩ := hx.cells
    obtain ⟨i0, i1⟩ := HIT.out k
    obtain ⟨j0, j1⟩ := HIT.out (k + 1)
    have HPC := Lib.hid (HLI.out k hk)
    have HNX : Hid (M.gath m (M.reachOf m 0 (M.it m s k)) (M.it m s k) = M.it m s (k + 1)) := Lib.hid rfl
    have hle := M.it_le HVA.out ⟨h0, h1⟩ k
    have HFC : Hid (k = M.lastK m s → M.it m s k = M.finC m s) := Lib.hid (fun e => by unfold M.finC; rw [← e])
    clear hx hlow
    generalize hs0 : M.it m s k = s0 at *
    have HS0 := Lib.hid hs0
    clear hs0
    go_wp2_with fail
    refine (reach_any wr lo hi m a b c d (H.out.below B7.out hz) (by omega) HVA.out 0 s0 (Int.le_refl _) (by omega) i0 i1).mono ?_
    rintro e w1 ⟨ra, rc, rfl, ho, ho1, ho2, hb1⟩
    have HN := Lib.hid (fun y hy => M.reach_node HVA.out (s := s0) (y := y) hy)
    have hlen : (M.reachOf m 0 s0).length ≤ 12 := M.rchL_len _ _ _
    generalize hLL : M.reachOf m 0 s0 = L at *
    have HLL := Lib.hid hLL
    have HO := Lib.hid ho
    have X8 := Lib.hid (X7.out.below hb1)
    have B8 := Lib.hid (B7.out.trans (hb1.mono hzr))
    have hz1 := hb1.size
    clear hLL ho hb1 c0 c1 c2
    go_wp2_with fail
    go_loopw [7, 8] (fun v7 v8 wr => ∃ (i : Nat), i ≤ L.length ∧ v8 = .int .i64 i ∧ v7 = .int .i64 (M.gath m (L.take i) s0) ∧ Below w1.heap.size w1 wr) (fun _ v8 _ => L.length - (intOf v8).toNat)
    case atStart => exact ⟨0, Nat.zero_le _, rfl, rfl, Below.refl _ _⟩
    case round =>
      obtain ⟨i, hi', rfl, rfl, hni⟩ := hrel
      have HI := Lib.hid hni
      have hzi := hni.size
      clear hni
      by_cases hil : i < L.length
      · obtain ⟨lb, loff, hla, hlb1, hlb2, hlc⟩ := (HO.out.below HI.out (Nat.le_refl _)).row.at_ (k := i) (by rw [M.encIs_len]; exact hil)
        have lx := hlc _ _ (M.encIs_at hil)
        obtain ⟨y0, y1⟩ := HN.out L[i] (List.getElem_mem hil)
        obtain ⟨j, hj⟩ : ∃ j : Nat, L[i] = (j : Int) := ⟨L[i].toNat, by omega⟩
        have hjl : j < m.keys.length := by omega
        obtain ⟨ib, ioff, hib, _, hib2, hic⟩ := H.out.keys.at_ (k := j) (by rw [M.encIs_len]; exact hjl)
        subst hib
        have kx : wr.cell? ⟨ib, ioff + j, none⟩ = some (.int .i64 m.keys[j]) := ((B8.out.trans (HI.out.mono B8.out.size)).cell (p := ⟨ib, ioff + j, none⟩) (show ib < w.heap.size by omega)).trans (hic _ _ (M.encIs_at hjl))
        have hgt : Hid (M.gath m (L.take (i + 1)) s0 = bits .or .i64 (M.gath m (L.take i) s0) m.keys[j]) := Lib.hid (by rw [M.gath_take hil, hj, Int.toNat_natCast, List.getD_eq_getElem?_getD, List.getElem?_eq_getElem hjl]; rfl)
        rw [hj] at lx
        subst hla
        have hjd : j < d := by have := H.out.d1; omega
        have x9 := X8.out.below HI.out
        obtain ⟨c0, c1, c2⟩ := x9.cells
        have hbl9 := x9.lt
        have E2 := cell_grown hbl9 c2
        have E3 := cell_grown (a := ⟨lb, loff + i, none⟩) (show lb < wr.heap.size by omega) lx
        have E4 := cell_grown (a := ⟨ib, ioff + j, none⟩) (show ib < wr.heap.size by omega) kx
        clear hlc hic y0 y1 hj x9
        have mixed : Try.prog.follows .mixedOrders = true := by kernel_rfl
        have hil' : ((i : Nat) : Int) < ((L.length : Nat) : Int) := by omega
        go_wp2_with fail
        refine wp_region_quiet_grown (by assumption) (by kernel_rfl) ?_
        repeat (first | go_big_quiet_step (fail) | quiet_step (fail))
        refine wpQuiet_nil ?_
        intro _ hw'
        obtain ⟨⟨nq, osq⟩, hw''⟩ := hw'
        subst hw''
        go_wp2_with fail
        go_roundw
        case rel => exact ⟨i + 1, by omega, by go_num, by rw [hgt.out], HI.out.trans ((below_grown wr nq osq).mono hzi)⟩
        case measure => simp [intOf]; omega
      · obtain rfl : i = L.length := by omega
        rw [List.take_of_length_le (Nat.le_refl _), HNX.out]
        by_cases hkk : k = M.lastK m s
        · have hEQ : Hid (M.it m s (k + 1) = s0) := Lib.hid (by rw [HPC.out.2 hkk])
          have HF := Lib.hid (HFC.out hkk)
          rw [hEQ.out]
          clear hkk
          go_wp2_with fail
          go_ret2
          rw [← HF.out, HLL.out]
          exact ⟨_, _, rfl, ((HO.out.below HI.out (Nat.le_refl _)).mono (by omega) hzi), ho1, ho2, B8.out.trans (HI.out.mono B8.out.size)⟩
        · have hne : (M.it m s (k + 1) == s0) = false := by rw [beq_eq_false_iff_ne]; exact fun e => hkk (HPC.out.1 e)
          have hne2 : ¬ M.it m s (k + 1) = s0 := fun e => hkk (HPC.out.1 e)
          go_wp2_with fail
          go_roundw
          case rel => exact ⟨k + 1, by omega, rfl, X8.out.below HI.out, B8.out.trans (HI.out.mono B8.out.size)⟩
          case measure => simp [intOf]; omega
end C
end Go.Proofs.Ytddpjjdncmokmaa
namespace Go.Proofs.Ytddpjjdncmokmaa
open Go.RowKit
namespace C
def sliceL : Value → Nat
  | .slice _ n _ => n
  | _ => 0
set_option maxHeartbeats 3200000
set_option maxRecDepth 20000
theorem rounds_any (w : World) (lo hi : Nat) (m : M.Mz) (a b : Option Addr) (c d : Nat) (h : MzIn lo hi w m a c b d) (hz : hi ≤ w.heap.size) (V : M.Valid m) (s : Int) (h0 : 0 ≤ s) (h1 : s < 64) :
    Calls Try.prog 128 #[.agg #[.int .i64 m.size, .slice a m.doors.length c, .slice b m.keys.length d], .int .i64 s] w (IntsPost w (M.setsTo m s (M.lastK m s))) := by
  obtain ⟨ii0, hi0, hz0, hzz1, hz2⟩ := info_parts infoI
  have H := Lib.hid h
  have HVA := Lib.hid V
  have hkl := V.keysLen
  have v12 := V.size12
  have v1 := V.size1
  have hlk := M.lastK_le m s
  have HLI := Lib.hid (fun (k : Nat) (hk : k ≤ M.lastK m s) => M.last_iff V ⟨h0, h1⟩ hk)
  have HIT := Lib.hid (fun k => M.it_set V ⟨h0, h1⟩ k)
  clear h V
  go_enter Try.func128, Try.ntmps128
  go_wp2_with fail
  refine wp_named ?_
  intro W hW
  have hb : Below w.heap.size w W := by rw [hW]; exact (below_alloc _ _).alloc (by simp) _
  have x1 : Box3 W w.heap.size 27 (.int .i64 m.size) (.slice a m.doors.length c) (.slice b m.keys.length d) := by rw [hW]; exact (Box3.new _ _ _ _ rfl).alloc _
  have o1 : W.ownsRow w.heap.size 3 1 (.slice (some ⟨w.heap.size + 1, 0, none⟩) 1 1) 1 (M.encIs (M.setsTo m s 0)) := by
    rw [hW]
    have := ownsRow_one (w.alloc (.cells #[.int .i64 m.size, .slice a m.doors.length c, .slice b m.keys.length d] 27)) w.heap.size 3 (.int .i64 s) (by simp)
    rw [World.size_alloc] at this
    exact this
  clear hW
  have X1 := Lib.hid x1
  have O1 := Lib.hid o1
  have HB := Lib.hid hb
  clear x1 o1 hb
  go_loopw [5, 6, 7, 8, 9] (fun v5 _ _ _ _ wr => ∃ (k : Nat), k ≤ M.lastK m s ∧ wr.ownsRow w.heap.size 3 1 v5 (k + 1) (M.encIs (M.setsTo m s k)) ∧ Box3 wr w.heap.size 27 (.int .i64 m.size) (.slice a m.doors.length c) (.slice b m.keys.length d) ∧ Below w.heap.size w wr) (fun v5 _ _ _ _ _ => 70 - sliceL v5)
  case atStart => exact ⟨0, Nat.zero_le _, O1.out, X1.out, HB.out⟩
  case round =>
    obtain ⟨k, hk, hso, hx, hlow⟩ := hrel
    obtain ⟨la, lc, hv, hl1, hl2, hlr⟩ := own_slice hso
    subst hv
    have SO := Lib.hid hso
    obtain ⟨sb, soff, hsa, _, _, hsc⟩ := hlr.row.at_ (k := k) (by rw [M.encIs_len, M.setsTo_len]; omega)
    have sx : wr.cell? ⟨sb, soff + k, none⟩ = some (.int .i64 (M.it m s k)) := hsc _ _ (by unfold M.encIs; rw [List.getElem?_map, M.setsTo_at (by omega)]; rfl)
    subst hsa
    have X7 := Lib.hid hx
    have B7 := Lib.hid hlow
    have hzr := hlow.size
    have hbl := hx.lt
    obtain ⟨c0, c1, c2⟩ := hx.cells
    obtain ⟨i0, i1⟩ := HIT.out k
    obtain ⟨j0, j1⟩ := HIT.out (k + 1)
    have HPC := Lib.hid (HLI.out k hk)
    have HNX : Hid (M.gath m (M.reachOf m 0 (M.it m s k)) (M.it m s k) = M.it m s (k + 1)) := Lib.hid rfl
    clear hso hx hlow hlr hsc
    generalize hs0 : M.it m s k = s0 at *
    have HS0 := Lib.hid hs0
    clear hs0
    go_wp2_with fail
    refine (reach_any wr lo hi m a b c d (H.out.below B7.out hz) (by omega) HVA.out 0 s0 (Int.le_refl _) (by omega) i0 i1).mono ?_
    rintro e w1 ⟨ra, rc, rfl, ho, ho1, ho2, hb1⟩
    have SO8 := Lib.hid (own_below SO.out hb1)
    have HN := Lib.hid (fun y hy => M.reach_node HVA.out (s := s0) (y := y) hy)
    have hlen : (M.reachOf m 0 s0).length ≤ 12 := M.rchL_len _ _ _
    generalize hLL : M.reachOf m 0 s0 = L at *
    have HLL := Lib.hid hLL
    have HO := Lib.hid ho
    have X8 := Lib.hid (X7.out.below hb1)
    have B8 := Lib.hid (B7.out.trans (hb1.mono hzr))
    have hz1 := hb1.size
    clear hLL ho hb1 c0 c1 c2 sx
    go_wp2_with fail
    go_loopw [8, 9] (fun v7 v8 wr => ∃ (i : Nat), i ≤ L.length ∧ v8 = .int .i64 i ∧ v7 = .int .i64 (M.gath m (L.take i) s0) ∧ Below w1.heap.size w1 wr) (fun _ v8 _ => L.length - (intOf v8).toNat)
    case atStart => exact ⟨0, Nat.zero_le _, rfl, rfl, Below.refl _ _⟩
    case round =>
      obtain ⟨i, hi', rfl, rfl, hni⟩ := hrel
      have HI := Lib.hid hni
      have hzi := hni.size
      clear hni
      by_cases hil : i < L.length
      · obtain ⟨lb, loff, hla, hlb1, hlb2, hlc⟩ := (HO.out.below HI.out (Nat.le_refl _)).row.at_ (k := i) (by rw [M.encIs_len]; exact hil)
        have lx := hlc _ _ (M.encIs_at hil)
        obtain ⟨y0, y1⟩ := HN.out L[i] (List.getElem_mem hil)
        obtain ⟨j, hj⟩ : ∃ j : Nat, L[i] = (j : Int) := ⟨L[i].toNat, by omega⟩
        have hjl : j < m.keys.length := by omega
        obtain ⟨ib, ioff, hib, _, hib2, hic⟩ := H.out.keys.at_ (k := j) (by rw [M.encIs_len]; exact hjl)
        subst hib
        have kx : wr.cell? ⟨ib, ioff + j, none⟩ = some (.int .i64 m.keys[j]) := ((B8.out.trans (HI.out.mono B8.out.size)).cell (p := ⟨ib, ioff + j, none⟩) (show ib < w.heap.size by omega)).trans (hic _ _ (M.encIs_at hjl))
        have hgt : Hid (M.gath m (L.take (i + 1)) s0 = bits .or .i64 (M.gath m (L.take i) s0) m.keys[j]) := Lib.hid (by rw [M.gath_take hil, hj, Int.toNat_natCast, List.getD_eq_getElem?_getD, List.getElem?_eq_getElem hjl]; rfl)
        rw [hj] at lx
        subst hla
        have hjd : j < d := by have := H.out.d1; omega
        have x9 := X8.out.below HI.out
        obtain ⟨c0, c1, c2⟩ := x9.cells
        have hbl9 := x9.lt
        have E2 := cell_grown hbl9 c2
        have E3 := cell_grown (a := ⟨lb, loff + i, none⟩) (show lb < wr.heap.size by omega) lx
        have E4 := cell_grown (a := ⟨ib, ioff + j, none⟩) (show ib < wr.heap.size by omega) kx
        clear hlc hic y0 y1 hj x9
        have mixed : Try.prog.follows .mixedOrders = true := by kernel_rfl
        have hil' : ((i : Nat) : Int) < ((L.length : Nat) : Int) := by omega
        go_wp2_with fail
        refine wp_region_quiet_grown (by assumption) (by kernel_rfl) ?_
        repeat (first | go_big_quiet_step (fail) | quiet_step (fail))
        refine wpQuiet_nil ?_
        intro _ hw'
        obtain ⟨⟨nq, osq⟩, hw''⟩ := hw'
        subst hw''
        go_wp2_with fail
        go_roundw
        case rel => exact ⟨i + 1, by omega, by go_num, by rw [hgt.out], HI.out.trans ((below_grown wr nq osq).mono hzi)⟩
        case measure => simp [intOf]; omega
      · obtain rfl : i = L.length := by omega
        rw [List.take_of_length_le (Nat.le_refl _), HNX.out]
        have SO9 := Lib.hid (own_below SO8.out HI.out)
        have X9 := Lib.hid (X8.out.below HI.out)
        have B9 := Lib.hid (B8.out.trans (HI.out.mono B8.out.size))
        by_cases hkk : k = M.lastK m s
        · have hEQ : Hid (M.it m s (k + 1) = s0) := Lib.hid (by rw [HPC.out.2 hkk])
          have HK := Lib.hid hkk
          rw [hEQ.out]
          clear hkk
          go_wp2_with fail
          go_ret
          rw [← HK.out]
          have hfin := SO9.out
          have hsl := M.setsTo_len m s k
          rw [← hsl] at hfin ⊢
          exact ints_end hfin B9.out
        · have hne : (M.it m s (k + 1) == s0) = false := by rw [beq_eq_false_iff_ne]; exact fun e => hkk (HPC.out.1 e)
          have hne2 : ¬ M.it m s (k + 1) = s0 := fun e => hkk (HPC.out.1 e)
          have HK := Lib.hid hkk
          have HNE := Lib.hid (own_ne_box SO9.out X9.out (by decide))
          have HGS := Lib.hid (M.setsTo_succ m s k)
          clear hkk
          generalize M.it m s (k + 1) = s1 at *
          go_wp2_with (at_builtin; refine wpList_append_own _ rfl _ _ 23 rfl w.heap.size 3 ii0 (.int .i64 0) 1 8 Try.underlying23 hi0 hz0 hzz1 hz2 rfl (by decide) _ _ _ rfl (SO9.out.alloc _) ⟨wr.heap.size, 0, none⟩ 1 1 [.int .i64 s1] rfl rfl (cell_one_new _ _ _) (fun x hx => by simp at hx; subst hx; rfl) (by unfold maxLen; omega) (by omega) (by simp; omega) ?_; intro v' w3 hown' hgrow3 hnil3)
          obtain ⟨va, vc, hva, _, _, _⟩ := own_slice hown'
          subst hva
          refine ⟨⟨k + 1, by have := HK.out; omega, ?_, (X9.out.alloc _).grown hgrow3 HNE.out, (B9.out.alloc (by have := B9.out.size; omega) _).grown hgrow3 (by have := B9.out.size; simp; omega) (own_base SO9.out)⟩, by simp [sliceL]; omega⟩
          rw [HGS.out, M.encIs_append]
          exact hown'
end C
end Go.Proofs.Ytddpjjdncmokmaa
namespace Go.Proofs.Ytddpjjdncmokmaa
open Go.RowKit
namespace C
set_option maxHeartbeats 3200000
set_option maxRecDepth 20000
theorem made_zero (n : Nat) : (madeCells (Value.int .i64 0).cells (n * 1)).toList = M.encIs (List.replicate n 0) := by
  refine List.ext_getElem? fun k => ?_
  unfold madeCells M.encIs
  rcases Nat.lt_or_ge k n with h | h
  · simp [h, Value.cells, Nat.mod_one]
  · simp [h]
theorem make_run {i : TypeInfo} (hi : Try.prog.info? 3 = some i) (hz : i.zero = some (.int .i64 0)) (hs : i.size = 1) (hb : i.bytes = 8) {x : Int} {n : Nat} (hx : x = (n : Int)) (hn : n ≤ 1000) : ∃ zs : Array Value, zs.size = n ∧ zs.toList = M.encIs (List.replicate n 0) ∧ ∀ w : World,
    (Instr.makeSlice 23 (.int .i64 x) (.int .i64 x)).run Try.prog w = .ok (.slice (some ⟨w.heap.size, 0, none⟩) n n) (w.alloc (.cells zs 3)) := by
  subst hx
  refine ⟨madeCells (Value.int .i64 0).cells (n * 1), by rw [size_madeCells]; omega, made_zero n, fun w => ?_⟩
  have := run_make (P := Try.prog) w 23 3 i (.int .i64 0) Try.underlying23 hi hz .i64 .i64 n n (by omega) (Int.le_refl _) (by rw [hb]; omega) (by omega)
  rw [Int.toNat_natCast, hs] at this
  exact this
theorem own_made {w : World} {B n : Nat} {zs : Array Value} (hs : zs.size = n) (hn : n ≤ 1000) (hB : B ≤ w.heap.size) : (w.alloc (.cells zs 3)).ownsRow B 3 1 (.slice (some ⟨w.heap.size, 0, none⟩) n n) n zs.toList :=
  ⟨by simp [hs], .inr ⟨w.heap.size, n, zs, rfl, hB, heap_alloc_new w _, Nat.le_refl _, by unfold maxLen; omega, by simp [hs], by rw [List.take_of_length_le (by simp [hs])]⟩⟩
/-- a row at its block's head lies in that block -/
theorem OwnAt.of_own0 {w : World} {base size n c g : Nat} {T : TypeId} {xs : List Value} (h : w.ownsRow base T size (.slice (some ⟨g, 0, none⟩) n c) n xs) : OwnAt g (g + 1) w T (some ⟨g, 0, none⟩) xs := by
  rcases OwnAt.of_own h with h | ⟨b, off, cur, ha, _, _, hh, hc⟩
  · exact .inl h
  · injection ha with ha
    injection ha with e1 e2 _
    subst e1; subst e2
    exact .inr ⟨g, 0, cur, rfl, Nat.le_refl _, Nat.lt_succ_self _, hh, hc⟩
theorem entered_any (w : World) (lo hi : Nat) (m : M.Mz) (a b : Option Addr) (c d : Nat) (h : MzIn lo hi w m a c b d) (hz : hi ≤ w.heap.size) (V : M.Valid m) (s : Int) (h0 : 0 ≤ s) (h1 : s < 64) :
    Calls Try.prog 105 #[.agg #[.int .i64 m.size, .slice a m.doors.length c, .slice b m.keys.length d], .int .i64 s] w (IntsPost w (M.nodeRounds m s (M.lastK m s + 1))) := by
  obtain ⟨ii0, hi0, hz0, hzz1, hz2⟩ := info_parts infoI
  have H := Lib.hid h
  have HVA := Lib.hid V
  have hkl := V.keysLen
  have v12 := V.size12
  have v1 := V.size1
  have hlk := M.lastK_le m s
  have HIT := Lib.hid (fun k => M.it_set V ⟨h0, h1⟩ k)
  clear h V
  obtain ⟨n, hn⟩ : ∃ n : Nat, m.size = (n : Int) := ⟨m.size.toNat, by omega⟩
  have hn12 : n ≤ 12 := by omega
  have HNS := Lib.hid hn
  clear hn
  go_enter Try.func105, Try.ntmps105
  go_upto_region 1 with fail
  refine wp_named ?_
  intro W hW
  have hb : Below w.heap.size w W := by rw [hW]; exact below_alloc _ _
  have x1 : Box3 W w.heap.size 27 (.int .i64 m.size) (.slice a m.doors.length c) (.slice b m.keys.length d) := by rw [hW]; exact Box3.new _ _ _ _ rfl
  clear hW
  have hzw := hb.size
  have HB := Lib.hid hb
  have X1 := Lib.hid x1
  have HRO := Lib.hid (fun W' (hq : Below W.heap.size W W') => rounds_any W' lo hi m a b c d (H.out.below (HB.out.trans (hq.mono (by omega))) hz) (by have := hq.size; omega) HVA.out s h0 h1)
  obtain ⟨d0, d1, d2⟩ := x1.cells
  obtain ⟨zs, hzs1, hzs2, hmr⟩ := make_run hi0 hz0 hzz1 hz2 HNS.out (by omega)
  clear hb x1
  go_cut [5, 6] (fun s5 s6 wx => ∃ g lo2 hi2 ra rc, s5 = .slice (some ⟨g, 0, none⟩) n n ∧ s6 = .slice ra (M.lastK m s + 1) rc ∧ OwnAt g (g + 1) wx 3 (some ⟨g, 0, none⟩) (M.encIs (M.nodeRounds m s 0)) ∧ OwnAt lo2 hi2 wx 3 ra (M.encIs (M.setsTo m s (M.lastK m s))) ∧ (g < lo2 ∨ hi2 ≤ g) ∧ hi2 ≤ wx.heap.size ∧ g < wx.heap.size ∧ W.heap.size ≤ g ∧ W.heap.size ≤ lo2 ∧ M.lastK m s + 1 ≤ rc ∧ rc ≤ 9223372036854775807 ∧ Below W.heap.size W wx)
  case first =>
    go_region_held3 (fun wq => wq.cell? ⟨w.heap.size, 0, none⟩ = some (.int .i64 m.size) ∧ wq.cell? ⟨w.heap.size, 1, none⟩ = some (.slice a m.doors.length c) ∧ wq.cell? ⟨w.heap.size, 2, none⟩ = some (.slice b m.keys.length d)) (first | exact ⟨d0, d1, d2⟩ | go_keep) (first
      | (go_at_call 128; refine (HRO.out W.drew (Below.refl W.heap.size W).drew).mono ?_; rintro e w5 ⟨ra, rc, rfl, ho, ho1, ho2, hb5⟩; have hb5' : Below W.heap.size W w5 := (Below.refl W.heap.size W).drew.trans hb5; obtain ⟨d0, d1, d2⟩ := (X1.out.below hb5').cells; have hz5 := hb5'.size)
      | (go_at_call 128; refine (HRO.out (W.drew.alloc (.cells zs 3)) ((Below.refl W.heap.size W).drew.alloc (Nat.le_refl _) _)).mono ?_; rintro e w5 ⟨ra, rc, rfl, ho, ho1, ho2, hb5⟩; have hb5' : Below W.heap.size W w5 := ((Below.refl W.heap.size W).drew.alloc (Nat.le_refl _) _).trans (hb5.mono (by simp)); obtain ⟨d0, d1, d2⟩ := (X1.out.below hb5').cells; have hz5 := hb5'.size))
    all_goals
      go_wp2_with fail
      go_meet
      rw [M.setsTo_len] at ho1
      have hnr : M.encIs (M.nodeRounds m s 0) = zs.toList := by rw [hzs2, M.nodeRounds0 HNS.out]
      rw [hnr]
      first
        | exact ⟨W.heap.size, W.heap.size + 1, w5.heap.size, ra, rc, rfl, by rw [M.setsTo_len], ((OwnAt.of_own0 (own_made (w := W.drew) (B := 0) hzs1 (by omega) (Nat.zero_le _))).mono (Nat.le_refl _) (by simp)).below hb5 (by simp), ho.mono (by simp) (Nat.le_refl _), .inl (Nat.lt_succ_self _), Nat.le_refl _, by have := hb5.size; simp at this; omega, Nat.le_refl _, Nat.le_succ _, ho1, ho2, hb5'⟩
        | exact ⟨w5.heap.size, W.heap.size, w5.heap.size, ra, rc, rfl, by rw [M.setsTo_len], (OwnAt.of_own0 (own_made (w := w5) (B := 0) hzs1 (by omega) (Nat.zero_le _))).mono (Nat.le_refl _) (Nat.le_refl _), ((ho.mono (by simp) (Nat.le_refl _)).below (below_alloc _ _) (Nat.le_refl _)), .inr (Nat.le_refl _), by simp, by simp, hz5, Nat.le_refl _, ho1, ho2, hb5'.alloc hz5 _⟩
  case rest =>
    obtain ⟨g, lo2, hi2, ra, rc, rfl, rfl, hout, hset, hdis, hhi, hgl, hgW, hlW, hrc1, hrc2, hbc⟩ := hcut
    have X2 := Lib.hid (X1.out.below hbc)
    have HBC := Lib.hid hbc
    have hwc := hbc.size
    have OUT := Lib.hid hout
    have SET := Lib.hid hset
    have hwl := X1.out.lt
    clear hbc hout hset d0 d1 d2 hmr hzs2
    go_wp2_with fail
    go_loopw [7, 8, 9] (fun v7 _ _ wr => ∃ (r : Nat), r ≤ M.lastK m s + 1 ∧ v7 = .int .i64 r ∧ OwnAt g (g + 1) wr 3 (some ⟨g, 0, none⟩) (M.encIs (M.nodeRounds m s r)) ∧ OwnAt lo2 hi2 wr 3 ra (M.encIs (M.setsTo m s (M.lastK m s))) ∧ Box3 wr w.heap.size 27 (.int .i64 m.size) (.slice a m.doors.length c) (.slice b m.keys.length d) ∧ Below W.heap.size W wr ∧ wc.heap.size ≤ wr.heap.size) (fun v7 _ _ _ => M.lastK m s + 1 - (intOf v7).toNat)
    case atStart => exact ⟨0, Nat.zero_le _, rfl, OUT.out, SET.out, X2.out, HBC.out, Nat.le_refl _⟩
    case round =>
      obtain ⟨r, hr, rfl, ho3, hs3, hx3, hb3, hsz3⟩ := hrel
      have O3 := Lib.hid ho3
      have S3 := Lib.hid hs3
      have X3 := Lib.hid hx3
      have B3 := Lib.hid hb3
      clear ho3 hs3 hx3 hb3
      by_cases hrl : r < M.lastK m s + 1
      · obtain ⟨sb, soff, hsa, hsb1, hsb2, hsc⟩ := S3.out.row.at_ (k := r) (by rw [M.encIs_len, M.setsTo_len]; exact hrl)
        have sx : wr.cell? ⟨sb, soff + r, none⟩ = some (.int .i64 (M.it m s r)) := hsc _ _ (by unfold M.encIs; rw [List.getElem?_map, M.setsTo_at hrl]; rfl)
        subst hsa
        obtain ⟨c0, c1, c2⟩ := X3.out.cells
        obtain ⟨i0, i1⟩ := HIT.out r
        have hmA := M.midR_all m s r
        have HMA := Lib.hid hmA
        have HMN := Lib.hid (M.midR_nil m s r)
        have hsb3 : sb < wr.heap.size := by omega
        clear hsc hmA
        generalize hs0 : M.it m s r = s0 at *
        have HRE := Lib.hid (fun W' (hq : Below wr.heap.size wr W') => reach_any W' lo hi m a b c d (H.out.below (HB.out.trans ((B3.out.trans (hq.mono (by omega))).mono hzw)) hz) (by have := hq.size; omega) HVA.out 0 s0 (Int.le_refl _) (by omega) i0 i1)
        have HN := Lib.hid (fun y hy => M.reach_node HVA.out (s := s0) (y := y) hy)
        have hlen : (M.reachOf m 0 s0).length ≤ 12 := M.rchL_len _ _ _
        generalize M.reachOf m 0 s0 = L at *
        clear hs0
        go_wp2_with fail
        go_cut [8] (fun s8 wx => ∃ qa qc, s8 = .slice qa L.length qc ∧ OwnAt wr.heap.size wx.heap.size wx 3 qa (M.encIs L) ∧ L.length ≤ qc ∧ qc ≤ 9223372036854775807 ∧ Below wr.heap.size wr wx)
        case first =>
          go_region_held3 (fun wq => wq.cell? ⟨w.heap.size, 0, none⟩ = some (.int .i64 m.size) ∧ wq.cell? ⟨w.heap.size, 1, none⟩ = some (.slice a m.doors.length c) ∧ wq.cell? ⟨w.heap.size, 2, none⟩ = some (.slice b m.keys.length d) ∧ wq.cell? ⟨sb, soff + r, none⟩ = some (.int .i64 s0)) (first | exact ⟨c0, c1, c2, sx⟩ | go_keep) (first
            | (go_at_call 129; refine (HRE.out wr.drew (Below.refl wr.heap.size wr).drew).mono ?_; rintro e w5 ⟨qa, qc, rfl, hq, hq1, hq2, hb5⟩; have hb5' : Below wr.heap.size wr w5 := (Below.refl wr.heap.size wr).drew.trans hb5; obtain ⟨c0, c1, c2⟩ := (X3.out.below hb5').cells; have sx := (hb5'.cell (p := ⟨sb, soff + r, none⟩) hsb3).trans sx))
          all_goals
            go_wp2_with fail
            go_meet
            exact ⟨qa, qc, rfl, hq, hq1, hq2, hb5'⟩
        case rest =>
          obtain ⟨qa, qc, rfl, hq, hq1, hq2, hb4⟩ := hcut
          have hz4 := hb4.size
          have Q4 := Lib.hid hq
          have O4 := Lib.hid (show OwnAt g (g + 1) wc 3 (some ⟨g, 0, none⟩) (M.encIs (M.midR m s r (L.take 0))) from by rw [List.take_zero, HMN.out]; exact O3.out.below hb4 (by omega))
          have S4 := Lib.hid (S3.out.below hb4 (by omega))
          have X4 := Lib.hid (X3.out.below hb4)
          have B4 := Lib.hid (B3.out.trans (hb4.mono B3.out.size))
          clear hq hb4 c0 c1 c2 sx
          have hmn : m.size.toNat = n := by rw [HNS.out]; rfl
          go_wp2_with fail
          go_loopw [9] (fun v9 wx => ∃ (i : Nat), i ≤ L.length ∧ v9 = .int .i64 i ∧ OwnAt g (g + 1) wx 3 (some ⟨g, 0, none⟩) (M.encIs (M.midR m s r (L.take i))) ∧ Turned g (g + 1) wc wx) (fun v9 _ => L.length - (intOf v9).toNat)
          case atStart => exact ⟨0, Nat.zero_le _, rfl, O4.out, Turned.refl _ _ _⟩
          case round =>
            obtain ⟨i, hi', rfl, hox, htx⟩ := hrel
            have OX := Lib.hid hox
            have TX := Lib.hid htx
            have htz := htx.size
            clear hox htx
            by_cases hil : i < L.length
            · obtain ⟨lb, loff, hla, hlb1, hlb2, hlc⟩ := (Q4.out.turned TX.out (Nat.le_refl _) (.inr (by omega))).row.at_ (k := i) (by rw [M.encIs_len]; exact hil)
              have lx := hlc _ _ (M.encIs_at hil)
              obtain ⟨y0, y1⟩ := HN.out L[i] (List.getElem_mem hil)
              obtain ⟨j, hj⟩ : ∃ j : Nat, L[i] = (j : Int) := ⟨L[i].toNat, by omega⟩
              have hjn : j < n := by have := HNS.out; omega
              have hjs : j < m.size.toNat := by omega
              have HJ := Lib.hid hj
              rw [hj] at lx
              subst hla
              obtain ⟨u, hu, ox, fx⟩ := OX.out.cell0 (k := j) (by rw [M.encIs_len, M.midR_len]; exact hjs)
              have hue : u = .int .i64 (M.vR m s r (L.take i) j) := by
                unfold M.encIs at hu
                rw [List.getElem?_map, M.midR_at hjs] at hu
                injection hu with hu
                exact hu.symm
              subst hue
              clear hlc y0 y1 hj hu
              by_cases hv : M.vR m s r (L.take i) j = 0
              · have hst := OX.out.set0 j (.int .i64 ((r : Int) + 1))
                rw [← encIs_set, show ((r : Int) + 1) = ((r + 1 : Nat) : Int) by omega, ← M.mid_yes hil HJ.out hjs hv] at hst
                rw [show ((r + 1 : Nat) : Int) = (r : Int) + 1 by omega] at hst
                have HST := Lib.hid hst
                rw [hv] at ox
                clear hst hv
                go_wp2_with fail
                go_roundw
                case rel => exact ⟨i + 1, by omega, by go_num, HST.out, TX.out.trans (Turned.setCell _ _ _ _ (Nat.le_refl _) (Nat.lt_succ_self _))⟩
                case measure => simp [intOf]; omega
              · have HM := Lib.hid (M.mid_no hil HJ.out hv)
                have hvb : (M.vR m s r (L.take i) j == 0) = false := by rw [beq_eq_false_iff_ne]; exact hv
                generalize M.vR m s r (L.take i) j = vv at *
                go_wp2_with fail
                go_roundw
                case rel => exact ⟨i + 1, by omega, by go_num, by rw [HM.out]; exact OX.out, TX.out⟩
                case measure => simp [intOf]; omega
            · obtain rfl : i = L.length := by omega
              go_wp2_with fail
              go_roundw
              case rel =>
                refine ⟨r + 1, by omega, by go_num, ?_, S4.out.turned TX.out (by omega) (by omega), X4.out.turned TX.out (.inl (by omega)), Below.thenTurned B4.out TX.out (by omega) B4.out.size, by omega⟩
                rw [← HMA.out]
                have := OX.out
                rw [List.take_of_length_le (Nat.le_refl _)] at this
                exact this
              case measure => simp [intOf]; omega
      · obtain rfl : r = M.lastK m s + 1 := by omega
        have hln := M.nodeRounds_len m s (M.lastK m s + 1)
        have hmn : m.size.toNat = n := by rw [HNS.out]; rfl
        rw [hmn] at hln
        have HL := Lib.hid hln
        clear hln hmn
        go_wp2_with fail
        go_ret
        exact ⟨_, _, by rw [HL.out]; rfl, O3.out.mono (by omega) (by omega), by rw [HL.out]; exact Nat.le_refl _, by omega, HB.out.trans (B3.out.mono hzw)⟩
end C
end Go.Proofs.Ytddpjjdncmokmaa
namespace Go.Proofs.Ytddpjjdncmokmaa
open Go.RowKit
namespace C
set_option maxHeartbeats 1600000
set_option maxRecDepth 20000
def BoolsPost (w : World) (r ok : Bool) (e : Ending) (w' : World) : Prop := e = .returned (.tuple #[.bool r, .bool ok]) ∧ Below w.heap.size w w'
def GainPost (w : World) (s : Int) (l : List Int) (ok : Bool) (e : Ending) (w' : World) : Prop :=
  ∃ a c, e = .returned (.tuple #[.int .i64 s, .slice a l.length c, .bool ok]) ∧ OwnAt w.heap.size w'.heap.size w' 3 a (M.encIs l) ∧ l.length ≤ c ∧ c ≤ 9223372036854775807 ∧ Below w.heap.size w w'
theorem wins_any (w : World) (lo hi : Nat) (m : M.Mz) (a b : Option Addr) (c d : Nat) (h : MzIn lo hi w m a c b d) (hz : hi ≤ w.heap.size) (V : M.Valid m) (s : Int) (h0 : 0 ≤ s) (h1 : s < 64) :
    Calls Try.prog 111 #[.agg #[.int .i64 m.size, .slice a m.doors.length c, .slice b m.keys.length d], .int .i64 s] w (BoolPost w (M.canB m s)) := by
  have H := Lib.hid h
  have HVA := Lib.hid V
  have v1 := V.size1
  have v12 := V.size12
  clear h V
  go_enter Try.func111, Try.ntmps111
  go_wp2_with fail
  refine named ?_
  intro W hW
  have hb : Below w.heap.size w W := by rw [hW]; exact below_alloc _ _
  have x1 : Box3 W w.heap.size 27 (.int .i64 m.size) (.slice a m.doors.length c) (.slice b m.keys.length d) := by rw [hW]; exact Box3.new _ _ _ _ rfl
  clear hW
  have hzw := hb.size
  refine (close_any W lo hi m a b c d (H.out.below hb hz) (by omega) HVA.out s h0 h1).mono ?_
  rintro e w1 ⟨ra, rc, rfl, ho, ho1, ho2, hb1⟩
  have X1 := Lib.hid (x1.below hb1)
  have HB1 := Lib.hid (hb.trans (hb1.mono hzw))
  have HO := Lib.hid ho
  have hl := M.rchL_len m.doors (M.openTo (M.finC m s)) 0
  have hlen : (M.reachOf m 0 (M.finC m s)).length ≤ 1048576 := by unfold M.reachOf; omega
  obtain ⟨c0, c1, c2⟩ := X1.out.cells
  have HCB : Hid (M.memB (M.reachOf m 0 (M.finC m s)) (m.size - 1) = M.canB m s) := Lib.hid rfl
  clear hb hb1 x1 ho hl
  generalize M.reachOf m 0 (M.finC m s) = L at *
  go_wp2_with fail
  refine (l1Has_any w1 _ _ ra rc L (m.size - 1) HO.out.row hlen).mono ?_
  rintro e w2 ⟨rfl, rfl⟩
  go_wp2_with fail
  go_ret
  exact ⟨by rw [← HCB.out]; rfl, HB1.out⟩
end C
end Go.Proofs.Ytddpjjdncmokmaa
namespace Go.Proofs.Ytddpjjdncmokmaa
open Go.RowKit
namespace M
def encBs (l : List Bool) : List Value := l.map Value.bool
theorem encBs_len (l : List Bool) : (encBs l).length = l.length := by simp [encBs]
theorem encBs_append (a b : List Bool) : encBs (a ++ b) = encBs a ++ encBs b := by simp [encBs]
/-- of each set below k whether it is of a kind -/
def boolsTo (P : St6 → Bool) (k : Nat) : List Bool := (selTo.allN.take k).map P
theorem boolsTo_zero (P : St6 → Bool) : boolsTo P 0 = [] := by unfold boolsTo; simp
theorem allN_len : selTo.allN.length = 64 := by unfold selTo.allN; rw [List.length_finRange]
theorem boolsTo_succ (P : St6 → Bool) {k : Nat} (h : k < 64) : boolsTo P (k + 1) = boolsTo P k ++ [P ⟨k, h⟩] := by
  unfold boolsTo
  rw [List.take_succ_eq_append_getElem (by rw [allN_len]; exact h), List.map_append, selTo_at h]
  rfl
theorem boolsTo_len (P : St6 → Bool) {k : Nat} (h : k ≤ 64) : (boolsTo P k).length = k := by unfold boolsTo; rw [List.length_map, List.length_take, allN_len]; omega
def boolsF (P : St6 → Bool) : List Bool := boolsTo P 64
theorem boolsF_len (P : St6 → Bool) : (boolsF P).length = 64 := boolsTo_len P (Nat.le_refl _)
theorem boolsF_at (P : St6 → Bool) (s : St6) : (encBs (boolsF P))[s.val]? = some (.bool (P s)) := by
  unfold boolsF boolsTo encBs
  rw [List.take_of_length_le (by rw [allN_len]; exact Nat.le_refl _), List.getElem?_map, List.getElem?_map, List.getElem?_eq_getElem (by rw [allN_len]; exact s.isLt), selTo_at s.isLt]
  rfl
end M
namespace C
theorem infoB : (Try.prog.info? 4).map (fun i => (i.zero, i.size, i.bytes)) = some (some (.bool false), 1, 1) := by kernel_rfl
/-- a list of bools handed back in memory of the call's own -/
def BlsPost (w : World) (l : List Bool) (e : Ending) (w' : World) : Prop :=
  ∃ a c, e = .returned (.slice a l.length c) ∧ OwnAt w.heap.size w'.heap.size w' 4 a (M.encBs l) ∧ l.length ≤ c ∧ c ≤ 9223372036854775807 ∧ Below w.heap.size w w'
theorem bls_end {w w' : World} {l : List Bool} {v : Value} (h : w'.ownsRow w.heap.size 4 1 v l.length (M.encBs l)) (hb : Below w.heap.size w w') : BlsPost w l (.returned v) w' := by
  obtain ⟨a, c, rfl, h1, h2, h3⟩ := own_slice h
  exact ⟨a, c, rfl, h3, h1, h2, hb⟩
structure KSt (w1 : World) (B0 : Nat) (m : M.Mz) (a b : Option Addr) (c d L bg : Nat) (ca cb : Option Addr) (cc cd : Nat) (wr : World) (ks : List Int) : Prop where
  box : Box3 wr B0 27 (.int .i64 m.size) (.slice a m.doors.length c) (.slice b m.keys.length d)
  out : Box3 wr bg 27 (.int .i64 m.size) (.slice ca m.doors.length cc) (.slice cb m.keys.length cd)
  own : MzOwn L bg wr ⟨m.size, m.doors, ks⟩ ca cc cb cd
  low : Below w1.heap.size w1 wr
theorem KSt.later {w1 : World} {B0 : Nat} {m : M.Mz} {a b : Option Addr} {c d L bg : Nat} {ca cb : Option Addr} {cc cd : Nat} {wr wr' : World} {ks : List Int} (h : KSt w1 B0 m a b c d L bg ca cb cc cd wr ks) (hb : Below wr.heap.size wr wr') : KSt w1 B0 m a b c d L bg ca cb cc cd wr' ks :=
  ⟨h.box.below hb, h.out.below hb, h.own.below hb (Nat.le_of_lt h.out.lt), h.low.trans (hb.mono h.low.size)⟩
theorem KSt.set {w1 : World} {B0 : Nat} {m : M.Mz} {a b : Option Addr} {c d L bg : Nat} {ca : Option Addr} {cc cd g off : Nat} {wr : World} {ks : List Int} (h : KSt w1 B0 m a b c d L bg ca (some ⟨g, off, none⟩) cc cd wr ks) (hL : B0 < L) (hL2 : w1.heap.size ≤ L) (hg1 : L ≤ g) (hg2 : g < bg) {k : Nat} (hk : k < ks.length) (v : Int) :
    KSt w1 B0 m a b c d L bg ca (some ⟨g, off, none⟩) cc cd (wr.setCell ⟨g, off + k, none⟩ (.int .i64 v)) (ks.set k v) :=
  have t := Turned.setCell (lo := L) (hi := bg) wr g (off + k) (.int .i64 v) hg1 hg2
  ⟨h.box.turned t (.inl (by omega)), h.out.turned t (.inr (Nat.le_refl _)), h.own.setKey rfl k hk v, h.low.setCell (p := ⟨g, off + k, none⟩) (by show w1.heap.size ≤ g; omega) _⟩
set_option maxHeartbeats 3200000
set_option maxRecDepth 20000
end C
end Go.Proofs.Ytddpjjdncmokmaa
namespace Go.Proofs.Ytddpjjdncmokmaa
open Go.RowKit
namespace M
def lowC (n : St6) (j : Nat) : Nat := (List.range j).countP fun c => n.val.testBit c
theorem lowC_step : ∀ n : St6, ∀ j : Fin 6, bits .and .i64 ((n.val / 2 ^ j.val : Nat) : Int) 1 = ((lowC n (j.val + 1) : Nat) : Int) - ((lowC n j.val : Nat) : Int) ∧ ((n.val / 2 ^ j.val : Nat) : Int) / 2 = ((n.val / 2 ^ (j.val + 1) : Nat) : Int) := by decide +kernel
theorem lowC_end : ∀ n : St6, ∀ j : Fin 7, n.val / 2 ^ j.val = 0 → lowC n j.val = cnt n := by decide +kernel
theorem lowC_le (n : St6) (j : Nat) : lowC n j ≤ j := by
  unfold lowC
  have := List.countP_le_length (p := fun c => n.val.testBit c) (l := List.range j)
  rwa [List.length_range] at this
theorem cnt_le (n : St6) : cnt n ≤ 6 := lowC_le n 6
/-- the sets with fewer than n colours, by their number of colours -/
def layersTo (n : Nat) : List St6 := (List.range n).flatMap fun i => selF fun a => cnt a == i
theorem layersTo_succ (n : Nat) : layersTo (n + 1) = layersTo n ++ selF fun a => cnt a == n := by unfold layersTo; rw [List.range_succ, List.flatMap_append]; simp
theorem layers_all : layersTo 7 = allS := by decide +kernel
theorem allS_len : allS.length = 64 := by decide +kernel
theorem leastB_bit (P : St6 → Bool) (a : St6) (c : Nat) : (List.range (c + 1)).all (fun c => !(a.val.testBit c && P (bit6 c a))) = ((List.range c).all (fun c => !(a.val.testBit c && P (bit6 c a))) && !(a.val.testBit c && P (bit6 c a))) := by
  rw [List.range_succ, List.all_append]; simp
def leastTo (P : St6 → Bool) (a : St6) (c : Nat) : Bool := P a && (List.range c).all fun c => !(a.val.testBit c && P (bit6 c a))
theorem leastTo_zero (P : St6 → Bool) (a : St6) : leastTo P a 0 = P a := by unfold leastTo; simp
theorem leastTo_no {P : St6 → Bool} {a : St6} {c : Nat} (h : (a.val.testBit c && P (bit6 c a)) = false) : leastTo P a (c + 1) = leastTo P a c := by
  unfold leastTo; rw [leastB_bit, h, Bool.not_false, Bool.and_true]
theorem leastTo_yes {P : St6 → Bool} {a : St6} {c : Nat} (h : (a.val.testBit c && P (bit6 c a)) = true) : leastTo P a (c + 1) = false := by
  unfold leastTo; rw [leastB_bit, h, Bool.not_true, Bool.and_false, Bool.and_false]
theorem leastTo_all (P : St6 → Bool) (a : St6) : leastTo P a 6 = leastB P a := rfl
theorem bit6_fin : ∀ a : St6, ∀ c : Fin 6, bits .xor .i64 (a.val : Int) (wrap64 (2 ^ c.val)) = ((bit6 c.val a).val : Int) ∧ IntKind.i64.wrap (2 ^ c.val) = wrap64 (2 ^ c.val) ∧ (bits .and .i64 ((a.val : Int) / 2 ^ c.val) 1 == 1) = a.val.testBit c.val := by decide +kernel
/-- what is kept of the first k sets in order -/
def leastUp (P : St6 → Bool) (k : Nat) : List St6 := (allS.take k).filter (leastB P)
theorem leastUp_yes {P : St6 → Bool} {k : Nat} (h : k < allS.length) (hp : leastB P allS[k] = true) : leastUp P (k + 1) = leastUp P k ++ [allS[k]] := by
  unfold leastUp
  rw [List.take_succ_eq_append_getElem h, List.filter_append, List.filter_cons_of_pos hp]
  rfl
theorem leastUp_no {P : St6 → Bool} {k : Nat} (h : k < allS.length) (hp : leastB P allS[k] = false) : leastUp P (k + 1) = leastUp P k := by
  unfold leastUp
  rw [List.take_succ_eq_append_getElem h, List.filter_append, List.filter_cons_of_neg (by rw [hp]; decide), List.filter_nil, List.append_nil]
theorem leastUp_len (P : St6 → Bool) (k : Nat) : (leastUp P k).length ≤ k := by
  unfold leastUp
  have := List.length_filter_le (leastB P) (allS.take k)
  rw [List.length_take] at this
  omega
theorem leastUp_all (P : St6 → Bool) : leastUp P 64 = leastF P := by unfold leastUp leastF; rw [List.take_of_length_le (by rw [allS_len]; exact Nat.le_refl _)]
end M
namespace C
set_option maxHeartbeats 3200000
set_option maxRecDepth 20000
theorem l2Many_any (n : M.St6) (w : World) : Calls Try.prog 99 #[.int .i64 (n.val : Int)] w fun e w' => e = .returned (.int .i64 (M.cnt n : Nat)) ∧ w = w' := by
  have HS := Lib.hid (fun (j : Nat) (hj : j < 6) => M.lowC_step n ⟨j, hj⟩)
  have HE := Lib.hid (fun (j : Nat) (hj : j < 7) => M.lowC_end n ⟨j, hj⟩)
  have h6 : Hid (n.val / 2 ^ 6 = 0) := Lib.hid (Nat.div_eq_of_lt n.isLt)
  have h1 : Hid (n.val / 2 ^ 0 = n.val) := Lib.hid (by simp)
  have HL := Lib.hid (M.lowC_le n)
  go_enter Try.func99, Try.ntmps99
  go_wp2_with fail
  go_loop [0, 3] (fun v0 v3 => ∃ (j : Nat), j ≤ 6 ∧ v0 = .int .i64 ((n.val / 2 ^ j : Nat) : Int) ∧ v3 = .int .i64 ((M.lowC n j : Nat) : Int)) (fun v0 _ => (intOf v0).toNat)
  case atStart => exact ⟨0, Nat.zero_le _, by rw [h1.out], rfl⟩
  case round =>
    obtain ⟨j, hj, rfl, rfl⟩ := hrel
    by_cases hp : 0 < n.val / 2 ^ j
    · have hj6 : j < 6 := by
        rcases Nat.lt_or_ge j 6 with h | h
        · exact h
        · obtain rfl : j = 6 := by omega
          rw [h6.out] at hp; omega
      obtain ⟨e1, e2⟩ := HS.out j hj6
      have hll := HL.out j
      have hll2 := HL.out (j + 1)
      have hlt : n.val / 2 ^ (j + 1) < n.val / 2 ^ j := by
        rw [Nat.pow_succ, ← Nat.div_div_eq_div_mul]; exact Nat.div_lt_self hp (by decide)
      generalize n.val / 2 ^ j = q at *
      generalize hq2 : n.val / 2 ^ (j + 1) = q2 at *
      generalize hc2 : M.lowC n (j + 1) = c2 at *
      generalize M.lowC n j = cc at *
      have HQ2 := Lib.hid hq2
      have HC2 := Lib.hid hc2
      clear hq2 hc2
      have hadd : (cc : Int) + ((c2 : Int) - (cc : Int)) = (c2 : Int) := by omega
      have hpi : (0 : Int) < (q : Int) := by omega
      go_wp2_with fail
      go_round
      case rel => exact ⟨j + 1, by omega, by rw [HQ2.out], by rw [HC2.out]⟩
      case measure => simp [intOf]; omega
    · have hz : n.val / 2 ^ j = 0 := Nat.eq_zero_of_not_pos hp
      have HZ := Lib.hid (HE.out j (by omega) hz)
      have hpi : ¬ (0 : Int) < ((n.val / 2 ^ j : Nat) : Int) := by omega
      rw [HZ.out]
      clear hz hp
      generalize n.val / 2 ^ j = q at *
      go_wp2_with fail
      go_ret
      exact ⟨rfl, rfl⟩
end C
end Go.Proofs.Ytddpjjdncmokmaa
