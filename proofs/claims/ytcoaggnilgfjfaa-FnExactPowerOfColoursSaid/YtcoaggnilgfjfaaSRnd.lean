/-
  CONTRACT of spec.l2Close: the colours that one has at last, and the nodes that are entered with them, in a new list; what lay in memory stays. Condition: a valid maze, a set of colours.
  CONTRACT of spec.l3Rounds: the sets that one has at first and behind each round that brings a colour, in a new list; what lay in memory stays. Condition: a valid maze, a set of colours.
  CONTRACT of spec.l3Entered: for each node the round in which it is entered, or 0, in a new list; what lay in memory stays. Condition: a valid maze, a set of colours.
-/
import Derived.Test.YtcoaggnilgfjfaaSReach
import Derived.Test.YtcoaggnilgfjfaaSOwn
import Derived.Deep.RegionHeld3
import Derived.Deep.RegionWith
import Derived.Deep.DeepCutAuto
import Derived.OwnWalk
namespace Go.Proofs.Ytcoaggnilgfjfaa
open Go.RowKit
namespace C
set_option maxHeartbeats 3200000
set_option maxRecDepth 20000
def ClosePost (w : World) (s : Int) (l : List Int) (e : Ending) (w' : World) : Prop :=
  ∃ a c, e = .returned (.tuple #[.int .i64 s, .slice a l.length c]) ∧ OwnAt w.heap.size w'.heap.size w' 3 a (M.encIs l) ∧ l.length ≤ c ∧ c ≤ 9223372036854775807 ∧ Below w.heap.size w w'
theorem close_any (w : World) (lo hi : Nat) (m : M.Mz) (a b : Option Addr) (c d : Nat) (h : MzIn lo hi w m a c b d) (hz : hi ≤ w.heap.size) (V : M.Valid m) (s : Int) (h0 : 0 ≤ s) (h1 : s < 64) :
    Calls Try.prog 87 #[.agg #[.int .i64 m.size, .slice a m.doors.length c, .slice b m.keys.length d], .int .i64 s] w (ClosePost w (M.finC m s) (M.reachOf m 0 (M.finC m s))) := by
  have H := Lib.hid h
  have HVA := Lib.hid V
  have hkl := V.keysLen
  have v12 := V.size12
  have v1 := V.size1
  have hlk := M.lastK_le m s
  have HLI := Lib.hid (fun (k : Nat) (hk : k ≤ M.lastK m s) => M.last_iff V ⟨h0, h1⟩ hk)
  have HIT := Lib.hid (fun k => M.it_set V ⟨h0, h1⟩ k)
  clear h V
  go_enter Try.func87, Try.ntmps87
  go_wp2_with fail
  go_loopw [1, 6, 7, 8] (fun v1 _ _ _ wr => ∃ (k : Nat), k ≤ M.lastK m s ∧ v1 = .int .i64 (M.it m s k) ∧ Box3 wr w.heap.size 29 (.int .i64 m.size) (.slice a m.doors.length c) (.slice b m.keys.length d) ∧ Below w.heap.size w wr) (fun v1 _ _ _ _ => 64 - (intOf v1).toNat)
  case atStart => exact ⟨0, Nat.zero_le _, rfl, Box3.new _ _ _ _ rfl, below_alloc _ _⟩
  case round =>
    obtain ⟨k, hk, rfl, hx, hlow⟩ := hrel
    have X7 := Lib.hid hx
    have B7 := Lib.hid hlow
    have hzr := hlow.size
    have hbl := hx.lt
    obtain ⟨c0, c1, c2⟩ := hx.cells
    obtain ⟨i0, i1⟩ := HIT.out k
    obtain ⟨j0, j1⟩ := HIT.out (k + 1)
    have HPC := Lib.hid (HLI.out k hk)
    have HNX : Hid (M.gath m (M.reachOf m 0 (M.it m s k)) (M.it m s k) = M.it m s (k + 1)) := Lib.hid rfl
    have hle := M.it_le HVA.out ⟨h0, h1⟩ k
    have HFC : Hid (k = M.lastK m s → M.it m s k = M.finC m s) := Lib.hid (fun e => by unfold M.finC; rw [← e])
    clear hx hlow
    generalize hs0 : M.it m s k = s0 at *
    have HS0 := Lib.hid hs0
    clear hs0
    go_wp2_with fail
    refine (reach_any wr lo hi m a b c d (H.out.below B7.out hz) (by omega) HVA.out 0 s0 (Int.le_refl _) (by omega) i0 i1).mono ?_
    rintro e w1 ⟨ra, rc, rfl, ho, ho1, ho2, hb1⟩
    have HN := Lib.hid (fun y hy => M.reach_node HVA.out (s := s0) (y := y) hy)
    have hlen : (M.reachOf m 0 s0).length ≤ 12 := M.rchL_len _ _ _
    generalize hLL : M.reachOf m 0 s0 = L at *
    have HLL := Lib.hid hLL
    have HO := Lib.hid ho
    have X8 := Lib.hid (X7.out.below hb1)
    have B8 := Lib.hid (B7.out.trans (hb1.mono hzr))
    have hz1 := hb1.size
    clear hLL ho hb1 c0 c1 c2
    go_wp2_with fail
    go_loopw [7, 8] (fun v7 v8 wr => ∃ (i : Nat), i ≤ L.length ∧ v8 = .int .i64 i ∧ v7 = .int .i64 (M.gath m (L.take i) s0) ∧ Below w1.heap.size w1 wr) (fun _ v8 _ => L.length - (intOf v8).toNat)
    case atStart => exact ⟨0, Nat.zero_le _, rfl, rfl, Below.refl _ _⟩
    case round =>
      obtain ⟨i, hi', rfl, rfl, hni⟩ := hrel
      have HI := Lib.hid hni
      have hzi := hni.size
      clear hni
      by_cases hil : i < L.length
      · obtain ⟨lb, loff, hla, hlb1, hlb2, hlc⟩ := (HO.out.below HI.out (Nat.le_refl _)).row.at_ (k := i) (by rw [M.encIs_len]; exact hil)
        have lx := hlc _ _ (M.encIs_at hil)
        obtain ⟨y0, y1⟩ := HN.out L[i] (List.getElem_mem hil)
        obtain ⟨j, hj⟩ : ∃ j : Nat, L[i] = (j : Int) := ⟨L[i].toNat, by omega⟩
        have hjl : j < m.keys.length := by omega
        obtain ⟨ib, ioff, hib, _, hib2, hic⟩ := H.out.keys.at_ (k := j) (by rw [M.encIs_len]; exact hjl)
        subst hib
        have kx : wr.cell? ⟨ib, ioff + j, none⟩ = some (.int .i64 m.keys[j]) := ((B8.out.trans (HI.out.mono B8.out.size)).cell (p := ⟨ib, ioff + j, none⟩) (show ib < w.heap.size by omega)).trans (hic _ _ (M.encIs_at hjl))
        have hgt : Hid (M.gath m (L.take (i + 1)) s0 = bits .or .i64 (M.gath m (L.take i) s0) m.keys[j]) := Lib.hid (by rw [M.gath_take hil, hj, Int.toNat_natCast, List.getD_eq_getElem?_getD, List.getElem?_eq_getElem hjl]; rfl)
        rw [hj] at lx
        subst hla
        have hjd : j < d := by have := H.out.d1; omega
        have x9 := X8.out.below HI.out
        obtain ⟨c0, c1, c2⟩ := x9.cells
        have hbl9 := x9.lt
        have E2 := cell_grown hbl9 c2
        have E3 := cell_grown (a := ⟨lb, loff + i, none⟩) (show lb < wr.heap.size by omega) lx
        have E4 := cell_grown (a := ⟨ib, ioff + j, none⟩) (show ib < wr.heap.size by omega) kx
        clear hlc hic y0 y1 hj x9
        have mixed : Try.prog.follows .mixedOrders = true := by kernel_rfl
        have hil' : ((i : Nat) : Int) < ((L.length : Nat) : Int) := by omega
        go_wp2_with fail
        refine wp_region_quiet_grown (by assumption) (by kernel_rfl) ?_
        repeat (first | go_big_quiet_step (fail) | quiet_step (fail))
        refine wpQuiet_nil ?_
        intro _ hw'
        obtain ⟨⟨nq, osq⟩, hw''⟩ := hw'
        subst hw''
        go_wp2_with fail
        go_roundw
        case rel => exact ⟨i + 1, by omega, by go_num, by rw [hgt.out], HI.out.trans ((below_grown wr nq osq).mono hzi)⟩
        case measure => simp [intOf]; omega
      · obtain rfl : i = L.length := by omega
        rw [List.take_of_length_le (Nat.le_refl _), HNX.out]
        by_cases hkk : k = M.lastK m s
        · have hEQ : Hid (M.it m s (k + 1) = s0) := Lib.hid (by rw [HPC.out.2 hkk])
          have HF := Lib.hid (HFC.out hkk)
          rw [hEQ.out]
          clear hkk
          go_wp2_with fail
          go_ret2
          rw [← HF.out, HLL.out]
          exact ⟨_, _, rfl, ((HO.out.below HI.out (Nat.le_refl _)).mono (by omega) hzi), ho1, ho2, B8.out.trans (HI.out.mono B8.out.size)⟩
        · have hne : (M.it m s (k + 1) == s0) = false := by rw [beq_eq_false_iff_ne]; exact fun e => hkk (HPC.out.1 e)
          have hne2 : ¬ M.it m s (k + 1) = s0 := fun e => hkk (HPC.out.1 e)
          go_wp2_with fail
          go_roundw
          case rel => exact ⟨k + 1, by omega, rfl, X8.out.below HI.out, B8.out.trans (HI.out.mono B8.out.size)⟩
          case measure => simp [intOf]; omega
end C
end Go.Proofs.Ytcoaggnilgfjfaa
namespace Go.Proofs.Ytcoaggnilgfjfaa
open Go.RowKit
namespace C
def sliceL : Value → Nat
  | .slice _ n _ => n
  | _ => 0
set_option maxHeartbeats 3200000
set_option maxRecDepth 20000
end C
end Go.Proofs.Ytcoaggnilgfjfaa
namespace Go.Proofs.Ytcoaggnilgfjfaa
open Go.RowKit
namespace C
set_option maxHeartbeats 3200000
set_option maxRecDepth 20000
theorem made_zero (n : Nat) : (madeCells (Value.int .i64 0).cells (n * 1)).toList = M.encIs (List.replicate n 0) := by
  refine List.ext_getElem? fun k => ?_
  unfold madeCells M.encIs
  rcases Nat.lt_or_ge k n with h | h
  · simp [h, Value.cells, Nat.mod_one]
  · simp [h]
theorem make_run {i : TypeInfo} (hi : Try.prog.info? 3 = some i) (hz : i.zero = some (.int .i64 0)) (hs : i.size = 1) (hb : i.bytes = 8) {x : Int} {n : Nat} (hx : x = (n : Int)) (hn : n ≤ 1000) : ∃ zs : Array Value, zs.size = n ∧ zs.toList = M.encIs (List.replicate n 0) ∧ ∀ w : World,
    (Instr.makeSlice 23 (.int .i64 x) (.int .i64 x)).run Try.prog w = .ok (.slice (some ⟨w.heap.size, 0, none⟩) n n) (w.alloc (.cells zs 3)) := by
  subst hx
  refine ⟨madeCells (Value.int .i64 0).cells (n * 1), by rw [size_madeCells]; omega, made_zero n, fun w => ?_⟩
  have := run_make (P := Try.prog) w 23 3 i (.int .i64 0) Try.underlying23 hi hz .i64 .i64 n n (by omega) (Int.le_refl _) (by rw [hb]; omega) (by omega)
  rw [Int.toNat_natCast, hs] at this
  exact this
theorem own_made {w : World} {B n : Nat} {zs : Array Value} (hs : zs.size = n) (hn : n ≤ 1000) (hB : B ≤ w.heap.size) : (w.alloc (.cells zs 3)).ownsRow B 3 1 (.slice (some ⟨w.heap.size, 0, none⟩) n n) n zs.toList :=
  ⟨by simp [hs], .inr ⟨w.heap.size, n, zs, rfl, hB, heap_alloc_new w _, Nat.le_refl _, by unfold maxLen; omega, by simp [hs], by rw [List.take_of_length_le (by simp [hs])]⟩⟩
/-- a row at its block's head lies in that block -/
theorem OwnAt.of_own0 {w : World} {base size n c g : Nat} {T : TypeId} {xs : List Value} (h : w.ownsRow base T size (.slice (some ⟨g, 0, none⟩) n c) n xs) : OwnAt g (g + 1) w T (some ⟨g, 0, none⟩) xs := by
  rcases OwnAt.of_own h with h | ⟨b, off, cur, ha, _, _, hh, hc⟩
  · exact .inl h
  · injection ha with ha
    injection ha with e1 e2 _
    subst e1; subst e2
    exact .inr ⟨g, 0, cur, rfl, Nat.le_refl _, Nat.lt_succ_self _, hh, hc⟩
end C
end Go.Proofs.Ytcoaggnilgfjfaa
