/-
  CONTRACT of impl.Maze.spread: a number whose digits tell nodes, closed under the doors that are open; what lay in memory stays. Condition: a valid maze, a set of colours, a number below 4096.
-/
import Derived.Test.YtpdkcpclpdljeaaOpenTo
import Derived.Test.YtpdkcpclpdljeaaDigitsI
import Derived.Test.YtpdkcpclpdljeaaSpecMaze
import Derived.Test.YtpdkcpclpdljeaaReachMath
namespace Go.Proofs.Ytpdkcpclpdljeaa
open Go.RowKit
namespace M
theorem and4 (a b : Nat) (ha : a < 4096) (hb : b < 4096) : bits .and .i64 (a : Int) (b : Int) = ((a &&& b : Nat) : Int) := (bits_nat .i64 62 (by decide) wraps_i64 a b (by omega) (by omega)).1
theorem or4 (a b : Nat) (ha : a < 4096) (hb : b < 4096) : bits .or .i64 (a : Int) (b : Int) = ((a ||| b : Nat) : Int) := (bits_nat .i64 62 (by decide) wraps_i64 a b (by omega) (by omega)).2
theorem pow12 {k : Nat} (h : k < 12) : 2 ^ k < 4096 := by
  have h12 : (2 : Nat) ^ 12 = 4096 := rfl
  rw [← h12]
  exact Nat.pow_lt_pow_of_lt (by decide) h
theorem wrap_pow {k : Nat} (h : k < 12) : wrap64 (2 ^ k) = ((2 ^ k : Nat) : Int) := by
  have := pow12 h
  have e : ((2 : Int) ^ k) = ((2 ^ k : Nat) : Int) := by simp
  rw [e]
  generalize 2 ^ k = n at this
  unfold wrap64
  omega
theorem endsI (d : Dr) (h1 : d.1 < 12) (h2 : d.2.1 < 12) : bits .or .i64 (wrap64 (2 ^ d.1.toNat)) (wrap64 (2 ^ d.2.1.toNat)) = ((endsN d : Nat) : Int) := by
  rw [wrap_pow (by omega), wrap_pow (by omega), or4 _ _ (pow12 (by omega)) (pow12 (by omega))]
  rfl
end M
namespace C
set_option maxHeartbeats 3200000
set_option maxRecDepth 20000
theorem spread_any (w : World) (lo hi : Nat) (m : M.Mz) (a b : Option Addr) (c d : Nat) (h : MzIn lo hi w m a c b d) (hz : hi ≤ w.heap.size) (V : M.Valid m) (n0 : Nat) (set : Int) (P : Nat → Prop) (h0 : P n0) (hP : ∀ n d, d ∈ m.doors → P n → P (M.stepN (fun e => M.hasB set e.2.2) n d)) (hlt : ∀ n, P n → n < 4096) :
    Calls Try.prog 111 #[.agg #[.int .i64 m.size, .slice a m.doors.length c, .slice b m.keys.length d], .int .i64 (n0 : Int), .int .i64 set] w fun e w' => ∃ n : Nat, e = .returned (.int .i64 (n : Int)) ∧ P n ∧ M.passN (fun e => M.hasB set e.2.2) n m.doors = n ∧ Below w.heap.size w w' := by
  have H := Lib.hid h
  have HP := Lib.hid hP
  have HLT := Lib.hid hlt
  have H0 := Lib.hid h0
  clear h hP hlt h0
  have v30 := V.few
  have HV := Lib.hid V
  clear V
  go_enter Try.func111, Try.ntmps111
  go_wp2_with fail
  go_loopw [1, 7, 9, 10] (fun v _ _ _ wr => ∃ (n : Nat), v = .int .i64 (n : Int) ∧ P n ∧ Box3 wr w.heap.size 29 (.int .i64 m.size) (.slice a m.doors.length c) (.slice b m.keys.length d) ∧ Below w.heap.size w wr) (fun v _ _ _ _ => 4096 - (intOf v).toNat)
  case atStart => exact ⟨n0, rfl, H0.out, Box3.new _ _ _ _ rfl, below_alloc _ _⟩
  case round =>
    obtain ⟨n, rfl, hpn, hbox, hnx⟩ := hrel
    have HN := Lib.hid hnx
    have HBX := Lib.hid hbox
    have HPN := Lib.hid hpn
    have hzr := hnx.size
    have hbl := hbox.lt
    obtain ⟨x0, x1, x2⟩ := hbox.cells
    clear hpn hbox hnx
    go_wp2_with fail
    refine wp_named ?_
    intro W1 hW1
    have hb1 : Below wr.heap.size wr W1 := by rw [hW1]; exact Below.refl _ _
    clear hW1
    have HB1 := Lib.hid (HN.out.trans (hb1.mono hzr))
    have X1 := Lib.hid (HBX.out.below hb1)
    have hz1 := hb1.size
    clear hb1 x0 x1 x2
    go_loopw [1, 9, 10, 15] (fun v _ _ i wr => ∃ (k : Nat), k ≤ m.doors.length ∧ i = .int .i64 k ∧ v = .int .i64 ((M.passN (fun e => M.hasB set e.2.2) n (m.doors.take k) : Nat) : Int) ∧ P (M.passN (fun e => M.hasB set e.2.2) n (m.doors.take k)) ∧ Below W1.heap.size W1 wr) (fun _ _ _ i _ => m.doors.length - (intOf i).toNat)
    case atStart => exact ⟨0, Nat.zero_le _, rfl, rfl, HPN.out, Below.refl _ _⟩
    case round =>
      obtain ⟨k, hk, rfl, rfl, hpk, hni⟩ := hrel
      have HI := Lib.hid hni
      have HPK := Lib.hid hpk
      have hzi := hni.size
      have hk4 := HLT.out _ hpk
      clear hni hpk
      generalize hpe : M.passN (fun e => M.hasB set e.2.2) n (m.doors.take k) = p at *
      have HPE := Lib.hid hpe
      clear hpe
      by_cases hkl : k < m.doors.length
      · have hrow := H.out.doors.below (HB1.out.trans (HI.out.mono (by omega))) hz
        obtain ⟨db, off, rfl, _, hdb, hc0⟩ := hrow.at_ (k := k * 3) (by rw [M.encDs_len]; omega)
        have a0 := hc0 _ _ (M.encDs_at0 hkl)
        have a1 : wr.cell? ⟨db, off + k * 3 + 1, none⟩ = some (.int .i64 m.doors[k].2.1) := hc0 _ _ (M.encDs_at1 hkl)
        have a2 : wr.cell? ⟨db, off + k * 3 + 2, none⟩ = some (.int .i64 m.doors[k].2.2) := hc0 _ _ (M.encDs_at2 hkl)
        obtain ⟨d1, d2, d3, d4, d5, d6, d7⟩ := HV.out.door k hkl
        have hs12 := HV.out.size12
        clear hc0 hrow
        go_wp2_with fail
        refine wp_named ?_
        intro W2 hW2
        have hb2 : Below wr.heap.size wr W2 := by rw [hW2]; exact below_alloc _ _
        have hdb3 : Box3 W2 wr.heap.size 67 (.int .i64 m.doors[k].1) (.int .i64 m.doors[k].2.1) (.int .i64 m.doors[k].2.2) := by rw [hW2]; exact Box3.new _ _ _ _ rfl
        clear hW2 a0 a1 a2
        have HI2 := Lib.hid (HI.out.trans (hb2.mono hzi))
        have hdl := hdb3.lt
        have hz2 := hb2.size
        have HD3 := Lib.hid hdb3
        obtain ⟨e0, e1, e2⟩ := hdb3.cells
        have E0 := cell_grown hdl e0
        have E1 := cell_grown hdl e1
        have E2 := cell_grown hdl e2
        have mixed : Try.prog.follows .mixedOrders = true := by kernel_rfl
        have g1 : ¬ m.doors[k].1 < 0 := by omega
        have g2 : ¬ m.doors[k].2.1 < 0 := by omega
        have hends := M.endsN_lt (d := m.doors[k]) (by omega) (by omega)
        have hE := M.endsI m.doors[k] (by omega) (by omega)
        have hA := M.and4 p (M.endsN m.doors[k]) hk4 hends
        have hO := M.or4 p (M.endsN m.doors[k]) hk4 hends
        have hmem : m.doors[k] ∈ m.doors := List.getElem_mem hkl
        have hsucc : M.passN (fun e => M.hasB set e.2.2) n (m.doors.take (k + 1)) = M.stepN (fun e => M.hasB set e.2.2) p m.doors[k] := by rw [List.take_succ_eq_append_getElem hkl, M.passN_snoc, HPE.out]
        have HSU := Lib.hid hsucc
        have HPS := Lib.hid (HP.out p m.doors[k] hmem HPK.out)
        clear hb2 hdb3 e0 e1 e2 hends hmem hsucc
        refine wp_region_quiet_grown (by assumption) (by kernel_rfl) ?_
        repeat (first | go_big_quiet_step (fail) | quiet_step (fail))
        refine wpQuiet_nil ?_
        intro _ hw'
        obtain ⟨⟨nq, osq⟩, hw''⟩ := hw'
        subst hw''
        go_wp2_with fail
        refine (hasAll_any _ _ _).mono ?_
        rintro e w5 ⟨rfl, rfl⟩
        have HB5 := Lib.hid (HI2.out.trans ((below_grown W2 nq osq).mono (by omega)))
        cases hop : M.hasB set m.doors[k].2.2 with
        | false =>
          have hst : M.stepN (fun e => M.hasB set e.2.2) p m.doors[k] = p := by unfold M.stepN; exact if_neg (fun h => by have h1 := h.1; simp only [hop] at h1; cases h1)
          have HST := Lib.hid hst
          clear hst hop
          go_wp2_with fail
          go_roundw
          case rel => exact ⟨k + 1, by omega, by go_num, by rw [HSU.out, HST.out], by rw [HSU.out]; exact HPS.out, HB5.out⟩
          case measure => simp [intOf]; omega
        | true =>
          rcases Decidable.em (p &&& M.endsN m.doors[k] = 0) with hz0 | hz0
          · have hst : M.stepN (fun e => M.hasB set e.2.2) p m.doors[k] = p := by unfold M.stepN; rw [if_neg (fun h => h.2 hz0)]
            have HST := Lib.hid hst
            rw [hz0] at hA
            clear hst hop hz0
            go_wp2_with fail
            go_roundw
            case rel => exact ⟨k + 1, by omega, by go_num, by rw [HSU.out, HST.out], by rw [HSU.out]; exact HPS.out, HB5.out⟩
            case measure => simp [intOf]; omega
          · have hst : M.stepN (fun e => M.hasB set e.2.2) p m.doors[k] = p ||| M.endsN m.doors[k] := by unfold M.stepN; rw [if_pos ⟨hop, hz0⟩]
            have HST := Lib.hid hst
            have hzi0 : ¬ ((p &&& M.endsN m.doors[k] : Nat) : Int) = 0 := by omega
            have hzb : (((p &&& M.endsN m.doors[k] : Nat) : Int) != 0) = true := by simpa using hz0
            clear hst hop
            go_wp2_with fail
            go_roundw
            case rel => exact ⟨k + 1, by omega, by go_num, by rw [HSU.out, HST.out], by rw [HSU.out]; exact HPS.out, HB5.out⟩
            case measure => simp [intOf]; omega
      · obtain rfl : k = m.doors.length := by omega
        have hpe := HPE.out
        rw [List.take_of_length_le (Nat.le_refl _)] at hpe
        have hle := M.passN_le (fun e => M.hasB set e.2.2) n m.doors
        rw [hpe] at hle
        have HF := Lib.hid hpe
        clear hpe
        rcases Decidable.em (p = n) with hpn | hpn
        · subst hpn
          go_wp2_with fail
          go_ret
          exact ⟨p, rfl, HPK.out, HF.out, HB1.out.trans (HI.out.mono (by omega))⟩
        · have hb : ((p : Int) == (n : Int)) = false := by rw [beq_eq_false_iff_ne]; omega
          have hne : ¬ (p : Int) = (n : Int) := by omega
          go_wp2_with fail
          go_roundw
          case rel => exact ⟨p, rfl, HPK.out, X1.out.below HI.out, HB1.out.trans (HI.out.mono (by omega))⟩
          case measure => simp [intOf]; omega
end C
end Go.Proofs.Ytpdkcpclpdljeaa
