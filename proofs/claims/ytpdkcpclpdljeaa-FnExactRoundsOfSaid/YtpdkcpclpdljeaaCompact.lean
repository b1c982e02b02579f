/-
  CONTRACT of slices.Compact at ints, where at most the last number is as the one before it: without that one, in place; what lay elsewhere stays. Condition: the row may be written, at most 1000 numbers.
-/
import Derived.Test.YtpdkcpclpdljeaaDel
import Derived.Test.YtpdkcpclpdljeaaSets
namespace Go.Proofs.Ytpdkcpclpdljeaa
open Go.RowKit
namespace M
/-- no number is as the one before it -/
def Apart (l : List Int) : Prop := ∀ k (h : k + 1 < l.length), l[k + 1] ≠ l[k]
/-- no number but perhaps the last one is as the one before it -/
def Once (l : List Int) : Prop := ∀ k (h : k + 1 < l.length), k + 2 < l.length → l[k + 1] ≠ l[k]
end M
namespace C
set_option maxHeartbeats 1600000
set_option maxRecDepth 20000
theorem zeroI0 (w : World) : (zeroValue 3).run Try.prog w = .ok (.int .i64 0) w := by kernel_rfl
theorem compact_no (w : World) (lo hi : Nat) (a : Option Addr) (c : Nat) (l : List Int) (h : RowIn lo hi w a (M.encIs l)) (hz : hi ≤ w.heap.size) (hl : l.length ≤ 1000) (hd : M.Apart l) :
    Calls Try.prog 59 #[.slice a l.length c] w fun e w' => e = .returned (.slice a l.length c) ∧ Below w.heap.size w w' := by
  have H := Lib.hid h
  have HD := Lib.hid hd
  clear h hd
  by_cases h2 : l.length < 2
  · go_enter Try.func59, Try.ntmps59
    go_wp2_with fail
    go_ret
    exact ⟨rfl, Below.refl _ _⟩
  · have h2' : ¬ (l.length : Int) < 2 := by omega
    go_enter Try.func59, Try.ntmps59
    go_wp2_with fail
    go_loopw [3] (fun v3 wr => ∃ (k : Nat), 1 ≤ k ∧ k ≤ l.length ∧ v3 = .int .i64 k ∧ Below w.heap.size w wr) (fun v3 _ => l.length - (intOf v3).toNat)
    case atStart => exact ⟨1, Nat.le_refl _, by omega, rfl, Below.refl _ _⟩
    case round =>
      obtain ⟨k, hk1, hk, rfl, hlow⟩ := hrel
      have LO := Lib.hid hlow
      have hzr := hlow.size
      by_cases hkl : k < l.length
      · obtain ⟨j, rfl⟩ : ∃ j, k = j + 1 := ⟨k - 1, by omega⟩
        obtain ⟨b, off, hb, _, hb2, hc⟩ := (H.out.below (hlow) hz).at_ (k := 0) (by rw [M.encIs_len]; omega)
        have x0 := hc _ _ (M.encIs_at (l := l) (k := j) (by omega))
        have x1 : wr.cell? ⟨b, off + (j + 1), none⟩ = some (.int .i64 l[j + 1]) := hc _ _ (M.encIs_at hkl)
        subst hb
        have hbw : b < wr.heap.size := by omega
        have E0 := cell_grown (a := ⟨b, off + j, none⟩) hbw x0
        have E1 := cell_grown (a := ⟨b, off + (j + 1), none⟩) hbw x1
        have hne := HD.out j hkl
        have hnb : (l[j + 1] == l[j]) = false := by rw [beq_eq_false_iff_ne]; exact hne
        have mixed : Try.prog.follows .mixedOrders = true := by kernel_rfl
        have hw1 : IntKind.i64.wrap ((j : Int) + 1 - 1) = (j : Int) := by rw [show (j : Int) + 1 - 1 = (j : Int) by omega]; exact IntWalk.i64_in _ (by omega)
        clear hc hlow
        go_wp2_with fail
        refine wp_region_quiet_grown (by assumption) (by kernel_rfl) ?_
        repeat (first | go_big_quiet_step (fail) | quiet_step (fail))
        refine wpQuiet_nil ?_
        intro _ hw'
        obtain ⟨⟨nq, osq⟩, hw''⟩ := hw'
        subst hw''
        clear hw1
        go_wp2_with fail
        go_roundw
        case rel => exact ⟨j + 1 + 1, by omega, by omega, by go_num, LO.out.trans ((below_grown wr nq osq).mono hzr)⟩
        case measure => simp [intOf]; omega
      · obtain rfl : k = l.length := by omega
        clear hlow
        go_wp2_with fail
        go_ret
        exact ⟨rfl, LO.out⟩
theorem compact_yes (w : World) (lo hi b off : Nat) (c : Nat) (l : List Int) (n : Nat) (hd : M.Once l) (he : ∀ h : n + 1 < l.length, l[n + 1] = l[n]) (hln : l.length = n + 2) (h : OwnAt lo hi w 3 (some ⟨b, off, none⟩) (M.encIs l)) (hz : hi ≤ w.heap.size) (hl : l.length ≤ 1000) (hc1 : l.length ≤ c) (hc2 : c ≤ 9223372036854775807):
    Calls Try.prog 59 #[.slice (some ⟨b, off, none⟩) l.length c] w fun e w' => e = .returned (.slice (some ⟨b, off, none⟩) (n + 1) c) ∧ OwnAt lo hi w' 3 (some ⟨b, off, none⟩) (M.encIs (l.take (n + 1))) ∧ Turned lo hi w w' := by
  obtain ⟨b', off', e, hb1, hb2, hcc⟩ := h.row.at_ (k := 0) (by rw [M.encIs_len]; omega)
  injection e with e
  injection e with e1 e2 _
  subst e1; subst e2
  have H := Lib.hid h
  have HD := Lib.hid hd
  have HC := Lib.hid hcc
  have HE := Lib.hid he
  clear h hd hcc he
  have h2' : ¬ (l.length : Int) < 2 := by omega
  have hbw0 : b < w.heap.size := by omega
  have HLN := Lib.hid hln
  have hn2 : n + 2 ≤ l.length := by omega
  clear hln
  go_enter Try.func59, Try.ntmps59
  go_wp2_with fail
  go_loopw [3] (fun v3 wr => ∃ (k : Nat), k ≤ n ∧ v3 = .int .i64 ((k : Int) + 1) ∧ Below w.heap.size w wr) (fun v3 _ => l.length - (intOf v3).toNat)
  case atStart => exact ⟨0, by omega, rfl, Below.refl _ _⟩
  case round =>
    obtain ⟨j, hk, rfl, hlow⟩ := hrel
    have LO := Lib.hid hlow
    have hzr := hlow.size
    have hjl : j + 1 < l.length := by omega
    have x0 := (hlow.cell (p := ⟨b, off + j, none⟩) hbw0).trans (HC.out _ _ (M.encIs_at (l := l) (k := j) (by omega)))
    have x1 := (hlow.cell (p := ⟨b, off + (j + 1), none⟩) hbw0).trans (HC.out _ _ (M.encIs_at (l := l) (k := j + 1) hjl))
    have hbw : b < wr.heap.size := by omega
    have E0 := cell_grown (a := ⟨b, off + j, none⟩) hbw x0
    have E1 := cell_grown (a := ⟨b, off + (j + 1), none⟩) hbw x1
    have mixed : Try.prog.follows .mixedOrders = true := by kernel_rfl
    have hw1 : IntKind.i64.wrap ((j : Int) + 1 - 1) = (j : Int) := by rw [show (j : Int) + 1 - 1 = (j : Int) by omega]; exact IntWalk.i64_in _ (by omega)
    have hj0 : (0 : Int) ≤ (j : Int) + 1 := by omega
    have hj1 : (j : Int) + 1 < (l.length : Int) := by omega
    have hj2 : ((j : Int) + 1).toNat = j + 1 := by omega
    clear hlow x0 x1
    by_cases hjn : j < n
    · have hne := HD.out j hjl (by have := HLN.out; omega)
      have hnb : (l[j + 1] == l[j]) = false := by rw [beq_eq_false_iff_ne]; exact hne
      have HNN := Lib.hid hjn
      clear hjn
      go_wp2_with fail
      refine wp_region_quiet_grown (by assumption) (by kernel_rfl) ?_
      repeat (first | go_big_quiet_step (fail) | quiet_step (fail))
      refine wpQuiet_nil ?_
      intro _ hw'
      obtain ⟨⟨nq, osq⟩, hw''⟩ := hw'
      subst hw''
      clear hnb hw1
      go_wp2_with fail
      go_roundw
      case rel => exact ⟨j + 1, HNN.out, by go_num, LO.out.trans ((below_grown wr nq osq).mono hzr)⟩
      case measure => simp [intOf]; omega
    · obtain rfl : j = n := by omega
      have hee := HE.out hjl
      rw [hee] at E1
      go_wp2_with fail
      refine wp_region_quiet_grown (by assumption) (by kernel_rfl) ?_
      repeat (first | go_big_quiet_step (fail) | quiet_step (fail))
      refine wpQuiet_nil ?_
      intro _ hw'
      obtain ⟨⟨nq, osq⟩, hw''⟩ := hw'
      subst hw''
      clear hw1
      obtain ⟨W1, hW1⟩ : ∃ W1, W1 = Sort.grow (wr.drewN nq) osq := ⟨_, rfl⟩
      have hbW : Below w.heap.size w W1 := by rw [hW1]; exact LO.out.trans ((below_grown wr nq osq).mono hzr)
      rw [← hW1]
      have hown := H.out.below hbW hz
      have hln := HLN.out
      obtain ⟨u, hu⟩ : ∃ u, (M.encIs l)[j + 1]? = some u := ⟨_, M.encIs_at hjl⟩
      have hcl := fun ty => Lib.run_clear_slice (P := Try.prog) W1 23 3 ty (.int .i64 0) Try.underlying23 zeroI0 rfl rfl b (off + (j + 1)) 1 (c - (j + 1)) (by omega)
        (fun i hi' => by
          obtain rfl : i = 0 := by omega
          rw [Nat.add_zero, (hbW.cell (p := ⟨b, off + (j + 1), none⟩) hbw0).trans (HC.out _ _ hu)]; rfl)
        (fun i _ => hown.free rfl (k := 0) (by rw [M.encIs_len]; omega) _)
      have hE := hown.setCells (List.replicate 1 (.int .i64 0)) (j + 1) W1
      have hT := (Turned.of_below hbW lo hi).trans (Turned.setCells b hb1 hb2 (List.replicate 1 (.int .i64 0)) (off + (j + 1)) W1)
      have hend : ∀ (i : Nat) v, (M.encIs (l.take (j + 1)))[i]? = some v → (M.over (M.encIs l) (j + 1) (List.replicate 1 (.int .i64 0)))[i]? = some v := by
        intro i v hv
        have hi' : i < j + 1 := by
          have := (List.getElem?_eq_some_iff.1 hv).1
          rw [M.encIs_len] at this
          simp at this
          omega
        rw [M.over_get _ _ _ _ (by rw [M.encIs_len]; simp; omega), if_pos hi']
        rw [M.encIs_take, List.getElem?_take, if_pos hi'] at hv
        exact hv
      have HEND := Lib.hid (hE.less hend)
      have HT := Lib.hid hT
      have hone : l.length - (j + 1) = 1 := by omega
      have hcne : ¬ c = j + 1 := by omega
      have hlow : (j : Int) + 1 ≤ (l.length : Int) := by omega
      have hlow2 : j + 1 ≤ l.length := by omega
      have hlow3 : j + 1 ≤ c := by omega
      clear hE hT hend hu E0 E1 hW1 hln hown HD HE
      generalize List.replicate 1 (Value.int .i64 0) = zs at *
      go_wp2_with fail
      go_loopw [3, 5] (fun v3 v5 wr => v3 = .int .i64 ((j : Int) + 1) ∧ v5 = .int .i64 1 ∧ wr = W1) (fun _ _ _ => 0)
      case atStart => exact ⟨rfl, rfl, rfl⟩
      case round =>
        obtain ⟨rfl, rfl, rfl⟩ := hrel
        go_wp2_with fail
        go_ret
        exact ⟨rfl, HEND.out, HT.out⟩
end C
end Go.Proofs.Ytpdkcpclpdljeaa
