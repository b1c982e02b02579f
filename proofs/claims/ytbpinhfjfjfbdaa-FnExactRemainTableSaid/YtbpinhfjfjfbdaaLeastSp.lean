/-
  CONTRACT of the model's l4Least: the least number of a table at a node with all colours of a set and at most so many; memory stays as it is. Condition: the table tells numbers for states of the maze alone.
-/
import Derived.Test.YtbpinhfjfjfbdaaSpread
namespace Go.Proofs.Ytbpinhfjfjfbdaa
open Go.RowKit
namespace M
def leastB (x set most : Int) (t : St) : Bool := (t.1 == x) && (has2B t.2 set && decide (many t.2 ≤ most))
/-- among the first k sets -/
def LeastTo (x set most : Int) (f : St → Option Nat) (k : Nat) (n : Nat) : Prop := ∃ j : Nat, j < k ∧ leastB x set most (x, (j : Int)) = true ∧ f (x, (j : Int)) = some n
theorem leastTo_succ {x set most : Int} {f : St → Option Nat} {k n : Nat} : LeastTo x set most f (k + 1) n ↔ LeastTo x set most f k n ∨ (leastB x set most (x, (k : Int)) = true ∧ f (x, (k : Int)) = some n) := by
  constructor
  · rintro ⟨j, hj, h1, h2⟩
    rcases Nat.lt_or_ge j k with h | h
    · exact .inl ⟨j, h, h1, h2⟩
    · obtain rfl : j = k := by omega
      exact .inr ⟨h1, h2⟩
  · rintro (⟨j, hj, h1, h2⟩ | ⟨h1, h2⟩)
    · exact ⟨j, by omega, h1, h2⟩
    · exact ⟨k, by omega, h1, h2⟩
theorem leastTo_end {m : Mz} {x set most : Int} {f : St → Option Nat} (hf : ∀ t n, f t = some n → StOk m t) {best : Option Nat} (h : IsLst (LeastTo x set most f 64) best) : minO (fun t => leastB x set most t = true) f = best := by
  refine lst_eq (h.congr fun n => ?_)
  constructor
  · rintro ⟨j, hj, h1, h2⟩
    exact ⟨(x, (j : Int)), h1, h2⟩
  · rintro ⟨t, h1, h2⟩
    obtain ⟨a1, a2, a3, a4⟩ := hf t n h2
    have hx : t.1 = x := by
      unfold leastB at h1
      rw [Bool.and_eq_true] at h1
      exact beq_iff_eq.1 h1.1
    have ht : t = (x, ((t.2.toNat : Nat) : Int)) := by
      obtain ⟨c, d⟩ := t
      simp only at *
      rw [hx, Int.toNat_of_nonneg a3]
    exact ⟨t.2.toNat, by omega, by rw [← ht]; exact h1, by rw [← ht]; exact h2⟩
theorem leastB_at (x set most : Int) (k : Int) : leastB x set most (x, k) = (has2B k set && decide (many k ≤ most)) := by unfold leastB; simp
end M
namespace C
set_option maxHeartbeats 3200000
set_option maxRecDepth 20000
theorem l4Least_any (w : World) (lo hi : Nat) (m : M.Mz) (V : M.Valid m) (a : Option Addr) (c : Nat) (f : M.St → Option Nat) (h : RowIn lo hi w a (M.encIs (M.tblL (M.size64 m) f))) (hz : hi ≤ w.heap.size) (x set most : Int) (x0 : 0 ≤ x) (x1 : x < m.size)
    (hf : ∀ t n, f t = some n → M.StOk m t) :
    Calls Try.prog 54 #[.slice a (M.size64 m) c, .int .i64 x, .int .i64 set, .int .i64 most] w fun e w' => e = .returned (.int .i64 (M.optI (M.minO (fun t => M.leastB x set most t = true) f))) ∧ w = w' := by
  have v12 := V.size12
  have H := Lib.hid h
  have HE := Lib.hid (fun best (hb : M.IsLst (M.LeastTo x set most f 64) best) => M.leastTo_end hf hb)
  have HOK := Lib.hid (fun (k : Nat) (hk : k < 64) => (show M.StOk m (x, (k : Int)) from ⟨x0, x1, by omega, by omega⟩))
  have hsz : M.size64 m ≤ 768 := by unfold M.size64; omega
  have HLT := Lib.hid (fun (k : Nat) (hk : k < 64) => (show M.idN (x, (k : Int)) < M.size64 m from M.idN_lt ⟨x0, x1, by omega, by omega⟩))
  clear h V hf
  generalize M.size64 m = sz at *
  go_enter Try.func54, Try.ntmps54
  go_wp2_with fail
  go_loop [9, 10, 11] (fun v9 v10 _ => ∃ (k : Nat) (best : Option Nat), k ≤ 64 ∧ v10 = .int .i64 (k : Int) ∧ v9 = .int .i64 (M.optI best) ∧ M.IsLst (M.LeastTo x set most f k) best) (fun _ v10 _ => 64 - (intOf v10).toNat)
  case atStart => exact ⟨0, none, Nat.zero_le _, rfl, rfl, fun n ⟨j, hj, _⟩ => by omega⟩
  case round =>
    obtain ⟨k, best, hk, rfl, rfl, hb⟩ := hrel
    have BE := Lib.hid hb
    clear hb
    by_cases hkl : k < 64
    · have HID := Lib.hid (l4Id_any x (k : Int) w x0 (by omega) (by omega) (by omega))
      have hil := HLT.out k hkl
      obtain ⟨sb, off, hsa, _, hsb, hcell⟩ := H.out.at_ (k := M.idN (x, (k : Int))) (by rw [M.encIs_len, M.tblL_len]; exact hil)
      subst hsa
      have y0 := hcell _ _ (M.tblL_at hil)
      rw [M.unid_idN (HOK.out k hkl)] at y0
      have hsbw : sb < w.heap.size := by omega
      have HM := Lib.hid (l2Many_any k w hkl)
      have HLB := Lib.hid (M.leastB_at x set most (k : Int))
      have HSU := Lib.hid (fun n => (M.leastTo_succ (x := x) (set := set) (most := most) (f := f) (k := k) (n := n)))
      clear hcell
      generalize M.idN (x, (k : Int)) = i at *
      generalize f (x, (k : Int)) = r at *
      cases q1 : M.has2B (k : Int) set with
      | false =>
        have HB := Lib.hid (M.isLst_same BE.out (P' := M.LeastTo x set most f (k + 1)) fun n => (HSU.out n).trans ⟨fun h => h.elim id fun h => (by rw [HLB.out, q1] at h; cases h.1), .inl⟩)
        have Q1 := Lib.hid q1
        clear q1
        go_wp2_with fail
        refine (HID.out).mono ?_
        rintro e w1 ⟨rfl, rfl⟩
        go_wp2_with fail
        refine (l2Has_any _ _ _).mono ?_
        rintro e w2 ⟨rfl, rfl⟩
        rw [Q1.out]
        go_wp2_with fail
        go_round
        case rel => exact ⟨k + 1, best, by omega, by go_num, rfl, HB.out⟩
        case measure => simp [intOf]; omega
      | true =>
        have Q1 := Lib.hid q1
        clear q1
        by_cases q2 : M.many (k : Int) ≤ most
        · have HYES : Hid (M.leastB x set most (x, (k : Int)) = true) := Lib.hid (by rw [HLB.out, Q1.out, decide_eq_true q2]; rfl)
          cases r with
          | none =>
            have HB := Lib.hid (M.isLst_same BE.out (P' := M.LeastTo x set most f (k + 1)) fun n => (HSU.out n).trans ⟨fun h => h.elim id fun h => (by cases h.2), .inl⟩)
            rw [M.optI_none] at y0
            go_wp2_with fail
            refine (HID.out).mono ?_
            rintro e w1 ⟨rfl, rfl⟩
            go_wp2_with fail
            refine (l2Has_any _ _ _).mono ?_
            rintro e w2 ⟨rfl, rfl⟩
            rw [Q1.out]
            go_wp2_with fail
            refine (HM.out).mono ?_
            rintro e w3 ⟨rfl, rfl⟩
            go_wp2_with fail
            go_round
            case rel => exact ⟨k + 1, best, by omega, by go_num, rfl, HB.out⟩
            case measure => simp [intOf]; omega
          | some v =>
            have HB := Lib.hid (M.isLst_more BE.out (P' := M.LeastTo x set most f (k + 1)) (k := v) fun n => (HSU.out n).trans ⟨fun h => h.imp id fun h => (by have := h.2; injection this with this; exact this.symm), fun h => h.imp id fun h => ⟨HYES.out, by rw [h]⟩⟩)
            rw [M.optI_some] at y0
            cases best with
            | none =>
              have HN1 : Hid (M.optI none = -1) := Lib.hid rfl
              rw [HN1.out]
              go_wp2_with fail
              refine (HID.out).mono ?_
              rintro e w1 ⟨rfl, rfl⟩
              go_wp2_with fail
              refine (l2Has_any _ _ _).mono ?_
              rintro e w2 ⟨rfl, rfl⟩
              rw [Q1.out]
              go_wp2_with fail
              refine (HM.out).mono ?_
              rintro e w3 ⟨rfl, rfl⟩
              go_wp2_with fail
              go_round
              case rel => exact ⟨k + 1, some v, by omega, by go_num, rfl, HB.out⟩
              case measure => simp [intOf]; omega
            | some u =>
              have HN1 : Hid (M.optI (some u) = (u : Int)) := Lib.hid rfl
              rw [HN1.out]
              by_cases hvu : v < u
              · have HB2 : Hid (M.IsLst (M.LeastTo x set most f (k + 1)) (some v)) := Lib.hid (by have := HB.out; simp only [if_pos hvu] at this; exact this)
                have hvi : (v : Int) < (u : Int) := by omega
                go_wp2_with fail
                refine (HID.out).mono ?_
                rintro e w1 ⟨rfl, rfl⟩
                go_wp2_with fail
                refine (l2Has_any _ _ _).mono ?_
                rintro e w2 ⟨rfl, rfl⟩
                rw [Q1.out]
                go_wp2_with fail
                refine (HM.out).mono ?_
                rintro e w3 ⟨rfl, rfl⟩
                go_wp2_with fail
                go_round
                case rel => exact ⟨k + 1, some v, by omega, by go_num, rfl, HB2.out⟩
                case measure => simp [intOf]; omega
              · have HB2 : Hid (M.IsLst (M.LeastTo x set most f (k + 1)) (some u)) := Lib.hid (by have := HB.out; simp only [if_neg hvu] at this; exact this)
                have hvi : ¬ (v : Int) < (u : Int) := by omega
                go_wp2_with fail
                refine (HID.out).mono ?_
                rintro e w1 ⟨rfl, rfl⟩
                go_wp2_with fail
                refine (l2Has_any _ _ _).mono ?_
                rintro e w2 ⟨rfl, rfl⟩
                rw [Q1.out]
                go_wp2_with fail
                refine (HM.out).mono ?_
                rintro e w3 ⟨rfl, rfl⟩
                go_wp2_with fail
                go_round
                case rel => exact ⟨k + 1, some u, by omega, by go_num, rfl, HB2.out⟩
                case measure => simp [intOf]; omega
        · have HB := Lib.hid (M.isLst_same BE.out (P' := M.LeastTo x set most f (k + 1)) fun n => (HSU.out n).trans ⟨fun h => h.elim id fun h => (by have := h.1; rw [HLB.out, Q1.out, decide_eq_false q2] at this; cases this), .inl⟩)
          go_wp2_with fail
          refine (HID.out).mono ?_
          rintro e w1 ⟨rfl, rfl⟩
          go_wp2_with fail
          refine (l2Has_any _ _ _).mono ?_
          rintro e w2 ⟨rfl, rfl⟩
          rw [Q1.out]
          go_wp2_with fail
          refine (HM.out).mono ?_
          rintro e w3 ⟨rfl, rfl⟩
          go_wp2_with fail
          go_round
          case rel => exact ⟨k + 1, best, by omega, by go_num, rfl, HB.out⟩
          case measure => simp [intOf]; omega
    · obtain rfl : k = 64 := by omega
      have HR := Lib.hid (HE.out best BE.out)
      go_wp2_with fail
      go_ret
      exact ⟨by rw [HR.out]; rfl, rfl⟩
end C
end Go.Proofs.Ytbpinhfjfjfbdaa
