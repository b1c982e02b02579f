/-
  CONTRACTS of the model's l2Has, l4Least (at no colours asked) and l8Goal: the least number of a table at a node; memory stays as it is. Condition: the table tells numbers for visits of the works alone.
-/
import Derived.Test.YtdgfceiobpnchaaIdsV
import Derived.Test.YtdgfceiobpnchaaManyW
import Derived.Test.YtdgfceiobpnchaaActF
import Derived.Test.YtdgfceiobpnchaaFewV
namespace Go.Proofs.Ytdgfceiobpnchaa
open Go.RowKit
namespace M
def has2B (set need : Int) : Bool := bits .and .i64 set need == need
theorem has2_zero : ∀ k : Fin 64, has2B (k.val : Int) 0 = true := by decide +kernel
theorem many_six : ∀ k : Fin 64, many (k.val : Int) ≤ 6 := by decide +kernel
/-- among the first k sets -/
def LeastTo (x : Int) (f : Vs → Option Nat) (k : Nat) (n : Nat) : Prop := ∃ j : Nat, j < k ∧ f (x, (j : Int)) = some n
theorem leastTo_succ {x : Int} {f : Vs → Option Nat} {k n : Nat} : LeastTo x f (k + 1) n ↔ LeastTo x f k n ∨ f (x, (k : Int)) = some n := by
  constructor
  · rintro ⟨j, hj, h2⟩
    rcases Nat.lt_or_ge j k with h | h
    · exact .inl ⟨j, h, h2⟩
    · obtain rfl : j = k := by omega
      exact .inr h2
  · rintro (⟨j, hj, h2⟩ | h2)
    · exact ⟨j, by omega, h2⟩
    · exact ⟨k, by omega, h2⟩
theorem leastTo_end {m : Wk} {x : Int} {f : Vs → Option Nat} (hf : ∀ t n, f t = some n → VsOk m t) {best : Option Nat} (h : IsLst (LeastTo x f 64) best) : minO (fun t => (t.1 == x) = true) f = best := by
  refine lst_eq (h.congr fun n => ?_)
  constructor
  · rintro ⟨j, hj, h2⟩
    exact ⟨(x, (j : Int)), beq_iff_eq.2 rfl, h2⟩
  · rintro ⟨t, h1, h2⟩
    obtain ⟨a1, a2, a3, a4⟩ := hf t n h2
    have hx : t.1 = x := beq_iff_eq.1 h1
    have ht : t = (x, ((t.2.toNat : Nat) : Int)) := by
      obtain ⟨c, d⟩ := t
      simp only at *
      rw [hx, Int.toNat_of_nonneg a3]
    exact ⟨t.2.toNat, by omega, by rw [← ht]; exact h2⟩
end M
namespace C
set_option maxHeartbeats 3200000
set_option maxRecDepth 20000
theorem l2Has_any (s t : Int) (w : World) : Calls Try.prog 130 #[.int .i64 s, .int .i64 t] w fun e w' => e = .returned (.bool (M.has2B s t)) ∧ w = w' := by
  go_enter Try.func130, Try.ntmps130
  go_wp2_with fail
  go_ret
  exact ⟨rfl, rfl⟩
theorem l4Least_any (w : World) (lo hi : Nat) (m : M.Wk) (V : M.WV m) (a : Option Addr) (c : Nat) (f : M.Vs → Option Nat) (h : RowIn lo hi w a (M.encIs (M.tblL (M.size64 m) f))) (hz : hi ≤ w.heap.size) (x : Int) (x0 : 0 ≤ x) (x1 : x < m.size)
    (hf : ∀ t n, f t = some n → M.VsOk m t) :
    Calls Try.prog 117 #[.slice a (M.size64 m) c, .int .i64 x, .int .i64 0, .int .i64 6] w fun e w' => e = .returned (.int .i64 (M.optI (M.minO (fun t => (t.1 == x) = true) f))) ∧ w = w' := by
  have v12 := V.size12
  have H := Lib.hid h
  have HE := Lib.hid (fun best (hb : M.IsLst (M.LeastTo x f 64) best) => M.leastTo_end hf hb)
  generalize M.minO (fun t => (t.1 == x) = true) f = goal at *
  have HOK := Lib.hid (fun (k : Nat) (hk : k < 64) => (show M.VsOk m (x, (k : Int)) from ⟨x0, x1, by omega, by simp; omega⟩))
  have hsz : M.size64 m ≤ 768 := by unfold M.size64; omega
  have HLT := Lib.hid (fun (k : Nat) (hk : k < 64) => (show M.idN (x, (k : Int)) < M.size64 m from M.idN_lt (HOK.out k hk)))
  clear h V hf
  generalize M.size64 m = sz at *
  go_enter Try.func117, Try.ntmps117
  go_wp2_with fail
  go_loop [9, 10, 11] (fun v9 v10 _ => ∃ (k : Nat) (best : Option Nat), k ≤ 64 ∧ v10 = .int .i64 (k : Int) ∧ v9 = .int .i64 (M.optI best) ∧ M.IsLst (M.LeastTo x f k) best) (fun _ v10 _ => 64 - (intOf v10).toNat)
  case atStart => exact ⟨0, none, Nat.zero_le _, rfl, rfl, fun n ⟨j, hj, _⟩ => by omega⟩
  case round =>
    obtain ⟨k, best, hk, rfl, rfl, hb⟩ := hrel
    have BE := Lib.hid hb
    clear hb
    by_cases hkl : k < 64
    · have HID := Lib.hid (l4Id_any x (k : Int) w x0 (by omega) (by omega) (by omega))
      have hil := HLT.out k hkl
      obtain ⟨sb, off, hsa, _, hsb, hcell⟩ := H.out.at_ (k := M.idN (x, (k : Int))) (by rw [M.encIs_len, M.tblL_len]; exact hil)
      subst hsa
      have y0 := hcell _ _ (M.tblL_at hil)
      rw [M.unid_idN (HOK.out k hkl)] at y0
      have hsbw : sb < w.heap.size := by omega
      have HM := Lib.hid (l2Many_any k w hkl)
      have HSU := Lib.hid (fun n => (M.leastTo_succ (x := x) (f := f) (k := k) (n := n)))
      have Q1 : Hid (M.has2B (k : Int) 0 = true) := Lib.hid (M.has2_zero ⟨k, hkl⟩)
      have q2 : M.many (k : Int) ≤ 6 := M.many_six ⟨k, hkl⟩
      clear hcell
      generalize M.idN (x, (k : Int)) = i at *
      generalize f (x, (k : Int)) = r at *
      cases r with
      | none =>
        have HB := Lib.hid (M.isLst_same BE.out (P' := M.LeastTo x f (k + 1)) fun n => (HSU.out n).trans ⟨fun h => h.elim id fun h => (by cases h), .inl⟩)
        rw [M.optI_none] at y0
        go_wp2_with fail
        refine (HID.out).mono ?_
        rintro e w1 ⟨rfl, rfl⟩
        go_wp2_with fail
        refine (l2Has_any _ _ _).mono ?_
        rintro e w2 ⟨rfl, rfl⟩
        rw [Q1.out]
        go_wp2_with fail
        refine (HM.out).mono ?_
        rintro e w3 ⟨rfl, rfl⟩
        go_wp2_with fail
        go_round
        case rel => exact ⟨k + 1, best, by omega, by go_num, rfl, HB.out⟩
        case measure => simp [intOf]; omega
      | some v =>
        have HB := Lib.hid (M.isLst_more BE.out (P' := M.LeastTo x f (k + 1)) (k := v) fun n => (HSU.out n).trans ⟨fun h => h.imp id fun h => (by injection h with h; exact h.symm), fun h => h.imp id fun h => (by rw [h])⟩)
        rw [M.optI_some] at y0
        cases best with
        | none =>
          have HN1 : Hid (M.optI none = -1) := Lib.hid rfl
          rw [HN1.out]
          go_wp2_with fail
          refine (HID.out).mono ?_
          rintro e w1 ⟨rfl, rfl⟩
          go_wp2_with fail
          refine (l2Has_any _ _ _).mono ?_
          rintro e w2 ⟨rfl, rfl⟩
          rw [Q1.out]
          go_wp2_with fail
          refine (HM.out).mono ?_
          rintro e w3 ⟨rfl, rfl⟩
          go_wp2_with fail
          go_round
          case rel => exact ⟨k + 1, some v, by omega, by go_num, rfl, HB.out⟩
          case measure => simp [intOf]; omega
        | some u =>
          have HN1 : Hid (M.optI (some u) = (u : Int)) := Lib.hid rfl
          rw [HN1.out]
          by_cases hvu : v < u
          · have HB2 : Hid (M.IsLst (M.LeastTo x f (k + 1)) (some v)) := Lib.hid (by have := HB.out; simp only [if_pos hvu] at this; exact this)
            have hvi : (v : Int) < (u : Int) := by omega
            go_wp2_with fail
            refine (HID.out).mono ?_
            rintro e w1 ⟨rfl, rfl⟩
            go_wp2_with fail
            refine (l2Has_any _ _ _).mono ?_
            rintro e w2 ⟨rfl, rfl⟩
            rw [Q1.out]
            go_wp2_with fail
            refine (HM.out).mono ?_
            rintro e w3 ⟨rfl, rfl⟩
            go_wp2_with fail
            go_round
            case rel => exact ⟨k + 1, some v, by omega, by go_num, rfl, HB2.out⟩
            case measure => simp [intOf]; omega
          · have HB2 : Hid (M.IsLst (M.LeastTo x f (k + 1)) (some u)) := Lib.hid (by have := HB.out; simp only [if_neg hvu] at this; exact this)
            have hvi : ¬ (v : Int) < (u : Int) := by omega
            go_wp2_with fail
            refine (HID.out).mono ?_
            rintro e w1 ⟨rfl, rfl⟩
            go_wp2_with fail
            refine (l2Has_any _ _ _).mono ?_
            rintro e w2 ⟨rfl, rfl⟩
            rw [Q1.out]
            go_wp2_with fail
            refine (HM.out).mono ?_
            rintro e w3 ⟨rfl, rfl⟩
            go_wp2_with fail
            go_round
            case rel => exact ⟨k + 1, some u, by omega, by go_num, rfl, HB2.out⟩
            case measure => simp [intOf]; omega
    · obtain rfl : k = 64 := by omega
      have HR := Lib.hid (HE.out best BE.out)
      go_wp2_with fail
      go_ret
      exact ⟨by rw [HR.out]; rfl, rfl⟩
theorem l8Goal_any (w : World) (lo hi : Nat) (m : M.Wk) (V : M.WV m) (a0 b0 a : Option Addr) (c0 d0 c : Nat) (f : M.Vs → Option Nat) (h : RowIn lo hi w a (M.encIs (M.tblL (M.size64 m) f))) (hz : hi ≤ w.heap.size) (hf : ∀ t n, f t = some n → M.VsOk m t) :
    Calls Try.prog 81 #[.agg #[.int .i64 m.size, .slice a0 m.gates.length c0, .slice b0 m.pulls.length d0], .slice a (M.size64 m) c] w fun e w' => e = .returned (.int .i64 (M.optI (M.minO (fun t => M.wonV m t = true) f))) ∧ Below w.heap.size w w' := by
  have H := Lib.hid h
  have v1 := V.size1
  have v12 := V.size12
  have HL := Lib.hid (fun W' lo' hi' a' c' (h' : RowIn lo' hi' W' a' (M.encIs (M.tblL (M.size64 m) f))) (hz' : hi' ≤ W'.heap.size) => (show Calls _ _ _ W' (fun e w' => e = .returned (.int .i64 (M.optI (M.minO (fun t => M.wonV m t = true) f))) ∧ W' = w') from l4Least_any W' lo' hi' m V a' c' f h' hz' (m.size - 1) (by omega) (by omega) hf))
  generalize M.minO (fun t => M.wonV m t = true) f = goal at *
  clear h hf V
  go_enter Try.func81, Try.ntmps81
  go_upto_region 1 with fail
  refine wp_named ?_
  intro W hW
  have hb : Below w.heap.size w W := by rw [hW]; exact below_alloc _ _
  have x1 : Box3 W w.heap.size 28 (.int .i64 m.size) (.slice a0 m.gates.length c0) (.slice b0 m.pulls.length d0) := by rw [hW]; exact Box3.new _ _ _ _ rfl
  clear hW
  have HB := Lib.hid hb
  have hzw := hb.size
  obtain ⟨c0, c1, c2⟩ := x1.cells
  clear hb x1
  go_wp2_with fail
  refine (HL.out W lo hi a c (H.out.turned (Turned.of_below HB.out 0 0) (by omega) (.inr (Nat.zero_le _))) (by omega)).mono ?_
  rintro e w2 ⟨rfl, rfl⟩
  go_wp2_with fail
  go_ret
  exact ⟨rfl, HB.out⟩
end C
end Go.Proofs.Ytdgfceiobpnchaa
