/-
  CONTRACTS of the model's IsClutter, DualOf and MeetsAll; what lay in memory stays. Condition: lists of at most 1048576 numbers that read so.
-/
import Derived.Test.YtkkfmleoamhgkaaIcuS
import Derived.Test.YtkkfmleoamhgkaaCuM
import Derived.Test.YtkkfmleoamhgkaaP3S
namespace Go.Proofs.Ytkkfmleoamhgkaa
open Go.RowKit
namespace C
set_option maxHeartbeats 3200000
set_option maxRecDepth 20000
theorem specMa_lw (w : World) (lo hi : Nat) (a : Option Addr) (c : Nat) (l : List Int) (h : RowIn lo hi w a (M.encIs l)) (hz : hi ≤ w.heap.size) (hl : l.length ≤ 1048576) (_u1 : l.length ≤ c) (_u2 : c ≤ 9223372036854775807) (_u3 : ∀ z ∈ l, -9223372036854775808 ≤ z ∧ z ≤ 9223372036854775807) (x : Int) (_x1 : -9223372036854775808 ≤ x) (_x2 : x ≤ 9223372036854775807) :
    Calls Try.prog 15 #[.slice a l.length c, .int .i64 x] w (BoolsPost w (M.meetV l x) (M.askM l x)) := by
  have H := Lib.hid h
  clear h
  go_enter Try.func15, Try.ntmps15
  go_wp2_with fail
  refine (l6Clutter_any w lo hi a c l H.out hz hl).mono ?_
  rintro e w1 ⟨rfl, hb1⟩
  have HB1 := Lib.hid hb1
  have hz1 := hb1.size
  clear hb1
  cases qc : M.isCluB l with
  | false =>
    have HA : Hid (M.askM l x = false) := Lib.hid (by unfold M.askM; rw [qc]; rfl)
    have HV : Hid (M.meetV l x = false) := Lib.hid (by unfold M.meetV; rw [HA.out]; rfl)
    clear qc
    go_wp2_with fail
    go_ret2
    rw [HA.out, HV.out]
    exact ⟨rfl, HB1.out⟩
  | true =>
    have HQ := Lib.hid qc
    clear qc
    go_wp2_with fail
    refine (l2Set_any _ _).mono ?_
    rintro e w2 ⟨rfl, rfl⟩
    cases qs : M.setB x with
    | false =>
      have HA : Hid (M.askM l x = false) := Lib.hid (by unfold M.askM; rw [qs, Bool.and_false])
      have HV : Hid (M.meetV l x = false) := Lib.hid (by unfold M.meetV; rw [HA.out]; rfl)
      clear qs
      go_wp2_with fail
      go_ret2
      rw [HA.out, HV.out]
      exact ⟨rfl, HB1.out⟩
    | true =>
      have HA : Hid (M.askM l x = true) := Lib.hid (by unfold M.askM; rw [qs, HQ.out]; rfl)
      have HV : Hid (M.meetV l x = M.meetB l x) := Lib.hid (by unfold M.meetV; rw [HA.out]; rfl)
      clear qs
      go_wp2_with fail
      refine (l6Meets_any w1 lo hi a c l x (H.out.below HB1.out hz) (by omega) hl).mono ?_
      rintro e w3 ⟨rfl, rfl⟩
      generalize M.meetB l x = q at *
      go_wp2_with fail
      go_ret2
      rw [HA.out, HV.out]
      exact ⟨rfl, HB1.out⟩
theorem specDu_lw (w : World) (lo hi : Nat) (a : Option Addr) (c : Nat) (l : List Int) (h : RowIn lo hi w a (M.encIs l)) (hz : hi ≤ w.heap.size) (hl : l.length ≤ 1048576) (_u1 : l.length ≤ c) (_u2 : c ≤ 9223372036854775807) (_u3 : ∀ z ∈ l, -9223372036854775808 ≤ z ∧ z ≤ 9223372036854775807) :
    Calls Try.prog 7 #[.slice a l.length c] w (IntsOkPost w (M.dualV l) (M.isCluB l)) := by
  obtain ⟨ii0, hi0, hz0, hzz1, hz2⟩ := info_parts infoB
  have H := Lib.hid h
  clear h
  go_enter Try.func7, Try.ntmps7
  go_wp2_with fail
  refine (l6Clutter_any w lo hi a c l H.out hz hl).mono ?_
  rintro e w1 ⟨rfl, hb1⟩
  have HB1 := Lib.hid hb1
  have hz1 := hb1.size
  clear hb1
  cases qc : M.isCluB l with
  | false =>
    have HF := Lib.hid (M.dualV_no qc)
    have HQ := Lib.hid qc
    clear qc
    go_wp2_with fail
    go_ret2
    rw [HF.out, HQ.out]
    exact intsOk_end (l := []) (ownsRow_empty _ _ _ _ (by omega)) (HB1.out.alloc (by omega) _)
  | true =>
    have HQ := Lib.hid qc
    have HLS := Lib.hid (M.dualV_yes qc)
    clear qc
    go_wp2_with fail
    refine wp_named ?_
    intro W2 hW2
    have hb2 : Below w.heap.size w W2 := by rw [hW2]; exact HB1.out.alloc (by omega) _
    have o2 : W2.ownsRow w.heap.size 4 1 (.slice (some ⟨w1.heap.size, 0, none⟩) 0 0) 0 (M.encBs (M.boolsTo (M.meetF l) 0)) := by rw [hW2, M.boolsTo_zero]; exact ownsRow_empty _ _ _ _ (by omega)
    have ST := Lib.hid (And.intro o2 hb2)
    clear hW2 hb2 o2
    go_loopw [4, 5] (fun v4 v5 wr => ∃ (k : Nat), k ≤ 64 ∧ v5 = .int .i64 k ∧ wr.ownsRow w.heap.size 4 1 v4 k (M.encBs (M.boolsTo (M.meetF l) k)) ∧ Below w.heap.size w wr) (fun _ v5 _ => 64 - (intOf v5).toNat)
    case atStart => exact ⟨0, Nat.zero_le _, rfl, ST.out.1, ST.out.2⟩
    case round =>
      obtain ⟨k, hk, rfl, hso, hlow⟩ := hrel
      obtain ⟨la, lc, hv, hl1, hl2, hrow0⟩ := own_slice hso
      subst hv
      have SO := Lib.hid hso
      have LO := Lib.hid hlow
      have RO := Lib.hid hrow0
      have hzr := hlow.size
      clear hso hlow hrow0
      by_cases hkl : k < 64
      · have HBS := Lib.hid (M.boolsTo_succ (M.meetF l) hkl)
        have HME := Lib.hid (l6Meets_any wr lo hi a c l (k : Int) (H.out.below LO.out hz) (by omega) hl)
        have HQ2 : Hid (M.meetB l (k : Int) = M.meetF l ⟨k, hkl⟩) := Lib.hid rfl
        rw [HQ2.out] at HME
        generalize M.meetF l ⟨k, hkl⟩ = q at *
        go_wp2_with (first
          | (go_at_call 21; refine HME.out.mono ?_; rintro e w6 ⟨rfl, rfl⟩)
          | (at_builtin; refine wpList_append_own _ rfl _ _ 37 rfl w.heap.size 4 ii0 (.bool false) 1 1 Try.underlying37 hi0 hz0 hzz1 hz2 rfl (by decide) _ _ _ rfl (SO.out.alloc _) ⟨wr.heap.size, 0, none⟩ 1 1 [.bool q] rfl rfl (cell_one_new _ _ _) (fun x hx => by simp at hx; subst hx; rfl) (by unfold maxLen; omega) (by omega) (by simp; omega) ?_; intro v' w7 hown' hgrow3 hnil3))
        go_roundw
        case rel =>
          refine ⟨k + 1, by omega, by go_num, ?_, (LO.out.alloc (by omega) _).grown hgrow3 (by simp; omega) (own_base SO.out)⟩
          rw [HBS.out, M.encBs_append]
          exact hown'
        case measure => simp [intOf]; omega
      · obtain rfl : k = 64 := by omega
        go_wp2_with fail
        refine (l6Least_any wr _ _ la lc (M.meetF l) RO.out.row (Nat.le_refl _) hl1 hl2).mono ?_
        rintro e w3 ⟨qa, qd, rfl, hp, hp1, hp2, hb3⟩
        rw [← HLS.out] at hp hp1 ⊢
        have HP := Lib.hid hp
        have HB3 := Lib.hid (LO.out.trans (hb3.mono (by omega)))
        clear hp hb3
        generalize M.dualV l = R at *
        go_wp2_with fail
        go_ret2
        rw [HQ.out]
        exact ⟨qa, qd, rfl, HP.out.mono (by omega) (Nat.le_refl _), hp1, hp2, HB3.out⟩
end C
end Go.Proofs.Ytkkfmleoamhgkaa
