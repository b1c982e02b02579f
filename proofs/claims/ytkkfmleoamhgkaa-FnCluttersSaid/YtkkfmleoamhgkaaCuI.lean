/-
  CONTRACTS of the program's IsClutter, ClutterOf, DualOf and MeetsAll; what lay in memory stays. Condition: lists of at most 1048576 numbers that read so.
-/
import Derived.Test.YtkkfmleoamhgkaaIcuI
import Derived.Test.YtkkfmleoamhgkaaCuM
import Derived.Test.YtkkfmleoamhgkaaWinI
import Derived.Test.YtkkfmleoamhgkaaP3S
namespace Go.Proofs.Ytkkfmleoamhgkaa
open Go.RowKit
namespace C
set_option maxHeartbeats 3200000
set_option maxRecDepth 20000
theorem implIcu_lw (w : World) (lo hi : Nat) (a : Option Addr) (c : Nat) (l : List Int) (h : RowIn lo hi w a (M.encIs l)) (hz : hi ≤ w.heap.size) (hl : l.length ≤ 1048576) (_u1 : l.length ≤ c) (_u2 : c ≤ 9223372036854775807) (_u3 : ∀ z ∈ l, -9223372036854775808 ≤ z ∧ z ≤ 9223372036854775807) :
    Calls Try.prog 8 #[.slice a l.length c] w (BoolPost w (M.isCluB l)) :=
  isClutter_any w lo hi a c l h hz hl
theorem implCo_lw (w : World) (lo hi : Nat) (a : Option Addr) (c : Nat) (l : List Int) (h : RowIn lo hi w a (M.encIs l)) (hz : hi ≤ w.heap.size) (hl : l.length ≤ 1048576) (_u1 : l.length ≤ c) (_u2 : c ≤ 9223372036854775807) (_u3 : ∀ z ∈ l, -9223372036854775808 ≤ z ∧ z ≤ 9223372036854775807) :
    Calls Try.prog 11 #[.slice a l.length c] w (IntsOkPost w (M.cluV l) (M.keysB l)) :=
  clutterOf_any w lo hi a c l h hz hl
theorem implMa_lw (w : World) (lo hi : Nat) (a : Option Addr) (c : Nat) (l : List Int) (h : RowIn lo hi w a (M.encIs l)) (hz : hi ≤ w.heap.size) (hl : l.length ≤ 1048576) (_u1 : l.length ≤ c) (_u2 : c ≤ 9223372036854775807) (_u3 : ∀ z ∈ l, -9223372036854775808 ≤ z ∧ z ≤ 9223372036854775807) (x : Int) (_x1 : -9223372036854775808 ≤ x) (_x2 : x ≤ 9223372036854775807) :
    Calls Try.prog 14 #[.slice a l.length c, .int .i64 x] w (BoolsPost w (M.meetV l x) (M.askM l x)) := by
  have H := Lib.hid h
  clear h
  go_enter Try.func14, Try.ntmps14
  go_wp2_with fail
  refine (isClutter_any w lo hi a c l H.out hz hl).mono ?_
  rintro e w1 ⟨rfl, hb1⟩
  have HB1 := Lib.hid hb1
  have hz1 := hb1.size
  clear hb1
  cases qc : M.isCluB l with
  | false =>
    have HA : Hid (M.askM l x = false) := Lib.hid (by unfold M.askM; rw [qc]; rfl)
    have HV : Hid (M.meetV l x = false) := Lib.hid (by unfold M.meetV; rw [HA.out]; rfl)
    clear qc
    go_wp2_with fail
    go_ret2
    rw [HA.out, HV.out]
    exact ⟨rfl, HB1.out⟩
  | true =>
    have HQ := Lib.hid qc
    clear qc
    go_wp2_with fail
    refine (isSet_any _ _).mono ?_
    rintro e w2 ⟨rfl, rfl⟩
    cases qs : M.setB x with
    | false =>
      have HA : Hid (M.askM l x = false) := Lib.hid (by unfold M.askM; rw [qs, Bool.and_false])
      have HV : Hid (M.meetV l x = false) := Lib.hid (by unfold M.meetV; rw [HA.out]; rfl)
      clear qs
      go_wp2_with fail
      go_ret2
      rw [HA.out, HV.out]
      exact ⟨rfl, HB1.out⟩
    | true =>
      have HA : Hid (M.askM l x = true) := Lib.hid (by unfold M.askM; rw [qs, HQ.out]; rfl)
      have HV : Hid (M.meetV l x = M.meetB l x) := Lib.hid (by unfold M.meetV; rw [HA.out]; rfl)
      clear qs
      go_wp2_with fail
      refine (meets_any w1 lo hi a c l x (H.out.below HB1.out hz) (by omega) hl).mono ?_
      rintro e w3 ⟨rfl, hb3⟩
      generalize M.meetB l x = q at *
      go_wp2_with fail
      go_ret2
      rw [HA.out, HV.out]
      exact ⟨rfl, HB1.out.trans (hb3.mono hz1)⟩
theorem dual1_any (w : World) (B : Nat) (lo hi : Nat) (a : Option Addr) (c : Nat) (l : List Int) (s : M.St6) (hc : w.cell? ⟨B, 0, none⟩ = some (.slice a l.length c)) (h : RowIn lo hi w a (M.encIs l)) (hz : hi ≤ w.heap.size) (hl : l.length ≤ 1048576) :
    Calls Try.prog 18 (#[] ++ #[.int .i64 (s.val : Int)] ++ #[.pointer (some ⟨B, 0, none⟩)]) w (BoolPost w (M.meetF l s)) := by
  have H := Lib.hid h
  have HME := Lib.hid (meets_any w lo hi a c l (s.val : Int) h hz hl)
  have HQ : Hid (M.meetB l (s.val : Int) = M.meetF l s) := Lib.hid rfl
  clear h
  rw [HQ.out] at HME
  generalize M.meetF l s = q at *
  go_enter Try.func18, Try.ntmps18
  go_wp2_with fail
  refine HME.out.mono ?_
  rintro e w1 ⟨rfl, hb1⟩
  go_wp2_with fail
  go_ret
  exact ⟨rfl, hb1⟩
theorem implDu_lw (w : World) (lo hi : Nat) (a : Option Addr) (c : Nat) (l : List Int) (h : RowIn lo hi w a (M.encIs l)) (hz : hi ≤ w.heap.size) (hl : l.length ≤ 1048576) (_u1 : l.length ≤ c) (_u2 : c ≤ 9223372036854775807) (_u3 : ∀ z ∈ l, -9223372036854775808 ≤ z ∧ z ≤ 9223372036854775807) :
    Calls Try.prog 6 #[.slice a l.length c] w (IntsOkPost w (M.dualV l) (M.isCluB l)) := by
  have H := Lib.hid h
  clear h
  go_enter Try.func6, Try.ntmps6
  go_wp2_with fail
  refine named ?_
  intro W hW
  have hb : Below w.heap.size w W := by rw [hW]; exact below_alloc _ _
  have hc : W.cell? ⟨w.heap.size, 0, none⟩ = some (.slice a l.length c) := by rw [hW]; simp
  have hsz : w.heap.size < W.heap.size := by rw [hW]; simp
  clear hW
  refine (isClutter_any W lo hi a c l (H.out.below hb hz) (by omega) hl).mono ?_
  rintro e w1 ⟨rfl, hb1⟩
  have HB1 := Lib.hid (hb.trans (hb1.mono hb.size))
  have hz1 := hb1.size
  have hc1 : w1.cell? ⟨w.heap.size, 0, none⟩ = some (.slice a l.length c) := (hb1.cell (p := ⟨w.heap.size, 0, none⟩) hsz).trans hc
  have hsz1 : w.heap.size < w1.heap.size := by omega
  clear hb hb1 hc
  cases qc : M.isCluB l with
  | false =>
    have HF := Lib.hid (M.dualV_no qc)
    have HQ := Lib.hid qc
    clear qc
    go_wp2_with fail
    go_ret2
    rw [HF.out, HQ.out]
    exact intsOk_end (l := []) (ownsRow_empty _ _ _ _ (by omega)) (HB1.out.alloc (by omega) _)
  | true =>
    have HQ := Lib.hid qc
    have HLS : Hid (M.cluV (M.intsF (M.selF (M.meetF l))) = M.dualV l) := Lib.hid (by rw [M.least_sel (M.meetF_more (M.clu_keys qc)), M.dualV_yes qc])
    have HKB := Lib.hid (M.keysB_intsF (M.selF (M.meetF l)))
    have hl64 := M.selTo_len (M.meetF l) 64
    have HSE := Lib.hid (setsWith_any 18 #[] #[.pointer (some ⟨w.heap.size, 0, none⟩)] (M.meetF l) (enters_of Try.func18 (by kernel_rfl) rfl) w1 (fun W' s hq => dual1_any W' w.heap.size lo hi a c l s ((hq.cell (p := ⟨w.heap.size, 0, none⟩) hsz1).trans hc1) (H.out.below (HB1.out.trans (hq.mono (by omega))) hz) (by have := hq.size; omega) hl))
    clear qc
    go_wp2_with fail
    refine HSE.out.mono ?_
    rintro e w2 ⟨ra, rc, rfl, ho, ho1, ho2, hb2⟩
    have HO := Lib.hid ho
    have HB2 := Lib.hid (HB1.out.trans (hb2.mono (by omega)))
    have hz2' := hb2.size
    have hll : (M.intsF (M.selF (M.meetF l))).length ≤ 1048576 := by rw [M.intsF_len]; show (M.selTo (M.meetF l) 64).length ≤ _; omega
    clear ho hb2 HSE
    generalize M.intsF (M.selF (M.meetF l)) = L at *
    go_wp2_with fail
    refine (clutterOf_any w2 _ _ ra rc L HO.out.row (Nat.le_refl _) hll).mono ?_
    rintro e w3 ⟨qa, qd, rfl, hp, hp1, hp2, hb3⟩
    rw [HLS.out] at hp hp1 ⊢
    have HP := Lib.hid hp
    have HB3 := Lib.hid (HB2.out.trans (hb3.mono (by omega)))
    clear hp hb3
    rw [HKB.out]
    generalize M.dualV l = R at *
    go_wp2_with fail
    go_ret2
    rw [HQ.out]
    exact ⟨qa, qd, rfl, HP.out.mono (by omega) (Nat.le_refl _), hp1, hp2, HB3.out⟩
end C
end Go.Proofs.Ytkkfmleoamhgkaa
