/-
  CONTRACTS of slices.Index, ColoursOf and placeOf of the program. No condition.
-/
import Derived.Test.YtddpjjdncmokmaaSwapS
import Derived.Test.YtddpjjdncmokmaaWBDigitsI
namespace Go.Proofs.Ytddpjjdncmokmaa
open Go.RowKit
namespace C
set_option linter.unusedVariables false
set_option maxHeartbeats 3200000
set_option maxRecDepth 20000
theorem index9_any (w : World) (lo hi : Nat) (a : Option Addr) (c : Nat) (l : List Int) (x : Int) (h : RowIn lo hi w a (M.encIs l)) (hl : l.length ≤ 1048576) :
    Calls Try.prog 114 #[.slice a l.length c, .int .i64 x] w fun e w' => e = .returned (.int .i64 (M.idxV l x)) ∧ w = w' := by
  have H := Lib.hid h
  have HIN := Lib.hid (fun k (hk : k < l.length) (hx : l[k] = x) (hall : ∀ j (hj : j < l.length), j < k → l[j] ≠ x) => show M.idxV l x = (k : Int) from by
    rw [M.idxV_yes (by unfold M.memB; rw [List.contains_iff_mem]; exact hx ▸ List.getElem_mem hk), M.place_eq9 hk hx hall])
  have HOUT := Lib.hid (fun (hall : ∀ j (hj : j < l.length), l[j] ≠ x) => show M.idxV l x = -1 from by
    refine M.idxV_no (by
      cases hm : M.memB l x with
      | false => rfl
      | true =>
        obtain ⟨j, hj, e⟩ := List.mem_iff_getElem.1 (M.memB_true hm)
        exact absurd e (hall j hj)))
  clear h
  go_enter Try.func114, Try.ntmps114
  go_wp2_with fail
  go_loop [5, 8] (fun _ i => ∃ (k : Nat), k ≤ l.length ∧ i = .int .i64 k ∧ ∀ j (hj : j < l.length), j < k → l[j] ≠ x) (fun _ i => l.length - (intOf i).toNat)
  case atStart => exact ⟨0, Nat.zero_le _, rfl, fun j _ h => by omega⟩
  case round =>
    obtain ⟨k, hk, rfl, hall⟩ := hrel
    have HA := Lib.hid hall
    clear hall
    by_cases hlt : k < l.length
    · obtain ⟨b, off, rfl, _, _, hc0⟩ := H.out.at_ (k := k) (by rw [M.encIs_len]; exact hlt)
      have hc := hc0 k _ (M.encIs_at hlt)
      clear hc0
      by_cases hx : l[k] = x
      · have HE := Lib.hid (HIN.out k hlt hx HA.out)
        have hx2 : (x == l[k]) = true := by rw [beq_iff_eq]; exact hx.symm
        have HX := Lib.hid hx
        clear hx
        generalize l[k] = y at *
        go_wp2_with fail
        go_ret
        exact ⟨by rw [HE.out]; rfl, rfl⟩
      · have hx2 : (x == l[k]) = false := by rw [beq_eq_false_iff_ne]; exact fun e => hx e.symm
        have HN := Lib.hid (fun j (hj : j < l.length) (hjk : j < k + 1) => show l[j] ≠ x from by
          rcases Nat.lt_or_ge j k with h | h
          · exact HA.out j hj h
          · obtain rfl : j = k := by omega
            exact hx)
        clear hx
        generalize l[k] = y at *
        go_wp2_with fail
        go_round
        case rel => exact ⟨k + 1, by omega, by go_num, HN.out⟩
        case measure => simp [intOf]; omega
    · obtain rfl : k = l.length := by omega
      have HE := Lib.hid (HOUT.out fun j hj => HA.out j hj hj)
      go_wp2_with fail
      go_ret
      exact ⟨by rw [HE.out]; rfl, rfl⟩
theorem coloursI_any (s : Int) (w : World) : Calls Try.prog 113 #[.int .i64 s] w (IntsOkPost w (M.colours s) (M.setB s)) := by
  cases qs : M.setB s with
  | false =>
    have HV : Hid (M.colours s = []) := Lib.hid (by unfold M.colours; rw [qs]; rfl)
    have HS := Lib.hid (fun W => isSet_any s W)
    rw [qs] at HS
    clear qs
    go_enter Try.func113, Try.ntmps113
    go_wp2_with fail
    refine (HS.out _).mono ?_
    rintro e w2 ⟨rfl, rfl⟩
    go_wp2_with fail
    go_ret2
    rw [HV.out]
    exact intsOk_end (l := []) (ownsRow_empty _ _ _ _ (Nat.le_refl _)) (below_alloc _ _)
  | true =>
    have h' := M.setB_iff.1 qs
    have HD := Lib.hid (fun W => show Calls Try.prog 58 #[.int .i64 s] W (IntsPost W (M.colours s)) from by
      have h := digits_any s.toNat (by omega) W
      rw [M.colours12 qs] at h
      rwa [show ((s.toNat : Nat) : Int) = s from by omega] at h)
    have HS := Lib.hid (fun W => isSet_any s W)
    rw [qs] at HS
    clear qs
    go_enter Try.func113, Try.ntmps113
    go_wp2_with fail
    refine (HS.out _).mono ?_
    rintro e w2 ⟨rfl, rfl⟩
    go_wp2_with fail
    refine (HD.out _).mono ?_
    rintro e w3 ⟨qa, qc, rfl, ho, h1, h2, hb⟩
    have HO := Lib.hid ho
    have HB := Lib.hid hb
    clear ho hb
    go_wp2_with fail
    go_ret2
    exact ⟨qa, qc, rfl, HO.out, h1, h2, HB.out⟩
theorem placeOf_any (s x : Int) (w : World) : Calls Try.prog 81 #[.int .i64 s, .int .i64 x] w fun e w' => e = .returned (.int .i64 (M.idxV (M.colours s) x)) ∧ Below w.heap.size w w' := by
  have hm6 := M.many_le s
  have hcl6 : (M.colours s).length ≤ 1048576 := by unfold M.manyC at hm6; omega
  go_enter Try.func81, Try.ntmps81
  go_wp2_with fail
  refine (coloursI_any s _).mono ?_
  rintro e w2 ⟨qa, qc, rfl, ho, h1, h2, hb⟩
  have HI := Lib.hid (index9_any w2 _ _ qa qc (M.colours s) x ho.row hcl6)
  have HB := Lib.hid hb
  clear ho hb
  go_wp2_with fail
  refine HI.out.mono ?_
  rintro e w3 ⟨rfl, rfl⟩
  go_wp2_with fail
  go_ret
  exact ⟨rfl, HB.out⟩
end C
end Go.Proofs.Ytddpjjdncmokmaa
