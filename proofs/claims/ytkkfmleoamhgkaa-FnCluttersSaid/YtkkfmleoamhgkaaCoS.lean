/-
  CONTRACT of the model's ClutterOf; what lay in memory stays. Condition: a list of at most 1048576 numbers that reads so.
-/
import Derived.Test.YtkkfmleoamhgkaaCuM
import Derived.Test.YtkkfmleoamhgkaaLstS
import Derived.Test.YtkkfmleoamhgkaaOpenTo
import Derived.Laws.MakeOwn
import Derived.OwnWalk
namespace Go.Proofs.Ytkkfmleoamhgkaa
open Go.RowKit
namespace M
theorem boolsF_set {P P' : St6 → Bool} {k : Nat} (h : k < 64) (hn : ∀ s : St6, s.val ≠ k → P' s = P s) : (encBs (boolsF P)).set k (.bool (P' ⟨k, h⟩)) = encBs (boolsF P') := by
  refine List.ext_getElem? fun i => ?_
  rcases Decidable.em (k = i) with rfl | hne
  · rw [List.getElem?_set_self (by rw [encBs_len, boolsF_len]; exact h), boolsF_at P' ⟨k, h⟩]
  · rw [List.getElem?_set_ne hne]
    rcases Nat.lt_or_ge i 64 with hi | hi
    · rw [boolsF_at P ⟨i, hi⟩, boolsF_at P' ⟨i, hi⟩, hn ⟨i, hi⟩ (fun e => hne e.symm)]
    · rw [List.getElem?_eq_none (by rw [encBs_len, boolsF_len]; exact hi), List.getElem?_eq_none (by rw [encBs_len, boolsF_len]; exact hi)]
/-- what is told behind i elements and k sets of the next one -/
def coP (sl : List St6) (a : St6) (k : Nat) (s : St6) : Bool := hasOneB sl s || (decide (s.val < k) && subF a s)
theorem coP_zero (sl : List St6) (a : St6) : coP sl a 0 = hasOneB sl := by funext s; unfold coP; simp
theorem coP_all (sl : List St6) (a : St6) : coP sl a 64 = hasOneB (sl ++ [a]) := by
  funext s
  unfold coP hasOneB
  rw [List.any_append, decide_eq_true s.isLt]
  simp
theorem coP_other (sl : List St6) (a : St6) {k : Nat} {s : St6} (h : s.val ≠ k) : coP sl a (k + 1) s = coP sl a k s := by
  unfold coP
  congr 2
  rw [Bool.eq_iff_iff, decide_eq_true_iff, decide_eq_true_iff]
  omega
theorem coP_here (sl : List St6) (a : St6) {k : Nat} (h : k < 64) : coP sl a (k + 1) ⟨k, h⟩ = (coP sl a k ⟨k, h⟩ || subF a ⟨k, h⟩) := by
  unfold coP
  rw [show decide ((⟨k, h⟩ : St6).val < k + 1) = true from decide_eq_true (Nat.lt_succ_self k), show decide ((⟨k, h⟩ : St6).val < k) = false from decide_eq_false (Nat.lt_irrefl k)]
  simp
end M
namespace C
set_option maxHeartbeats 3200000
set_option maxRecDepth 20000
theorem made_false : (madeCells (Value.bool false).cells (64 * 1)).toList = M.encBs (M.boolsF (M.hasOneB [])) := by
  refine List.ext_getElem? fun k => ?_
  rcases Nat.lt_or_ge k 64 with h | h
  · rw [M.boolsF_at (M.hasOneB []) ⟨k, h⟩]
    unfold madeCells
    simp [h, Value.cells, Nat.mod_one, M.hasOneB]
  · rw [List.getElem?_eq_none (l := M.encBs _) (by rw [M.encBs_len, M.boolsF_len]; exact h)]
    unfold madeCells
    simp [h]
theorem make_runB {i : TypeInfo} (hi : Try.prog.info? 4 = some i) (hz : i.zero = some (.bool false)) (hs : i.size = 1) (hb : i.bytes = 1) : ∃ zs : Array Value, zs.size = 64 ∧ zs.toList = M.encBs (M.boolsF (M.hasOneB [])) ∧ ∀ w : World,
    (Instr.makeSlice 37 (.int .i64 64) (.int .i64 64)).run Try.prog w = .ok (.slice (some ⟨w.heap.size, 0, none⟩) 64 64) (w.alloc (.cells zs 4)) := by
  refine ⟨madeCells (Value.bool false).cells (64 * 1), by rw [size_madeCells], made_false, fun w => ?_⟩
  have := run_make (P := Try.prog) w 37 4 i (.bool false) Try.underlying37 hi hz .i64 .i64 64 64 (by omega) (Int.le_refl _) (by rw [hb]; omega) (by omega)
  rw [hs] at this
  exact this
theorem has2_sub2 : ∀ a b : M.St6, M.has2B (a.val : Int) (b.val : Int) = M.subF b a := by decide +kernel
theorem specCo_lw (w : World) (lo hi : Nat) (a : Option Addr) (c : Nat) (l : List Int) (h : RowIn lo hi w a (M.encIs l)) (hz : hi ≤ w.heap.size) (_hl : l.length ≤ 1048576) (_u1 : l.length ≤ c) (_u2 : c ≤ 9223372036854775807) (_u3 : ∀ z ∈ l, -9223372036854775808 ≤ z ∧ z ≤ 9223372036854775807) :
    Calls Try.prog 12 #[.slice a l.length c] w (IntsOkPost w (M.cluV l) (M.keysB l)) := by
  obtain ⟨bi0, bhi0, bhz0, bhz1, bhz2⟩ := info_parts infoB
  obtain ⟨zs, hzs, hzl, hmk⟩ := make_runB bhi0 bhz0 bhz1 bhz2
  have H := Lib.hid h
  clear h
  have HNO := Lib.hid (fun (i : Nat) (hi : i < l.length) (hq : M.setB l[i] = false) => show M.keysB l = false from M.keysB_no hi hq)
  have HEND := Lib.hid (fun sl (hs : l = M.intsF sl) => show M.keysB l = true ∧ M.cluV l = M.intsF (M.leastF (M.hasOneB sl)) from by subst hs; exact ⟨M.keysB_intsF sl, by rw [M.cluV_intsF, M.least_list]⟩)
  have HZL := Lib.hid hzl
  clear hzl
  go_enter Try.func12, Try.ntmps12
  go_wp2_with fail
  refine wp_named ?_
  intro W2 hW2
  have hb2 : Below w.heap.size w W2 := by rw [hW2]; exact below_alloc _ _
  have o2 : OwnAt w.heap.size (w.heap.size + 1) W2 4 (some ⟨w.heap.size, 0, none⟩) (M.encBs (M.boolsF (M.hasOneB []))) := by
    rw [hW2]
    exact .inr ⟨w.heap.size, 0, zs, rfl, Nat.le_refl _, Nat.lt_succ_self _, heap_alloc_new w _, fun i u hu => by rw [Nat.zero_add, ← HZL.out] at *; simpa using hu⟩
  have hs2 : w.heap.size + 1 ≤ W2.heap.size := by rw [hW2]; simp
  have ST := Lib.hid (And.intro o2 (And.intro hb2 hs2))
  clear hW2 hb2 o2 hs2 hmk
  go_loopw [5, 6] (fun v5 _ wr => ∃ (i : Nat) (sl : List M.St6), i ≤ l.length ∧ v5 = .int .i64 i ∧ l.take i = M.intsF sl ∧ OwnAt w.heap.size (w.heap.size + 1) wr 4 (some ⟨w.heap.size, 0, none⟩) (M.encBs (M.boolsF (M.hasOneB sl))) ∧ Below w.heap.size w wr ∧ w.heap.size + 1 ≤ wr.heap.size) (fun v5 _ _ => l.length - (intOf v5).toNat)
  case atStart => exact ⟨0, [], Nat.zero_le _, rfl, rfl, ST.out.1, ST.out.2.1, ST.out.2.2⟩
  case round =>
    obtain ⟨i, sl, hi1, rfl, htk, hown, hlow, hsz⟩ := hrel
    obtain ⟨wo, hwo⟩ : ∃ x, x = wr := ⟨_, rfl⟩
    subst hwo
    have HT := Lib.hid htk
    have HO := Lib.hid hown
    have HL := Lib.hid hlow
    have hzl' := hlow.size
    clear htk hown hlow
    by_cases hil : i < l.length
    · have hrow := H.out.below HL.out hz
      obtain ⟨b, off, hab, hbl1, hbl2, hc0⟩ := hrow.at_ (k := i) (by rw [M.encIs_len]; exact hil)
      have x0 := hc0 _ _ (M.encIs_at hil)
      have hbw : b < w.heap.size := by omega
      have HNO2 := Lib.hid (HNO.out i hil)
      have HTK := Lib.hid (List.take_succ_eq_append_getElem hil)
      clear hc0 hrow
      subst hab
      generalize l[i] = x at *
      cases hq : M.setB x with
      | false =>
        have HF := Lib.hid (HNO2.out hq)
        have HV := Lib.hid (M.cluV_no HF.out)
        have HSX := Lib.hid (show Calls Try.prog 32 #[.int .i64 x] wo fun e w' => e = .returned (.bool false) ∧ wo = w' from by have := l2Set_any x wo; rwa [hq] at this)
        clear hq
        go_wp2_with fail
        refine HSX.out.mono ?_
        rintro e w3 ⟨rfl, rfl⟩
        go_wp2_with fail
        go_ret2
        rw [HV.out, HF.out]
        exact intsOk_end (l := []) (ownsRow_empty _ _ _ _ (by omega)) (HL.out.alloc (by omega) _)
      | true =>
        have HSX := Lib.hid (show Calls Try.prog 32 #[.int .i64 x] wo fun e w' => e = .returned (.bool true) ∧ wo = w' from by have := l2Set_any x wo; rwa [hq] at this)
        have hx64 := M.setB_iff.1 hq
        obtain ⟨s, rfl⟩ : ∃ s : M.St6, x = (s.val : Int) := ⟨⟨x.toNat, by omega⟩, by show x = ((x.toNat : Nat) : Int); omega⟩
        have HTN : Hid (l.take (i + 1) = M.intsF (sl ++ [s])) := Lib.hid (by rw [HTK.out, HT.out, M.intsF_snoc])
        have HC0 := Lib.hid (M.coP_zero sl s)
        have HC6 := Lib.hid (M.coP_all sl s)
        clear hq hx64 HNO2
        go_wp2_with fail
        refine HSX.out.mono ?_
        rintro e w3 ⟨rfl, rfl⟩
        go_wp2_with fail
        go_loopw [6] (fun v6 wr => ∃ (k : Nat), k ≤ 64 ∧ v6 = .int .i64 k ∧ OwnAt w.heap.size (w.heap.size + 1) wr 4 (some ⟨w.heap.size, 0, none⟩) (M.encBs (M.boolsF (M.coP sl s k))) ∧ Below w.heap.size w wr ∧ w.heap.size + 1 ≤ wr.heap.size) (fun v6 _ => 64 - (intOf v6).toNat)
        case atStart => exact ⟨0, Nat.zero_le _, rfl, by rw [HC0.out]; exact HO.out, HL.out, hsz⟩
        case round =>
          obtain ⟨k, hk, rfl, hok, hlk, hsk⟩ := hrel
          have OK := Lib.hid hok
          have LK := Lib.hid hlk
          clear hok hlk
          by_cases hkl : k < 64
          · have hk2 : k < (M.encBs (M.boolsF (M.coP sl s k))).length := by rw [M.encBs_len, M.boolsF_len]; exact hkl
            have d0 : wr.cell? ⟨w.heap.size, k, none⟩ = some (.bool (M.coP sl s k ⟨k, hkl⟩)) := by
              obtain ⟨u, hu, hc, _⟩ := OK.out.cell0 hk2
              rw [M.boolsF_at (M.coP sl s k) ⟨k, hkl⟩] at hu
              injection hu with hu
              rw [hc, hu]
            have f0 : wr.frozen? ⟨w.heap.size, k, none⟩ = false := OK.out.free rfl hk2 k
            have y0 : wr.cell? ⟨b, off + i, none⟩ = some (.int .i64 (s.val : Int)) := by
              have h1 := HL.out.cell (p := ⟨b, off + i, none⟩) hbw
              have h2 := LK.out.cell (p := ⟨b, off + i, none⟩) hbw
              rw [h2, ← h1]; exact x0
            have HSET := Lib.hid (fun v (hv : M.coP sl s (k + 1) ⟨k, hkl⟩ = v) => show OwnAt w.heap.size (w.heap.size + 1) (wr.setCell ⟨w.heap.size, k, none⟩ (.bool v)) 4 (some ⟨w.heap.size, 0, none⟩) (M.encBs (M.boolsF (M.coP sl s (k + 1)))) from by
              have := OK.out.set_ rfl k (.bool v)
              rw [Nat.zero_add, ← hv, M.boolsF_set hkl (fun s' hne => M.coP_other sl s hne)] at this
              rw [← hv]
              exact this)
            have HLS := Lib.hid (fun v => LK.out.setCell (p := ⟨w.heap.size, k, none⟩) (Nat.le_refl _) v)
            have HHE := Lib.hid (M.coP_here sl s hkl)
            have HH0 := Lib.hid (fun W => l2Has_any (k : Int) (s.val : Int) W)
            have HHQ : Hid (M.has2B (k : Int) (s.val : Int) = M.subF s ⟨k, hkl⟩) := Lib.hid (has2_sub2 ⟨k, hkl⟩ s)
            rw [HHQ.out] at HH0
            have hsz2 : ∀ v, (wr.setCell ⟨w.heap.size, k, none⟩ v).heap.size = wr.heap.size := fun v => by simp [World.setCell]
            clear hk2
            rw [HHE.out] at HSET
            cases hp : M.coP sl s k ⟨k, hkl⟩ with
            | true =>
              rw [hp] at d0 HSET
              have HS2 := Lib.hid (HSET.out true rfl)
              clear hp HSET
              go_wp2_with fail
              go_roundw
              case rel => exact ⟨k + 1, by omega, by go_num, HS2.out, HLS.out _, by rw [hsz2]; exact hsk⟩
              case measure => simp [intOf]; omega
            | false =>
              rw [hp] at d0 HSET
              have HS2 := Lib.hid (HSET.out _ (Bool.false_or _))
              clear hp HSET
              generalize M.subF s ⟨k, hkl⟩ = q at *
              go_wp2_with fail
              refine (HH0.out _).mono ?_
              rintro e w5 ⟨rfl, rfl⟩
              go_wp2_with fail
              go_roundw
              case rel => exact ⟨k + 1, by omega, by go_num, HS2.out, HLS.out _, by rw [hsz2]; exact hsk⟩
              case measure => simp [intOf]; omega
          · obtain rfl : k = 64 := by omega
            go_wp2_with fail
            go_roundw
            case rel => exact ⟨i + 1, sl ++ [s], by omega, by go_num, HTN.out, by rw [← HC6.out]; exact OK.out, LK.out, hsk⟩
            case measure => simp [intOf]; omega
    · obtain rfl : i = l.length := by omega
      have htl := HT.out
      rw [List.take_of_length_le (Nat.le_refl _)] at htl
      obtain ⟨h1, h2⟩ := HEND.out sl htl
      have HQ := Lib.hid h1
      have HLS := Lib.hid h2
      clear htl h1 h2
      go_wp2_with fail
      refine (l6Least_any wo _ _ _ 64 (M.hasOneB sl) HO.out.row hsz (Nat.le_refl _) (by omega)).mono ?_
      rintro e w3 ⟨qa, qd, rfl, hp, hp1, hp2, hb3⟩
      rw [← HLS.out] at hp hp1 ⊢
      have HP := Lib.hid hp
      have HB3 := Lib.hid (HL.out.trans (hb3.mono (by omega)))
      clear hp hb3
      generalize M.cluV l = R at *
      go_wp2_with fail
      go_ret2
      rw [HQ.out]
      exact ⟨qa, qd, rfl, HP.out.mono (by omega) (Nat.le_refl _), hp1, hp2, HB3.out⟩
end C
end Go.Proofs.Ytkkfmleoamhgkaa
