/-
  CONTRACT of impl.ClutterOf: the clutter of a list of sets, in memory of its own, or an empty one and false; what lay in memory stays. Condition: a list of at most 1048576 numbers that reads so.
-/
import Derived.Test.YtkkfmleoamhgkaaSrtS
import Derived.Test.YtkkfmleoamhgkaaOwnQ
import Derived.Test.YtkkfmleoamhgkaaClone
import Derived.Test.YtkkfmleoamhgkaaOpenTo
import Derived.Deep.LoopGhost
import Derived.WalkMore
namespace Go.Proofs.Ytkkfmleoamhgkaa
open Go.RowKit
namespace M
def cluV (l : List Int) : List Int := if keysB l then intsF (cluF (setsOf l)) else []
theorem cluV_no {l : List Int} (h : keysB l = false) : cluV l = [] := by unfold cluV; rw [h]; rfl
theorem keysB_sets {l : List Int} (h : keysB l = true) : ∀ z ∈ l, 0 ≤ z ∧ z < 64 := fun z hz => by
  obtain ⟨k, hk, rfl⟩ := List.mem_iff_getElem.1 hz
  have := keysB_iff.1 h k hk
  unfold setB at this
  exact decide_eq_true_iff.1 this
theorem cluV_yes {l : List Int} (h : keysB l = true) : ∃ sl, l = intsF sl ∧ cluV l = intsF (cluF sl) :=
  ⟨setsOf l, (intsF_setsOf (keysB_sets h)).symm, by unfold cluV; rw [if_pos h]⟩
theorem keysB_intsF (sl : List St6) : keysB (intsF sl) = true := by
  unfold keysB
  rw [List.all_eq_true]
  intro x hx
  unfold setB
  exact decide_eq_true (mem_intsF hx)
theorem setsOf_intsF (sl : List St6) : setsOf (intsF sl) = sl := intsF_inj (intsF_setsOf fun _ h => mem_intsF h)
theorem cluV_intsF (sl : List St6) : cluV (intsF sl) = intsF (cluF sl) := by unfold cluV; rw [if_pos (keysB_intsF sl), setsOf_intsF]
theorem any_keysB (l : List Int) : (l.any fun n => !setB n) = !keysB l := by
  unfold keysB
  induction l with
  | nil => rfl
  | cons x l ih => rw [List.any_cons, List.all_cons, ih, Bool.not_and]
theorem hasB_sub : ∀ s t : St6, hasB (s.val : Int) (t.val : Int) = subF t s := by decide +kernel
theorem keepAll_len (l : List St6) : (keepAll l).length ≤ l.length := by
  induction l using snoc_ind with
  | h0 => exact Nat.le_refl _
  | h1 l s ih =>
    rw [keepAll_snoc, List.length_append]
    unfold keep1
    split
    · exact Nat.le_trans ih (Nat.le_add_right _ _)
    · rw [List.length_append]; simp; exact ih
theorem cluF_len (l : List St6) : (cluF l).length ≤ l.length := by
  have := keepAll_len (srtS l)
  rw [(srtS_perm l).length_eq] at this
  exact this
theorem nodup_asc {l : List St6} (h : Asc ltS l) : l.Nodup := by
  refine List.Pairwise.imp (fun {a b} hab => ?_) h
  rintro rfl
  rw [ordS.irrefl] at hab
  cases hab
theorem asc_len {l : List St6} (h : Asc ltS l) : l.length ≤ 64 := by
  have := (nodup_asc h).length_le_of_subset (l₂ := List.finRange 64) (fun x _ => List.mem_finRange x)
  rwa [List.length_finRange] at this
end M
namespace C
set_option maxHeartbeats 3200000
set_option maxRecDepth 20000
theorem cluPred_any (x : Int) (w : World) : Calls Try.prog 26 #[.int .i64 x] w fun e w' => e = .returned (.bool (!M.setB x)) ∧ w = w' := by
  go_enter Try.func26, Try.ntmps26
  go_wp2_with fail
  refine (isSet_any _ _).mono ?_
  rintro e w1 ⟨rfl, rfl⟩
  go_wp2_with fail
  go_ret
  exact ⟨rfl, rfl⟩
theorem clutterOf_any (w : World) (lo hi : Nat) (a : Option Addr) (c : Nat) (l : List Int) (h : RowIn lo hi w a (M.encIs l)) (hz : hi ≤ w.heap.size) (hl : l.length ≤ 1048576) :
    Calls Try.prog 11 #[.slice a l.length c] w (IntsOkPost w (M.cluV l) (M.keysB l)) := by
  obtain ⟨ii0, hi0, hz0, hzz1, hz2⟩ := info_parts infoI
  have H := Lib.hid h
  clear h
  have HAK := Lib.hid (M.any_keysB l)
  go_enter Try.func11, Try.ntmps11
  go_wp2_with fail
  go_step3
  go_wp2_with fail
  refine (containsFunc_any 26 #[] (fun n => !M.setB n) (enters_of Try.func26 (by kernel_rfl) rfl) w lo hi a c l (fun W' z hb' => (cluPred_any z W').mono fun e w' ⟨h1, h2⟩ => ⟨h1, h2 ▸ Below.refl _ _⟩) H.out hz hl).mono ?_
  rintro e w1 ⟨rfl, hb1⟩
  rw [HAK.out]
  have HB1 := Lib.hid hb1
  have hz1 := hb1.size
  clear hb1
  cases q0 : M.keysB l with
  | false =>
    have HV := Lib.hid (M.cluV_no q0)
    have HF := Lib.hid q0
    clear q0
    go_wp2_with fail
    go_ret2
    rw [HV.out, HF.out]
    exact intsOk_end (l := []) (ownsRow_empty _ _ _ _ (by omega)) (HB1.out.alloc (by omega) _)
  | true =>
    obtain ⟨sl, rfl, hcv⟩ := M.cluV_yes q0
    have HV := Lib.hid hcv
    clear q0 hcv HAK
    rw [M.intsF_len] at hl ⊢
    have HCL := Lib.hid (cloneInts_any w1 lo hi a c (M.intsF sl) (H.out.below HB1.out hz) (by omega) (by rw [M.intsF_len]; exact hl))
    rw [M.intsF_len] at HCL
    go_wp2_with fail
    refine HCL.out.mono ?_
    rintro e w2 ⟨ca, cc, rfl, ho, ho1, ho2, hb2⟩
    rw [M.intsF_len] at ho1 ⊢
    have hz2' := hb2.size
    have HB2 := Lib.hid (HB1.out.trans (hb2.mono hz1))
    have HO := Lib.hid ho
    clear hb2 ho HCL
    go_wp2_with fail
    refine (sortSets_any w2 _ _ ca cc sl HO.out hl).mono ?_
    rintro e w3 ⟨rfl, ho3, ht3⟩
    have hz3 := ht3.size
    have HB3 := Lib.hid (C.Below.thenTurned HB2.out ht3 hz1 (by omega))
    have HO3 := Lib.hid ho3
    have hsl : (M.srtS sl).length = sl.length := (M.srtS_perm sl).length_eq
    have HKT := Lib.hid (fun (k : Nat) (hk : k < (M.srtS sl).length) => M.keepAll_take hk)
    have HKL := Lib.hid (fun (k : Nat) => M.keepAll_len ((M.srtS sl).take k))
    have HEND : Hid (M.keepAll (M.srtS sl) = M.cluF sl) := Lib.hid rfl
    clear ho3 ht3 HO
    generalize M.srtS sl = so at *
    go_wp2_with fail
    refine wp_named ?_
    intro W4 hW4
    have hb4 : Below w3.heap.size w3 W4 := by rw [hW4]; exact below_alloc _ _
    have o4 : W4.ownsRow w3.heap.size 3 1 (.slice (some ⟨w3.heap.size, 0, none⟩) 0 0) (M.keepAll (so.take 0)).length (M.encIs (M.intsF (M.keepAll (so.take 0)))) := by rw [hW4]; exact ownsRow_empty _ _ _ _ (Nat.le_refl _)
    have ST := Lib.hid (show W4.ownsRow w3.heap.size 3 1 (.slice (some ⟨w3.heap.size, 0, none⟩) 0 0) (M.keepAll (so.take 0)).length (M.encIs (M.intsF (M.keepAll (so.take 0)))) ∧ OwnAt w1.heap.size w2.heap.size W4 3 ca (M.encIs (M.intsF so)) ∧ Below w.heap.size w W4 ∧ w3.heap.size ≤ W4.heap.size from ⟨o4, HO3.out.below hb4 hz3, HB3.out.trans (hb4.mono HB3.out.size), hb4.size⟩)
    clear hW4 hb4 o4
    go_step3
    go_wp2_with fail
    go_loopg [5, 20] so.length (fun g v5 v20 wr => ∃ (k : Nat), k + g = so.length ∧ v20 = .int .i64 k ∧ wr.ownsRow w3.heap.size 3 1 v5 (M.keepAll (so.take k)).length (M.encIs (M.intsF (M.keepAll (so.take k)))) ∧ OwnAt w1.heap.size w2.heap.size wr 3 ca (M.encIs (M.intsF so)) ∧ Below w.heap.size w wr ∧ w3.heap.size ≤ wr.heap.size)
    case atStart => exact ⟨0, by omega, rfl, ST.out.1, ST.out.2.1, ST.out.2.2.1, ST.out.2.2.2⟩
    case round =>
      obtain ⟨k, hk, rfl, hso, hro, hlow, hsz⟩ := hrel
      obtain ⟨la, lc, hv, hl1, hl2, hrow0⟩ := own_slice hso
      subst hv
      have SO := Lib.hid hso
      have HRW := Lib.hid hrow0
      have RO := Lib.hid hro
      have LO := Lib.hid hlow
      have hzr := hlow.size
      have hkl64 := HKL.out k
      rw [List.length_take] at hkl64
      clear hso hro hlow hrow0
      cases gk with
      | succ go =>
        have hkl : k < so.length := by omega
        have hkl2 : k < sl.length := by omega
        obtain ⟨rb, off, hra, hr3, hr4, hc0⟩ := RO.out.row.at_ (k := k) (by rw [M.encIs_len, M.intsF_len]; exact hkl)
        have c0 := hc0 _ _ (enc6_at hkl)
        have HK1 := Lib.hid (HKT.out k hkl)
        generalize so[k] = s at *
        have hs64 := s.isLt
        generalize hcl : M.keepAll (so.take k) = cl at *
        clear hc0 hcl
        unfold enc6 at c0
        subst hra
        go_wp2_with fail
        go_loopg [26] cl.length (fun g v26 ws => ∃ (j : Nat), j + g = cl.length ∧ v26 = .int .i64 j ∧ (∀ i (h : i < cl.length), i < j → M.subF cl[i] s = false) ∧ ws = wr)
        case atStart => exact ⟨0, by omega, rfl, fun i _ hi => by omega, rfl⟩
        case round =>
          obtain ⟨j, hj, rfl, hall, rfl⟩ := hrel
          have HA := Lib.hid hall
          clear hall
          cases gk with
          | succ gi =>
            have hjl : j < cl.length := by omega
            obtain ⟨lb, loff, hlb, hlb1, hlb2, hlc⟩ := HRW.out.row.at_ (k := j) (by rw [M.encIs_len, M.intsF_len]; exact hjl)
            have c1 := hlc _ _ (enc6_at hjl)
            have HAT := Lib.hid (fun (q : Bool) (hq : M.subF cl[j] s = q) => hq)
            have HAB := Lib.hid (M.hasB_sub s cl[j])
            have HMEM := Lib.hid (List.getElem_mem hjl)
            have HNX := Lib.hid (fun (hq : M.subF cl[j] s = false) => show ∀ i (h : i < cl.length), i < j + 1 → M.subF cl[i] s = false from fun i h hi => by
              rcases Nat.lt_or_ge i j with h1 | h1
              · exact HA.out i h h1
              · obtain rfl : i = j := by omega
                exact hq)
            unfold enc6 at c1
            generalize cl[j] = t at *
            clear hlc
            subst hlb
            have hst := t.isLt
            cases hq : M.subF t s with
            | true =>
              have hkeep : Hid (M.keepAll (so.take (k + 1)) = cl) := Lib.hid (by rw [HK1.out]; unfold M.keep1; rw [if_pos (List.any_eq_true.2 ⟨t, HMEM.out, hq⟩)])
              rw [hq] at HAB
              clear hq
              go_wp2_with fail
              refine (hasAll_any _ _ _).mono ?_
              rintro e w5 ⟨rfl, rfl⟩
              rw [HAB.out]
              go_wp2_with fail
              go_roundg go
              case rel => exact ⟨k + 1, by omega, by go_num, by rw [hkeep.out]; exact SO.out, RO.out, LO.out, hsz⟩
              case measure => omega
            | false =>
              have HN := Lib.hid (HNX.out hq)
              rw [hq] at HAB
              clear hq HNX
              go_wp2_with fail
              refine (hasAll_any _ _ _).mono ?_
              rintro e w5 ⟨rfl, rfl⟩
              rw [HAB.out]
              go_wp2_with fail
              go_roundg gi
              case rel => exact ⟨j + 1, by omega, by go_num, HN.out, rfl⟩
              case measure => omega
          | zero =>
            obtain rfl : j = cl.length := by omega
            have hkeep : Hid (M.keepAll (so.take (k + 1)) = cl ++ [s]) := Lib.hid (by
              rw [HK1.out]
              unfold M.keep1
              rw [if_neg]
              intro h
              obtain ⟨x, hx, hxs⟩ := List.any_eq_true.1 h
              obtain ⟨i, hi, rfl⟩ := List.mem_iff_getElem.1 hx
              rw [HA.out i hi hi] at hxs
              cases hxs)
            clear HA
            go_wp2_with (at_builtin; refine wpList_append_own _ rfl _ _ 24 rfl w3.heap.size 3 ii0 (.int .i64 0) 1 8 Try.underlying24 hi0 hz0 hzz1 hz2 rfl (by decide) _ _ _ rfl (SO.out.alloc _) ⟨wr.heap.size, 0, none⟩ 1 1 [.int .i64 (s.val : Int)] rfl rfl (cell_one_new _ _ _) (fun x hx => by simp at hx; subst hx; rfl) (by unfold maxLen; omega) (by omega) (by simp; omega) ?_; intro v' w6 hown' hgrow3 hnil3)
            go_roundg go
            case rel =>
              refine ⟨k + 1, by omega, by go_num, ?_, (RO.out.below (below_alloc _ _) (by omega)).grownRow hgrow3 (by simp; omega) (fun z hz => .inr (by have := (SO.out.lt z hz).1; omega)), (LO.out.alloc (by omega) _).grown hgrow3 (by simp; omega) (fun z hz => by have := (SO.out.lt z hz).1; omega), by have := hgrow3.size; simp at this; omega⟩
              rw [hkeep.out, M.intsF_snoc, M.encIs_append, List.length_append]
              exact hown'
            case measure => omega
      | zero =>
        obtain rfl : k = so.length := by omega
        have hfin := SO.out
        rw [List.take_of_length_le (Nat.le_refl _), HEND.out] at hfin
        have HFI := Lib.hid hfin
        have HLN := Lib.hid (show (M.keepAll (so.take so.length)).length = (M.cluF sl).length by rw [List.take_of_length_le (Nat.le_refl _), HEND.out])
        clear hfin
        have hkn : ¬ (so.length : Int) < (sl.length : Int) := by omega
        go_wp2_with fail
        rw [hsl] at HLN
        go_ret2
        rw [HV.out, M.keysB_intsF, HLN.out]
        have hr0 := HRW.out
        rw [List.take_of_length_le (Nat.le_refl _), HEND.out] at hr0
        rw [hsl, HLN.out] at hl1
        exact ⟨la, lc, by rw [M.intsF_len]; rfl, hr0.mono (by omega) (Nat.le_refl _), by rw [M.intsF_len]; exact hl1, hl2, LO.out⟩
end C
end Go.Proofs.Ytkkfmleoamhgkaa
