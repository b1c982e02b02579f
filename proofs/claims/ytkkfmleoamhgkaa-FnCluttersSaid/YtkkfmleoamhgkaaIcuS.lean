/-
  CONTRACTS of spec.l6Meets, spec.l6Before and spec.l6Clutter; memory stays as it is but for draws. Condition: lists of at most 1048576 numbers that read so, sets of colours.
-/
import Derived.Test.YtkkfmleoamhgkaaIcuM
import Derived.Test.YtkkfmleoamhgkaaLstS
import Derived.Test.YtkkfmleoamhgkaaOpenTo
import Derived.Test.YtkkfmleoamhgkaaSpecMaze
import Derived.BigQuiet
import Derived.Deep.RegionWith
import Derived.Deep.DeepCutAuto
namespace Go.Proofs.Ytkkfmleoamhgkaa
open Go.RowKit
namespace C
set_option maxHeartbeats 3200000
set_option maxRecDepth 20000
theorem l6Before_any (a b : M.St6) (w : World) : Calls Try.prog 37 #[.int .i64 (a.val : Int), .int .i64 (b.val : Int)] w fun e w' => e = .returned (.bool (M.ltS a b)) ∧ w = w' := by
  have O1 := Lib.hid (l2Many_any a w)
  have O2 := Lib.hid (l2Many_any b w)
  have hL : M.ltS a b = decide (M.cnt a < M.cnt b ∨ M.cnt a = M.cnt b ∧ a.val < b.val) := rfl
  generalize M.ltS a b = r at *
  generalize M.cnt a = na at *
  generalize M.cnt b = nb at *
  generalize a.val = av at *
  generalize b.val = bv at *
  by_cases hn : na = nb
  · subst hn
    have hr : r = decide ((av : Int) < (bv : Int)) := by rw [hL]; rw [Bool.eq_iff_iff, decide_eq_true_iff, decide_eq_true_iff]; omega
    have HR := Lib.hid hr
    clear hL hr
    go_enter Try.func37, Try.ntmps37
    go_wp2_with fail
    refine O1.out.mono ?_
    rintro e w1 ⟨rfl, rfl⟩
    go_wp2_with fail
    refine O2.out.mono ?_
    rintro e w1 ⟨rfl, rfl⟩
    go_wp2_with fail
    go_ret
    exact ⟨by rw [HR.out]; simp, rfl⟩
  · have hr : r = decide ((na : Int) < (nb : Int)) := by rw [hL]; rw [Bool.eq_iff_iff, decide_eq_true_iff, decide_eq_true_iff]; omega
    have HR := Lib.hid hr
    have hni : ((na : Int) == (nb : Int)) = false := by rw [beq_eq_false_iff_ne]; omega
    have hni2 : ¬ (na : Int) = (nb : Int) := by omega
    clear hL hr
    go_enter Try.func37, Try.ntmps37
    go_wp2_with fail
    refine O1.out.mono ?_
    rintro e w1 ⟨rfl, rfl⟩
    go_wp2_with fail
    refine O2.out.mono ?_
    rintro e w1 ⟨rfl, rfl⟩
    go_wp2_with fail
    refine O1.out.mono ?_
    rintro e w1 ⟨rfl, rfl⟩
    go_wp2_with fail
    refine O2.out.mono ?_
    rintro e w1 ⟨rfl, rfl⟩
    go_wp2_with fail
    go_ret
    exact ⟨by rw [HR.out]; simp, rfl⟩
theorem l6Meets_any (w : World) (lo hi : Nat) (a : Option Addr) (c : Nat) (l : List Int) (s : Int) (h : RowIn lo hi w a (M.encIs l)) (_hz : hi ≤ w.heap.size) (hl : l.length ≤ 1048576) :
    Calls Try.prog 21 #[.slice a l.length c, .int .i64 s] w fun e w' => e = .returned (.bool (M.meetB l s)) ∧ w = w' := by
  have H := Lib.hid h
  clear h
  go_enter Try.func21, Try.ntmps21
  go_wp2_with fail
  go_loop [5] (fun i => ∃ (k : Nat), k ≤ l.length ∧ i = .int .i64 k ∧ (∀ j (hj : j < l.length), j < k → (bits .and .i64 l[j] s == 0) = false)) (fun i => l.length - (intOf i).toNat)
  case atStart => exact ⟨0, Nat.zero_le _, rfl, fun j _ h => by omega⟩
  case round =>
    obtain ⟨k, hk, rfl, hall⟩ := hrel
    have HA := Lib.hid hall
    clear hall
    by_cases hkl : k < l.length
    · obtain ⟨b, off, rfl, _, _, hc0⟩ := H.out.at_ (k := k) (by rw [M.encIs_len]; exact hkl)
      have c0 := hc0 _ _ (M.encIs_at hkl)
      have HNX := Lib.hid (fun (hq : (bits .and .i64 l[k] s == 0) = false) => show ∀ j (hj : j < l.length), j < k + 1 → (bits .and .i64 l[j] s == 0) = false from fun j hj hjk => by
        rcases Nat.lt_or_ge j k with h1 | h1
        · exact HA.out j hj h1
        · obtain rfl : j = k := by omega
          exact hq)
      have HF : Hid ((bits .and .i64 l[k] s == 0) = true → M.meetB l s = false) := Lib.hid (fun h => by
        rw [Bool.eq_false_iff]
        intro hm
        unfold M.meetB at hm
        have := List.all_eq_true.1 hm _ (List.getElem_mem hkl)
        rw [h] at this
        cases this)
      clear hc0 HA
      generalize l[k] = x at *
      cases hq : (bits .and .i64 x s == 0) with
      | false =>
        have HN := Lib.hid (HNX.out hq)
        go_wp2_with fail
        go_round
        case rel => exact ⟨k + 1, by omega, by go_num, HN.out⟩
        case measure => simp [intOf]; omega
      | true =>
        have HN := Lib.hid (HF.out hq)
        go_wp2_with fail
        go_ret
        exact ⟨by rw [HN.out]; rfl, rfl⟩
    · obtain rfl : k = l.length := by omega
      have HT : Hid (M.meetB l s = true) := Lib.hid (by
        unfold M.meetB
        rw [List.all_eq_true]
        intro x hx
        obtain ⟨j, hj, rfl⟩ := List.mem_iff_getElem.1 hx
        rw [HA.out j hj hj]; rfl)
      clear HA
      go_wp2_with fail
      go_ret
      exact ⟨by rw [HT.out]; rfl, rfl⟩
theorem has2_sub : ∀ a b : M.St6, M.has2B (a.val : Int) (b.val : Int) = M.subF b a := by decide +kernel
theorem l6Clutter_any (w : World) (lo hi : Nat) (a : Option Addr) (c : Nat) (l : List Int) (h : RowIn lo hi w a (M.encIs l)) (hz : hi ≤ w.heap.size) (hl : l.length ≤ 1048576) :
    Calls Try.prog 20 #[.slice a l.length c] w (BoolPost w (M.isCluB l)) := by
  have H := Lib.hid h
  clear h
  have HEND := Lib.hid (fun sl (hg : M.GoodTo l l.length sl) (h20 : l.length ≤ 20) => M.good_end hg h20)
  have HLONG := Lib.hid (fun h => M.clu_long (l := l) h)
  have mixed : Try.prog.follows .mixedOrders = true := by kernel_rfl
  go_enter Try.func20, Try.ntmps20
  go_wp2_with fail
  go_loopw [3, 4] (fun v3 _ wr => ∃ (i : Nat) (sl : List M.St6), i ≤ l.length ∧ i ≤ 21 ∧ v3 = .int .i64 i ∧ M.GoodTo l i sl ∧ Below w.heap.size w wr) (fun v3 _ _ => l.length - (intOf v3).toNat)
  case atStart => exact ⟨0, [], Nat.zero_le _, by omega, rfl, M.good_zero l, Below.refl _ _⟩
  case round =>
    obtain ⟨i, sl, hi1, hi2, rfl, hgood, hni⟩ := hrel
    have HG := Lib.hid hgood
    have HI := Lib.hid hni
    have hzi := hni.size
    have hsl := M.good_len hgood hi1
    clear hgood hni
    obtain ⟨wo, hwo⟩ : ∃ x, x = wr := ⟨_, rfl⟩
    subst hwo
    by_cases hil : i < l.length
    · by_cases hi20 : i ≤ 20
      · have hili : (i : Int) < (l.length : Int) := by omega
        have hi20i : (i : Int) ≤ 20 := by omega
        have hrow := H.out.below HI.out hz
        obtain ⟨b, off, hab, hbl1, hbl2, hc0⟩ := hrow.at_ (k := i) (by rw [M.encIs_len]; exact hil)
        have x0 := hc0 _ _ (M.encIs_at hil)
        have HC := Lib.hid (fun (j : Nat) (hj : j < i) => show wo.cell? ⟨b, off + j, none⟩ = some (.int .i64 ((sl[j]'(by omega)).val : Int)) from by
          obtain ⟨hs, he⟩ := M.good_get HG.out hi1 hj
          rw [hc0 j _ (M.encIs_at (by omega)), he])
        have hbw : b < wo.heap.size := by omega
        have HNS := Lib.hid (fun hq => M.clu_noSet hil hq)
        have HNX := Lib.hid (fun (s : M.St6) (hs : l[i] = (s.val : Int)) => M.good_next HG.out hil hs)
        have HNL := Lib.hid (fun (i' : Nat) (he : i' + 1 = i) (s : M.St6) (hs : l[i] = (s.val : Int)) (hq : M.ltS (sl[i']'(by omega)) s = false) => show M.isCluB l = false from by
          subst he
          exact M.clu_noLt hil (M.good_get HG.out hi1 (Nat.lt_succ_self i')).2 hs hq)
        have HSU := Lib.hid (fun (j : Nat) (hj : j < i) (s : M.St6) (hs : l[i] = (s.val : Int)) (hq : M.subF (sl[j]'(by omega)) s = true) => M.clu_noSub hj hil (M.good_get HG.out hi1 hj).2 hs hq)
        have HAS := Lib.hid HG.out.2.1
        clear hc0 hrow HG
        subst hab
        generalize l[i] = x at *
        go_wp2_with fail
        go_cut [37] (fun s37 wx => ((s37 = .bool true ∧ M.isCluB l = false) ∨ (s37 = .bool false ∧ ∃ s : M.St6, x = (s.val : Int) ∧ ∀ y ∈ sl, M.ltS y s = true)) ∧ Below wo.heap.size wo wx)
        case first =>
          have E0 := cell_grown (a := ⟨b, off + i, none⟩) hbw x0
          cases hq : M.setB x with
          | false =>
            have HF := Lib.hid (HNS.out hq)
            have HSX := Lib.hid (fun W => show Calls Try.prog 32 #[.int .i64 x] W fun e w' => e = .returned (.bool false) ∧ W = w' from by have := l2Set_any x W; rwa [hq] at this)
            refine wp_region_quiet_grown (by assumption) (by kernel_rfl) ?_
            repeat (first | go_big_quiet_step (first | (go_at_call 32; refine Calls.grown_of (same_grown (HSX.out _)))) | quiet_step (first | (go_at_call 32; refine Calls.grown_of (same_grown (HSX.out _)))))
            refine wpQuiet_nil ?_
            intro _ hw'
            obtain ⟨⟨nq, osq⟩, hw''⟩ := hw'
            subst hw''
            go_wp2_with fail
            go_meet
            exact ⟨.inl ⟨rfl, HF.out⟩, below_grown _ _ _⟩
          | true =>
            have HSX := Lib.hid (fun W => show Calls Try.prog 32 #[.int .i64 x] W fun e w' => e = .returned (.bool true) ∧ W = w' from by have := l2Set_any x W; rwa [hq] at this)
            have hx64 := M.setB_iff.1 hq
            obtain ⟨s, hs⟩ : ∃ s : M.St6, x = (s.val : Int) := ⟨⟨x.toNat, by omega⟩, by show x = ((x.toNat : Nat) : Int); omega⟩
            clear hq HNS
            rcases Nat.eq_zero_or_pos i with hi0 | hi0
            · have hg1 : decide ((0 : Int) < (i : Int)) = false := decide_eq_false (by omega)
              have hg2 : decide (0 < i) = false := decide_eq_false (by omega)
              have hsn : sl = [] := List.eq_nil_of_length_eq_zero (by omega)
              have HSN := Lib.hid hsn
              have HS := Lib.hid hs
              clear hsn hs hi0
              refine wp_region_quiet_grown (by assumption) (by kernel_rfl) ?_
              repeat (first | go_big_quiet_step (first | (go_at_call 32; refine Calls.grown_of (same_grown (HSX.out _)))) | quiet_step (first | (go_at_call 32; refine Calls.grown_of (same_grown (HSX.out _)))))
              refine wpQuiet_nil ?_
              intro _ hw'
              obtain ⟨⟨nq, osq⟩, hw''⟩ := hw'
              subst hw''
              go_wp2_with fail
              go_meet
              exact ⟨.inr ⟨rfl, s, HS.out, fun y hy => by rw [HSN.out] at hy; cases hy⟩, below_grown _ _ _⟩
            · obtain ⟨i', hi'⟩ : ∃ i', i' + 1 = i := ⟨i - 1, by omega⟩
              have p0 := HC.out i' (by omega)
              have E1 := cell_grown (a := ⟨b, off + i', none⟩) hbw p0
              have HNL2 := Lib.hid (HNL.out i' hi' s hs)
              have HLA : Hid (∀ y ∈ sl, y = sl[i']'(by omega) ∨ M.ltS y (sl[i']'(by omega)) = true) := Lib.hid (fun y hy => by
                obtain ⟨j, hj, rfl⟩ := List.mem_iff_getElem.1 hy
                rcases Nat.lt_or_ge j i' with h1 | h1
                · exact .inr (List.pairwise_iff_getElem.1 HAS.out j i' hj (by omega) h1)
                · obtain rfl : j = i' := by omega
                  exact .inl rfl)
              have HBX0 := Lib.hid (fun W => l6Before_any (sl[i']'(by omega)) s W)
              have hg1 : decide ((0 : Int) < (i : Int)) = true := decide_eq_true (by omega)
              have hg2 : decide (0 < i) = true := decide_eq_true (by omega)
              have hsub : (i : Int) - 1 = (i' : Int) := by omega
              have hil' : (i' : Int) < (l.length : Int) := by omega
              generalize sl[i']'(by omega) = pr at *
              clear hi' hi0 p0
              have HS := Lib.hid hs
              subst hs
              cases hlt : M.ltS pr s with
              | false =>
                have HF := Lib.hid (HNL2.out hlt)
                rw [hlt] at HBX0
                have HBX := HBX0
                clear hlt
                refine wp_region_quiet_grown (by assumption) (by kernel_rfl) ?_
                repeat (first | go_big_quiet_step (first | (go_at_call 32; refine Calls.grown_of (same_grown (HSX.out _))) | (go_at_call 37; refine Calls.grown_of (same_grown (HBX.out _)))) | quiet_step (first | (go_at_call 32; refine Calls.grown_of (same_grown (HSX.out _))) | (go_at_call 37; refine Calls.grown_of (same_grown (HBX.out _)))))
                refine wpQuiet_nil ?_
                intro _ hw'
                obtain ⟨⟨nq, osq⟩, hw''⟩ := hw'
                subst hw''
                go_wp2_with fail
                go_meet
                exact ⟨.inl ⟨rfl, HF.out⟩, below_grown _ _ _⟩
              | true =>
                have HLT := Lib.hid hlt
                rw [hlt] at HBX0
                have HBX := HBX0
                clear hlt
                refine wp_region_quiet_grown (by assumption) (by kernel_rfl) ?_
                repeat (first | go_big_quiet_step (first | (go_at_call 32; refine Calls.grown_of (same_grown (HSX.out _))) | (go_at_call 37; refine Calls.grown_of (same_grown (HBX.out _)))) | quiet_step (first | (go_at_call 32; refine Calls.grown_of (same_grown (HSX.out _))) | (go_at_call 37; refine Calls.grown_of (same_grown (HBX.out _)))))
                refine wpQuiet_nil ?_
                intro _ hw'
                obtain ⟨⟨nq, osq⟩, hw''⟩ := hw'
                subst hw''
                go_wp2_with fail
                go_meet
                refine ⟨.inr ⟨rfl, s, rfl, fun y hy => ?_⟩, below_grown _ _ _⟩
                rcases HLA.out y hy with e | e
                · rw [e]; exact HLT.out
                · exact M.ordS.trans e HLT.out
        case rest =>
          obtain ⟨hor, hb5⟩ := hcut
          have HB5 := Lib.hid (HI.out.trans (hb5.mono hzi))
          have HQ5 := Lib.hid hb5
          have hz5 := hb5.size
          clear hb5
          rcases hor with ⟨rfl, hF⟩ | ⟨rfl, s, hs, hlt⟩
          · have HF := Lib.hid hF
            clear hF
            go_wp2_with fail
            go_ret
            exact ⟨by rw [HF.out]; rfl, HB5.out⟩
          · have HLT := Lib.hid hlt
            have HNX2 := Lib.hid (HNX.out s hs hlt)
            have HSU2 := Lib.hid (fun (j : Nat) (hj : j < i) hq => HSU.out j hj s hs hq)
            subst hs
            clear hlt HNX HSU HNL HNS
            go_wp2_with fail
            go_loopw [4] (fun v4 wr => ∃ (k : Nat), k ≤ i ∧ v4 = .int .i64 k ∧ (∀ j (hj : j < sl.length), j < k → M.subF sl[j] s = false) ∧ Below wo.heap.size wo wr) (fun v4 _ => i - (intOf v4).toNat)
            case atStart => exact ⟨0, Nat.zero_le _, rfl, fun j _ h => by omega, HQ5.out⟩
            case round =>
              obtain ⟨k, hk, rfl, hall, hnk⟩ := hrel
              have HA := Lib.hid hall
              have HK := Lib.hid hnk
              have hzk := hnk.size
              clear hall hnk
              by_cases hki : k < i
              · have hks : k < sl.length := by omega
                have x1 : wr.cell? ⟨b, off + i, none⟩ = some (.int .i64 (s.val : Int)) := (HK.out.cell (p := ⟨b, off + i, none⟩) hbw).trans x0
                have y1 : wr.cell? ⟨b, off + k, none⟩ = some (.int .i64 ((sl[k]).val : Int)) := (HK.out.cell (p := ⟨b, off + k, none⟩) hbw).trans (HC.out k hki)
                have E2 := cell_grown (a := ⟨b, off + i, none⟩) (show b < wr.heap.size by omega) x1
                have E3 := cell_grown (a := ⟨b, off + k, none⟩) (show b < wr.heap.size by omega) y1
                have hkl : (k : Int) < (l.length : Int) := by omega
                have HS3 := Lib.hid (HSU2.out k hki)
                have HNA := Lib.hid (fun (hq : M.subF sl[k] s = false) => show ∀ j (hj : j < sl.length), j < k + 1 → M.subF sl[j] s = false from fun j hj hjk => by
                  rcases Nat.lt_or_ge j k with h1 | h1
                  · exact HA.out j hj h1
                  · obtain rfl : j = k := by omega
                    exact hq)
                have HH0 := Lib.hid (fun W => l2Has_any (s.val : Int) ((sl[k]).val : Int) W)
                rw [has2_sub] at HH0
                clear x1 y1 HA
                generalize sl[k] = t at *
                cases hq : M.subF t s with
                | true =>
                  have HF := Lib.hid (HS3.out hq)
                  rw [hq] at HH0
                  have HHX := HH0
                  clear hq
                  go_wp2_with fail
                  refine wp_region_quiet_grown (by assumption) (by kernel_rfl) ?_
                  repeat (first | go_big_quiet_step (first | (go_at_call 33; refine Calls.grown_of (same_grown (HHX.out _)))) | quiet_step (first | (go_at_call 33; refine Calls.grown_of (same_grown (HHX.out _)))))
                  refine wpQuiet_nil ?_
                  intro _ hw'
                  obtain ⟨⟨nq, osq⟩, hw''⟩ := hw'
                  subst hw''
                  go_wp2_with fail
                  go_ret
                  exact ⟨by rw [HF.out]; rfl, (HI.out.trans (HK.out.mono hzi)).trans ((below_grown wr nq osq).mono (by omega))⟩
                | false =>
                  have HN := Lib.hid (HNA.out hq)
                  rw [hq] at HH0
                  have HHX := HH0
                  clear hq
                  go_wp2_with fail
                  refine wp_region_quiet_grown (by assumption) (by kernel_rfl) ?_
                  repeat (first | go_big_quiet_step (first | (go_at_call 33; refine Calls.grown_of (same_grown (HHX.out _)))) | quiet_step (first | (go_at_call 33; refine Calls.grown_of (same_grown (HHX.out _)))))
                  refine wpQuiet_nil ?_
                  intro _ hw'
                  obtain ⟨⟨nq, osq⟩, hw''⟩ := hw'
                  subst hw''
                  go_wp2_with fail
                  go_roundw
                  case rel => exact ⟨k + 1, by omega, by go_num, HN.out, HK.out.trans ((below_grown wr nq osq).mono hzk)⟩
                  case measure => simp [intOf]; omega
              · obtain rfl : k = i := by omega
                have HGN := Lib.hid (HNX2.out fun y hy => by
                  obtain ⟨j, hj, rfl⟩ := List.mem_iff_getElem.1 hy
                  exact HA.out j hj (by omega))
                go_wp2_with fail
                go_roundw
                case rel => exact ⟨k + 1, sl ++ [s], by omega, by omega, by go_num, HGN.out, HI.out.trans (HK.out.mono hzi)⟩
                case measure => simp [intOf]; omega
      · have h20 : 20 < l.length := by omega
        have HF := Lib.hid (HLONG.out h20)
        have hi20i : ¬ (i : Int) ≤ 20 := by omega
        have hi20n : decide ((i : Int) ≤ 20) = false := decide_eq_false (by omega)
        have hl20 : ¬ (l.length : Int) ≤ 20 := by omega
        have hili : (i : Int) < (l.length : Int) := by omega
        go_wp2_with fail
        go_ret
        exact ⟨by rw [HF.out]; simp, HI.out⟩
    · obtain rfl : i = l.length := by omega
      by_cases h20 : l.length ≤ 20
      · have HF := Lib.hid (HEND.out sl HG.out h20)
        have hl20 : (l.length : Int) ≤ 20 := by omega
        go_wp2_with fail
        go_ret
        exact ⟨by rw [HF.out]; simp, HI.out⟩
      · have HF := Lib.hid (HLONG.out (by omega))
        have hl20 : ¬ (l.length : Int) ≤ 20 := by omega
        go_wp2_with fail
        go_ret
        exact ⟨by rw [HF.out]; simp, HI.out⟩
end C
end Go.Proofs.Ytkkfmleoamhgkaa
