/-
  CONTRACT of spec.l2Taken: the sets taken on a walk in a new list, and whether it is a key walk; what lay in memory stays. Condition: a valid maze; a walk of at most 1048576 numbers.
-/
import Derived.Test.YtcoaggnilgfjfaaOpenGr
import Derived.Test.YtcoaggnilgfjfaaTakenMath
import Derived.Test.YtcoaggnilgfjfaaIsOpen
namespace Go.Proofs.Ytcoaggnilgfjfaa
open Go.RowKit
namespace C
set_option maxHeartbeats 1600000
set_option maxRecDepth 20000
theorem l2Taken_any (w : World) (lo hi lo' hi' : Nat) (m : M.Mz) (a b : Option Addr) (c d : Nat) (wa : Option Addr) (wc : Nat) (walk : List Int) (h : MzIn lo hi w m a c b d) (hz : hi ≤ w.heap.size) (V : M.Valid m) (hw : RowIn lo' hi' w wa (M.encIs walk)) (hz' : hi' ≤ w.heap.size) (hl : walk.length ≤ 1048576) :
    Calls Try.prog 106 #[.agg #[.int .i64 m.size, .slice a m.doors.length c, .slice b m.keys.length d], .slice wa walk.length wc] w (IntsOkPost w (M.takenV m walk) (M.walkB m walk)) := by
  obtain ⟨i0, hi0, hz0, hz1, hz2⟩ := info_parts infoI
  have H := Lib.hid h
  have HW := Lib.hid hw
  have v30 := V.few
  have v1 := V.size1
  have v12 := V.size12
  have VV := Lib.hid V
  have hkl := Lib.hid V.keysLen
  clear h hw V
  have mixed : Try.prog.follows .mixedOrders = true := by kernel_rfl
  go_enter Try.func106, Try.ntmps106
  go_wp2_with fail
  go_loopw [6, 7, 8] (fun v hv i wr => ∃ (k : Nat), k ≤ walk.length ∧ i = .int .i64 k ∧ hv = .int .i64 (M.haveTo m walk k) ∧ (∀ j, j < k → M.okAt m walk j = true) ∧ wr.ownsRow w.heap.size 3 1 v (M.takenTo m walk k).length (M.encIs (M.takenTo m walk k)) ∧ Box3 wr w.heap.size 29 (.int .i64 m.size) (.slice a m.doors.length c) (.slice b m.keys.length d) ∧ Below w.heap.size w wr) (fun _ _ i _ => walk.length - (intOf i).toNat)
  case atStart =>
    have this := ownsRow_empty (w.alloc (.cells #[.int .i64 m.size, .slice a m.doors.length c, .slice b m.keys.length d] 29)) w.heap.size 3 1 (by simp)
    have this0 : ((w.alloc (.cells #[.int .i64 m.size, .slice a m.doors.length c, .slice b m.keys.length d] 29)).alloc (.cells #[] 3)).ownsRow w.heap.size 3 1 (.slice (some ⟨w.heap.size + 1, 0, none⟩) 0 0) 0 [] := by simpa using this
    exact ⟨0, Nat.zero_le _, rfl, rfl, fun j h => by omega, this0, (Box3.new _ _ _ _ rfl).alloc _, (below_alloc _ _).alloc (by simp) _⟩
  case round =>
    obtain ⟨k, hk, rfl, rfl, hall, hown, hbox, hnx⟩ := hrel
    have HA := Lib.hid hall
    have HN := Lib.hid hnx
    have HBX := Lib.hid hbox
    have HO := Lib.hid hown
    have HNE := Lib.hid (own_ne_box hown hbox (by decide))
    have hzr := hnx.size
    have hbl := hbox.lt
    obtain ⟨x0, x1, x2⟩ := hbox.cells
    have hlen := M.takenTo_len m walk k
    clear hall hnx hbox hown
    by_cases hlt : k < walk.length
    · obtain ⟨wb, wo, rfl, _, hwb, hc0⟩ := (HW.out.below HN.out hz').at_ (k := k) (by rw [M.encIs_len]; exact hlt)
      have ck := hc0 k _ (M.encIs_at hlt)
      have HC := Lib.hid hc0
      clear hc0
      have hwW : wb < wr.heap.size := by omega
      have hw1 : IntKind.i64.wrap (m.size - 1) = m.size - 1 := IntWalk.i64_in _ (by omega)
      have X0 := cell_grown hbl x0
      have X1 := cell_grown hbl x1
      have X2 := cell_grown hbl x2
      have CK := cell_grown (a := ⟨wb, wo + k, none⟩) hwW ck
      obtain ⟨xk, hxk⟩ : ∃ xk, xk = walk[k] := ⟨_, rfl⟩
      rw [← hxk] at CK ck
      have HXK := Lib.hid hxk
      clear hxk
      have hle := Lib.hid hlen
      clear hlen
      cases hin : M.inB xk 0 (m.size - 1) with
      | false =>
        have hno : M.okAt m walk k = false := by
          rw [Bool.eq_false_iff]
          intro hq
          have hne : M.inB xk 0 (m.size - 1) = true := by
            rcases Nat.eq_zero_or_pos k with h0 | h0
            · subst h0
              rw [M.okAt_zero m hlt, ← HXK.out] at hq
              have : xk = 0 := by simpa using hq
              exact decide_eq_true (by omega)
            · obtain ⟨j, rfl⟩ : ∃ j, k = j + 1 := ⟨k - 1, by omega⟩
              rw [M.okAt_succ m hlt, ← HXK.out] at hq
              have := (M.open_node VV.out hq).2
              exact decide_eq_true (by omega)
          rw [hin] at hne
          cases hne
        have HF := Lib.hid (M.walkB_no hlt hno)
        have HV := Lib.hid (M.takenV_no HF.out)
        clear hno
        go_wp2_with fail
        refine wp_region_quiet_grown (by assumption) (by kernel_rfl) ?_
        repeat (first | go_big_quiet_step (first | (go_at_call 84; refine Calls.grown_of (same_grown (l1In_any _ _ _ _)))) | quiet_step (first | (go_at_call 84; refine Calls.grown_of (same_grown (l1In_any _ _ _ _)))))
        refine wpQuiet_nil ?_
        intro Wq hw'
        obtain ⟨⟨nq, osq⟩, hw''⟩ := hw'
        have hbq : Below wr.heap.size wr Wq := by rw [hw'']; exact below_grown wr nq osq
        clear hw''
        have hzq := hbq.size
        have HBQ := Lib.hid hbq
        have HXQ := Lib.hid (HBX.out.below hbq)
        clear hbq
        go_wp2_with fail
        go_ret2
        rw [HF.out, HV.out]
        exact intsOk_end (l := []) (ownsRow_empty Wq w.heap.size 3 1 (by omega)) ((HN.out.trans (HBQ.out.mono hzr)).alloc (by omega) _)
      | true =>
        have hxb : 0 ≤ xk ∧ xk ≤ m.size - 1 := decide_eq_true_iff.1 (show decide (0 ≤ xk ∧ xk ≤ m.size - 1) = true from hin)
        obtain ⟨hx0, hx1⟩ := hxb
        rcases Nat.eq_zero_or_pos k with hk0 | hk0
        · have hk1 : ¬ 0 < k := by omega
          have hg0 : ((k : Int) == 0) = true := by simp; omega
          have hg1 : decide ((0 : Int) < (k : Int)) = false := decide_eq_false (by omega)
          have hoo : wo + k = wo := by omega
          have CK0 : ∀ (n : Nat) (os : Array Obj), (Sort.grow (wr.drewN n) os).cell? ⟨wb, wo, none⟩ = some (.int .i64 xk) := by
            intro n os; have := CK n os; rw [hoo] at this; exact this
          have hwl : 0 < walk.length := by omega
          have hwl2 : (0 : Int) < (walk.length : Int) := by omega
          clear hoo
          cases hz00 : (xk == 0) with
          | false =>
            have hne : (xk != 0) = true := by simp at hz00 ⊢; exact hz00
            have hno : M.okAt m walk k = false := by
              have h0 : k = 0 := hk0
              subst h0
              rw [M.okAt_zero m hlt, ← HXK.out]; exact hz00
            have HF := Lib.hid (M.walkB_no hlt hno)
            have HV := Lib.hid (M.takenV_no HF.out)
            have HK0 := Lib.hid hk0
            clear hno hk0 hz00
            go_wp2_with fail
            refine wp_region_quiet_grown (by assumption) (by kernel_rfl) ?_
            repeat (first | go_big_quiet_step (first | (go_at_call 84; refine Calls.grown_of (same_grown (l1In_any _ _ _ _)))) | quiet_step (first | (go_at_call 84; refine Calls.grown_of (same_grown (l1In_any _ _ _ _)))))
            refine wpQuiet_nil ?_
            intro Wq hw'
            obtain ⟨⟨nq, osq⟩, hw''⟩ := hw'
            have hbq : Below wr.heap.size wr Wq := by rw [hw'']; exact below_grown wr nq osq
            clear hw''
            have hzq := hbq.size
            have HBQ := Lib.hid hbq
            have HXQ := Lib.hid (HBX.out.below hbq)
            clear hbq
            go_wp2_with fail
            go_ret2
            rw [HF.out, HV.out]
            exact intsOk_end (l := []) (ownsRow_empty Wq w.heap.size 3 1 (by omega)) ((HN.out.trans (HBQ.out.mono hzr)).alloc (by omega) _)
          | true =>
            have hne : (xk != 0) = false := by simp at hz00 ⊢; exact hz00
            have hyes : M.okAt m walk k = true := by
              have h0 : k = 0 := hk0
              subst h0
              rw [M.okAt_zero m hlt, ← HXK.out]; exact hz00
            have HY := Lib.hid hyes
            have HK0 := Lib.hid hk0
            clear hyes hk0 hz00
            go_wp2_with fail
            refine wp_region_quiet_grown (by assumption) (by kernel_rfl) ?_
            repeat (first | go_big_quiet_step (first | (go_at_call 84; refine Calls.grown_of (same_grown (l1In_any _ _ _ _)))) | quiet_step (first | (go_at_call 84; refine Calls.grown_of (same_grown (l1In_any _ _ _ _)))))
            refine wpQuiet_nil ?_
            intro Wq hw'
            obtain ⟨⟨nq, osq⟩, hw''⟩ := hw'
            have hbq : Below wr.heap.size wr Wq := by rw [hw'']; exact below_grown wr nq osq
            clear hw''
            have hzq := hbq.size
            have HBQ := Lib.hid hbq
            have HXQ := Lib.hid (HBX.out.below hbq)
            clear hbq
            obtain ⟨xn, hxn⟩ : ∃ xn : Nat, xk = xn := ⟨xk.toNat, by omega⟩
            have hxl : xn < m.keys.length := by have := hkl.out; omega
            obtain ⟨kb, ko, hka, _, hkb, hkc⟩ := (H.out.keys.below HN.out hz).at_ (k := xn) (by rw [M.encIs_len]; exact hxl)
            subst hka
            subst hxn
            have hkw : kb < wr.heap.size := by omega
            have kc := (HBQ.out.cell (p := ⟨kb, ko + xn, none⟩) hkw).trans (hkc xn _ (M.encIs_at hxl))
            have wc' := (HBQ.out.cell (p := ⟨wb, wo + k, none⟩) hwW).trans ck
            have hkey : M.keyAt m (xn : Int) = m.keys[xn] := by unfold M.keyAt; rw [List.getD_eq_getElem?_getD, Int.toNat_natCast, List.getElem?_eq_getElem hxl]; rfl
            have hsucc := M.haveTo_succ m hlt
            rw [← HXK.out, hkey] at hsucc
            have HSU := Lib.hid hsucc
            have HT := Lib.hid (M.takenTo_succ m walk (k))
            obtain ⟨q0, q1, q2⟩ := HXQ.out.cells
            have hxl2 : (xn : Int) < (m.keys.length : Int) := by omega
            have HOQ := Lib.hid (fun (n : Nat) => own_drewN (own_below HO.out HBQ.out) n)
            clear hkc hkey hsucc X0 X1 X2 CK ck x0 x1 x2
            go_wp2_with fail
            go_quiet (fail)
            go_wp2_with (at_builtin; refine wpList_append_own _ rfl _ _ 23 rfl w.heap.size 3 i0 (.int .i64 0) 1 8 Try.underlying23 hi0 hz0 hz1 hz2 rfl (by decide) _ _ _ rfl ((HOQ.out nq).alloc _) ⟨Wq.heap.size, 0, none⟩ 1 1 [.int .i64 (bits .or .i64 (M.haveTo m walk (k)) m.keys[xn])] rfl rfl (cell_one_new (Wq.drewN nq) _ _) (fun x hx => by simp at hx; subst hx; rfl) (by unfold maxLen; have := hle.out; omega) (by have := hle.out; omega) (by simp; omega) ?_; intro v' w3 hown' hgrow3 hnil3)
            go_roundw
            case rel =>
              refine ⟨k + 1, by omega, by go_num, by rw [HSU.out], fun i hi => ?_, ?_, (show Box3 ((Wq.drewN nq).alloc _) w.heap.size 29 (.int .i64 m.size) (.slice a m.doors.length c) (.slice (some ⟨kb, ko, none⟩) m.keys.length d) from HXQ.out.alloc _).grown hgrow3 HNE.out, ((Below.drawnN (HN.out.trans (HBQ.out.mono hzr)) nq).alloc (by simp; omega) _).grown hgrow3 (by simp; omega) (own_base (HOQ.out nq))⟩
              · rcases Nat.lt_or_ge i (k) with h | h
                · exact HA.out i h
                · obtain rfl : i = k := by omega
                  exact HY.out
              · rw [HT.out, HSU.out]
                simpa [M.encIs] using hown'
            case measure => simp [intOf]; omega
        · obtain ⟨j, rfl⟩ : ∃ j, k = j + 1 := ⟨k - 1, by omega⟩
          have hg0 : ((j : Int) + 1 == 0) = false := by simp; omega
          have hg1 : decide ((0 : Int) < (j : Int) + 1) = true := decide_eq_true (by omega)
          have hw3 : IntKind.i64.wrap ((j : Int) + 1 - 1) = (j : Int) := by rw [IntWalk.i64_in _ (by omega)]; omega
          have hw4 : IntKind.i64.wrap (j : Int) = (j : Int) := IntWalk.i64_in _ (by omega)
          have hjl : j < walk.length := by omega
          have hjl2 : (j : Int) < (walk.length : Int) := by omega
          have cj := HC.out j _ (M.encIs_at hjl)
          have CJ := cell_grown (a := ⟨wb, wo + j, none⟩) hwW cj
          have hok := M.okAt_succ m hlt
          rw [← HXK.out] at hok
          have HOK := Lib.hid hok
          clear hok cj
          have OG := Lib.hid (fun n os => l2Open_grown (Sort.grow (wr.drewN n) os) lo hi m a b c d walk[j] xk (M.haveTo m walk (j + 1)) ((H.out.below HN.out hz).below (below_grown wr n os) (by omega)) (by have := (below_grown wr n os).size; omega) (by omega))
          cases hop : M.openB m.doors walk[j] xk (M.haveTo m walk (j + 1)) with
          | false =>
            rw [hop] at OG
            have HF := Lib.hid (M.walkB_no hlt (by rw [HOK.out]; exact hop))
            have HV := Lib.hid (M.takenV_no HF.out)
            clear hop
            go_wp2_with fail
            refine wp_region_quiet_grown (by assumption) (by kernel_rfl) ?_
            repeat (first | go_big_quiet_step (first | (go_at_call 84; refine Calls.grown_of (same_grown (l1In_any _ _ _ _))) | (go_at_call 133; refine Calls.grown_of (OG.out _ _))) | quiet_step (first | (go_at_call 84; refine Calls.grown_of (same_grown (l1In_any _ _ _ _))) | (go_at_call 133; refine Calls.grown_of (OG.out _ _))))
            refine wpQuiet_nil ?_
            intro Wq hw'
            obtain ⟨⟨nq, osq⟩, hw''⟩ := hw'
            have hbq : Below wr.heap.size wr Wq := by rw [hw'']; exact below_grown wr nq osq
            clear hw''
            have hzq := hbq.size
            have HBQ := Lib.hid hbq
            have HXQ := Lib.hid (HBX.out.below hbq)
            clear hbq
            go_wp2_with fail
            go_ret2
            rw [HF.out, HV.out]
            exact intsOk_end (l := []) (ownsRow_empty Wq w.heap.size 3 1 (by omega)) ((HN.out.trans (HBQ.out.mono hzr)).alloc (by omega) _)
          | true =>
            rw [hop] at OG
            have HY := Lib.hid (HOK.out.trans hop)
            clear hop
            go_wp2_with fail
            refine wp_region_quiet_grown (by assumption) (by kernel_rfl) ?_
            repeat (first | go_big_quiet_step (first | (go_at_call 84; refine Calls.grown_of (same_grown (l1In_any _ _ _ _))) | (go_at_call 133; refine Calls.grown_of (OG.out _ _))) | quiet_step (first | (go_at_call 84; refine Calls.grown_of (same_grown (l1In_any _ _ _ _))) | (go_at_call 133; refine Calls.grown_of (OG.out _ _))))
            refine wpQuiet_nil ?_
            intro Wq hw'
            obtain ⟨⟨nq, osq⟩, hw''⟩ := hw'
            have hbq : Below wr.heap.size wr Wq := by rw [hw'']; exact below_grown wr nq osq
            clear hw''
            have hzq := hbq.size
            have HBQ := Lib.hid hbq
            have HXQ := Lib.hid (HBX.out.below hbq)
            clear hbq
            obtain ⟨xn, hxn⟩ : ∃ xn : Nat, xk = xn := ⟨xk.toNat, by omega⟩
            have hxl : xn < m.keys.length := by have := hkl.out; omega
            obtain ⟨kb, ko, hka, _, hkb, hkc⟩ := (H.out.keys.below HN.out hz).at_ (k := xn) (by rw [M.encIs_len]; exact hxl)
            subst hka
            subst hxn
            have hkw : kb < wr.heap.size := by omega
            have kc := (HBQ.out.cell (p := ⟨kb, ko + xn, none⟩) hkw).trans (hkc xn _ (M.encIs_at hxl))
            have wc' := (HBQ.out.cell (p := ⟨wb, wo + (j + 1), none⟩) hwW).trans ck
            have hkey : M.keyAt m (xn : Int) = m.keys[xn] := by unfold M.keyAt; rw [List.getD_eq_getElem?_getD, Int.toNat_natCast, List.getElem?_eq_getElem hxl]; rfl
            have hsucc := M.haveTo_succ m hlt
            rw [← HXK.out, hkey] at hsucc
            have HSU := Lib.hid hsucc
            have HT := Lib.hid (M.takenTo_succ m walk (j + 1))
            obtain ⟨q0, q1, q2⟩ := HXQ.out.cells
            have hxl2 : (xn : Int) < (m.keys.length : Int) := by omega
            have HOQ := Lib.hid (fun (n : Nat) => own_drewN (own_below HO.out HBQ.out) n)
            have hn1 : ((j : Int) + 1).toNat = j + 1 := by omega
            have hn2 : (j : Int) + 1 < (walk.length : Int) := by omega
            have hn3 : (0 : Int) ≤ (j : Int) + 1 := by omega
            have hn4 : (((j + 1 : Nat) : Int)).toNat = j + 1 := by omega
            clear hkc hkey hsucc X0 X1 X2 CK ck x0 x1 x2
            go_wp2_with fail
            go_quiet (fail)
            go_wp2_with (at_builtin; refine wpList_append_own _ rfl _ _ 23 rfl w.heap.size 3 i0 (.int .i64 0) 1 8 Try.underlying23 hi0 hz0 hz1 hz2 rfl (by decide) _ _ _ rfl ((HOQ.out nq).alloc _) ⟨Wq.heap.size, 0, none⟩ 1 1 [.int .i64 (bits .or .i64 (M.haveTo m walk (j + 1)) m.keys[xn])] rfl rfl (cell_one_new (Wq.drewN nq) _ _) (fun x hx => by simp at hx; subst hx; rfl) (by unfold maxLen; have := hle.out; omega) (by have := hle.out; omega) (by simp; omega) ?_; intro v' w3 hown' hgrow3 hnil3)
            go_roundw
            case rel =>
              refine ⟨j + 1 + 1, by omega, by go_num, by rw [HSU.out], fun i hi => ?_, ?_, (show Box3 ((Wq.drewN nq).alloc _) w.heap.size 29 (.int .i64 m.size) (.slice a m.doors.length c) (.slice (some ⟨kb, ko, none⟩) m.keys.length d) from HXQ.out.alloc _).grown hgrow3 HNE.out, ((Below.drawnN (HN.out.trans (HBQ.out.mono hzr)) nq).alloc (by simp; omega) _).grown hgrow3 (by simp; omega) (own_base (HOQ.out nq))⟩
              · rcases Nat.lt_or_ge i (j + 1) with h | h
                · exact HA.out i h
                · obtain rfl : i = j + 1 := by omega
                  exact HY.out
              · rw [HT.out, HSU.out]
                simpa [M.encIs] using hown'
            case measure => simp [intOf]; omega
    · obtain rfl : k = walk.length := by omega
      obtain ⟨ra, rc, hv, hq1, hq2, ho⟩ := own_slice HO.out
      have HOS := Lib.hid ho
      have HLE := Lib.hid hlen
      subst hv
      clear ho hlen
      rcases Nat.eq_zero_or_pos walk.length with h0 | h0
      · have HF := Lib.hid (M.walkB_empty (m := m) h0)
        have HV := Lib.hid (M.takenV_no HF.out)
        have HE : Hid (M.takenTo m walk walk.length = []) := Lib.hid (by rw [h0]; rfl)
        have h0' := Lib.hid h0
        have hlz : (M.takenTo m walk walk.length).length = 0 := by rw [HE.out]; rfl
        have hd : decide ((0 : Int) < ((M.takenTo m walk walk.length).length : Int)) = false := decide_eq_false (by omega)
        have hd' : ¬ 0 < (M.takenTo m walk walk.length).length := by omega
        clear h0 hlz
        go_wp2_with fail
        go_ret2
        have HV2 : M.takenV m walk = M.takenTo m walk walk.length := by rw [HV.out, HE.out]
        rw [HF.out, HV2]
        exact intsOk_end HO.out HN.out
      · have HF := Lib.hid (M.walkB_yes h0 HA.out)
        have HV := Lib.hid (M.takenV_yes HF.out)
        have hd : decide ((0 : Int) < ((M.takenTo m walk walk.length).length : Int)) = true := decide_eq_true (by have := HLE.out; omega)
        have hd' : 0 < (M.takenTo m walk walk.length).length := by have := HLE.out; omega
        go_wp2_with fail
        go_ret2
        rw [HF.out, HV.out]
        exact intsOk_end HO.out HN.out
end C
end Go.Proofs.Ytcoaggnilgfjfaa
