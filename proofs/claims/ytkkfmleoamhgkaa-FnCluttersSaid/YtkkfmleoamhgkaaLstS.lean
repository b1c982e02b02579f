/-
  CONTRACTS of spec.l2Many, spec.l6Order and spec.l6Least: how many colours a set has; all sets in the order of a clutter; the least ones of a kind of sets, each in a new list; what lay in memory stays. Condition: sets of colours, a list of 64 bools that reads so.
-/
import Derived.Test.YtkkfmleoamhgkaaWinS
import Derived.Test.YtkkfmleoamhgkaaDigitsI
import Derived.BigQuiet
namespace Go.Proofs.Ytkkfmleoamhgkaa
open Go.RowKit
namespace M
def lowC (n : St6) (j : Nat) : Nat := (List.range j).countP fun c => n.val.testBit c
theorem lowC_step : ∀ n : St6, ∀ j : Fin 6, bits .and .i64 ((n.val / 2 ^ j.val : Nat) : Int) 1 = ((lowC n (j.val + 1) : Nat) : Int) - ((lowC n j.val : Nat) : Int) ∧ ((n.val / 2 ^ j.val : Nat) : Int) / 2 = ((n.val / 2 ^ (j.val + 1) : Nat) : Int) := by decide +kernel
theorem lowC_end : ∀ n : St6, ∀ j : Fin 7, n.val / 2 ^ j.val = 0 → lowC n j.val = cnt n := by decide +kernel
theorem lowC_le (n : St6) (j : Nat) : lowC n j ≤ j := by
  unfold lowC
  have := List.countP_le_length (p := fun c => n.val.testBit c) (l := List.range j)
  rwa [List.length_range] at this
theorem cnt_le (n : St6) : cnt n ≤ 6 := lowC_le n 6
/-- the sets with fewer than n colours, by their number of colours -/
def layersTo (n : Nat) : List St6 := (List.range n).flatMap fun i => selF fun a => cnt a == i
theorem layersTo_succ (n : Nat) : layersTo (n + 1) = layersTo n ++ selF fun a => cnt a == n := by unfold layersTo; rw [List.range_succ, List.flatMap_append]; simp
theorem layers_all : layersTo 7 = allS := by decide +kernel
theorem allS_len : allS.length = 64 := by decide +kernel
theorem leastB_bit (P : St6 → Bool) (a : St6) (c : Nat) : (List.range (c + 1)).all (fun c => !(a.val.testBit c && P (bit6 c a))) = ((List.range c).all (fun c => !(a.val.testBit c && P (bit6 c a))) && !(a.val.testBit c && P (bit6 c a))) := by
  rw [List.range_succ, List.all_append]; simp
def leastTo (P : St6 → Bool) (a : St6) (c : Nat) : Bool := P a && (List.range c).all fun c => !(a.val.testBit c && P (bit6 c a))
theorem leastTo_zero (P : St6 → Bool) (a : St6) : leastTo P a 0 = P a := by unfold leastTo; simp
theorem leastTo_no {P : St6 → Bool} {a : St6} {c : Nat} (h : (a.val.testBit c && P (bit6 c a)) = false) : leastTo P a (c + 1) = leastTo P a c := by
  unfold leastTo; rw [leastB_bit, h, Bool.not_false, Bool.and_true]
theorem leastTo_yes {P : St6 → Bool} {a : St6} {c : Nat} (h : (a.val.testBit c && P (bit6 c a)) = true) : leastTo P a (c + 1) = false := by
  unfold leastTo; rw [leastB_bit, h, Bool.not_true, Bool.and_false, Bool.and_false]
theorem leastTo_all (P : St6 → Bool) (a : St6) : leastTo P a 6 = leastB P a := rfl
theorem bit6_fin : ∀ a : St6, ∀ c : Fin 6, bits .xor .i64 (a.val : Int) (wrap64 (2 ^ c.val)) = ((bit6 c.val a).val : Int) ∧ IntKind.i64.wrap (2 ^ c.val) = wrap64 (2 ^ c.val) ∧ (bits .and .i64 ((a.val : Int) / 2 ^ c.val) 1 == 1) = a.val.testBit c.val := by decide +kernel
/-- what is kept of the first k sets in order -/
def leastUp (P : St6 → Bool) (k : Nat) : List St6 := (allS.take k).filter (leastB P)
theorem leastUp_yes {P : St6 → Bool} {k : Nat} (h : k < allS.length) (hp : leastB P allS[k] = true) : leastUp P (k + 1) = leastUp P k ++ [allS[k]] := by
  unfold leastUp
  rw [List.take_succ_eq_append_getElem h, List.filter_append, List.filter_cons_of_pos hp]
  rfl
theorem leastUp_no {P : St6 → Bool} {k : Nat} (h : k < allS.length) (hp : leastB P allS[k] = false) : leastUp P (k + 1) = leastUp P k := by
  unfold leastUp
  rw [List.take_succ_eq_append_getElem h, List.filter_append, List.filter_cons_of_neg (by rw [hp]; decide), List.filter_nil, List.append_nil]
theorem leastUp_len (P : St6 → Bool) (k : Nat) : (leastUp P k).length ≤ k := by
  unfold leastUp
  have := List.length_filter_le (leastB P) (allS.take k)
  rw [List.length_take] at this
  omega
theorem leastUp_all (P : St6 → Bool) : leastUp P 64 = leastF P := by unfold leastUp leastF; rw [List.take_of_length_le (by rw [allS_len]; exact Nat.le_refl _)]
end M
namespace C
set_option maxHeartbeats 3200000
set_option maxRecDepth 20000
theorem l2Many_any (n : M.St6) (w : World) : Calls Try.prog 50 #[.int .i64 (n.val : Int)] w fun e w' => e = .returned (.int .i64 (M.cnt n : Nat)) ∧ w = w' := by
  have HS := Lib.hid (fun (j : Nat) (hj : j < 6) => M.lowC_step n ⟨j, hj⟩)
  have HE := Lib.hid (fun (j : Nat) (hj : j < 7) => M.lowC_end n ⟨j, hj⟩)
  have h6 : Hid (n.val / 2 ^ 6 = 0) := Lib.hid (Nat.div_eq_of_lt n.isLt)
  have h1 : Hid (n.val / 2 ^ 0 = n.val) := Lib.hid (by simp)
  have HL := Lib.hid (M.lowC_le n)
  go_enter Try.func50, Try.ntmps50
  go_wp2_with fail
  go_loop [0, 3] (fun v0 v3 => ∃ (j : Nat), j ≤ 6 ∧ v0 = .int .i64 ((n.val / 2 ^ j : Nat) : Int) ∧ v3 = .int .i64 ((M.lowC n j : Nat) : Int)) (fun v0 _ => (intOf v0).toNat)
  case atStart => exact ⟨0, Nat.zero_le _, by rw [h1.out], rfl⟩
  case round =>
    obtain ⟨j, hj, rfl, rfl⟩ := hrel
    by_cases hp : 0 < n.val / 2 ^ j
    · have hj6 : j < 6 := by
        rcases Nat.lt_or_ge j 6 with h | h
        · exact h
        · obtain rfl : j = 6 := by omega
          rw [h6.out] at hp; omega
      obtain ⟨e1, e2⟩ := HS.out j hj6
      have hll := HL.out j
      have hll2 := HL.out (j + 1)
      have hlt : n.val / 2 ^ (j + 1) < n.val / 2 ^ j := by
        rw [Nat.pow_succ, ← Nat.div_div_eq_div_mul]; exact Nat.div_lt_self hp (by decide)
      generalize n.val / 2 ^ j = q at *
      generalize hq2 : n.val / 2 ^ (j + 1) = q2 at *
      generalize hc2 : M.lowC n (j + 1) = c2 at *
      generalize M.lowC n j = cc at *
      have HQ2 := Lib.hid hq2
      have HC2 := Lib.hid hc2
      clear hq2 hc2
      have hadd : (cc : Int) + ((c2 : Int) - (cc : Int)) = (c2 : Int) := by omega
      have hpi : (0 : Int) < (q : Int) := by omega
      go_wp2_with fail
      go_round
      case rel => exact ⟨j + 1, by omega, by rw [HQ2.out], by rw [HC2.out]⟩
      case measure => simp [intOf]; omega
    · have hz : n.val / 2 ^ j = 0 := Nat.eq_zero_of_not_pos hp
      have HZ := Lib.hid (HE.out j (by omega) hz)
      have hpi : ¬ (0 : Int) < ((n.val / 2 ^ j : Nat) : Int) := by omega
      rw [HZ.out]
      clear hz hp
      generalize n.val / 2 ^ j = q at *
      go_wp2_with fail
      go_ret
      exact ⟨rfl, rfl⟩
theorem l6Order_any (w : World) : Calls Try.prog 38 #[] w (IntsPost w (M.intsF M.allS)) := by
  obtain ⟨ii0, hi0, hz0, hzz1, hz2⟩ := info_parts infoI
  have HLA := Lib.hid M.layers_all
  go_enter Try.func38, Try.ntmps38
  go_wp2_with fail
  go_loopw [1, 2, 3] (fun v1 v2 _ wr => ∃ (n : Nat), n ≤ 7 ∧ v2 = .int .i64 n ∧ wr.ownsRow w.heap.size 3 1 v1 (M.layersTo n).length (M.encIs (M.intsF (M.layersTo n))) ∧ (M.layersTo n).length ≤ 64 * n ∧ Below w.heap.size w wr) (fun _ v2 _ _ => 7 - (intOf v2).toNat)
  case atStart => exact ⟨0, Nat.zero_le _, rfl, ownsRow_empty _ _ _ _ (Nat.le_refl _), by simp [M.layersTo], below_alloc _ _⟩
  case round =>
    obtain ⟨n, hn, rfl, hso, hlen, hlow⟩ := hrel
    obtain ⟨wo, hwo⟩ : ∃ x, x = wr := ⟨_, rfl⟩
    subst hwo
    obtain ⟨la, lc, hv, hl1, hl2, hrow0⟩ := own_slice hso
    subst hv
    by_cases hn7 : n < 7
    · have hn7' : (n : Int) ≤ 6 := by omega
      have HSU := Lib.hid (M.layersTo_succ n)
      have ST := Lib.hid (show wo.ownsRow w.heap.size 3 1 (.slice la (M.layersTo n).length lc) (M.layersTo n ++ M.selTo (fun a => M.cnt a == n) 0).length (M.encIs (M.intsF (M.layersTo n ++ M.selTo (fun a => M.cnt a == n) 0))) ∧ Below w.heap.size w wo from by rw [M.selTo_zero, List.append_nil]; exact ⟨hso, hlow⟩)
      clear hso hlow hrow0
      go_wp2_with fail
      go_loopw [1, 3] (fun v1 v3 wr => ∃ (k : Nat), k ≤ 64 ∧ v3 = .int .i64 k ∧ wr.ownsRow w.heap.size 3 1 v1 (M.layersTo n ++ M.selTo (fun a => M.cnt a == n) k).length (M.encIs (M.intsF (M.layersTo n ++ M.selTo (fun a => M.cnt a == n) k))) ∧ Below w.heap.size w wr) (fun _ v3 _ => 64 - (intOf v3).toNat)
      case atStart => exact ⟨0, Nat.zero_le _, rfl, ST.out.1, ST.out.2⟩
      case round =>
        obtain ⟨k, hk, rfl, hso, hlow⟩ := hrel
        obtain ⟨lb, ld, hv, hm1, hm2, _⟩ := own_slice hso
        subst hv
        have SO := Lib.hid hso
        have LO := Lib.hid hlow
        have hzr := hlow.size
        have hsl := M.selTo_len (fun a => M.cnt a == n) k
        have hll : (M.layersTo n ++ M.selTo (fun a => M.cnt a == n) k).length ≤ 64 * n + k := by rw [List.length_append]; omega
        clear hso hlow hsl
        by_cases hkl : k < 64
        · have HY := Lib.hid (fun (h : (M.cnt ⟨k, hkl⟩ == n) = true) => congrArg (M.layersTo n ++ ·) (M.selTo_yes (P := fun a => M.cnt a == n) hkl h))
          have HN := Lib.hid (fun (h : (M.cnt ⟨k, hkl⟩ == n) = false) => congrArg (M.layersTo n ++ ·) (M.selTo_no (P := fun a => M.cnt a == n) hkl h))
          have CM := Lib.hid (l2Many_any ⟨k, hkl⟩ wr)
          have hcl := M.cnt_le ⟨k, hkl⟩
          generalize M.cnt ⟨k, hkl⟩ = q at *
          generalize hrowlen : M.layersTo n ++ M.selTo (fun a => M.cnt a == n) k = rows at *
          have HR := Lib.hid hrowlen
          clear hrowlen
          by_cases hq : q = n
          · have HYE := Lib.hid (HY.out (by rw [beq_iff_eq]; exact hq))
            have hqb : ((q : Int) == (n : Int)) = true := by rw [beq_iff_eq]; omega
            have HQ := Lib.hid hq
            clear hq
            go_wp2_with fail
            refine CM.out.mono ?_
            rintro e w5 ⟨rfl, rfl⟩
            go_wp2_with (at_builtin; refine wpList_append_own _ rfl _ _ 24 rfl w.heap.size 3 ii0 (.int .i64 0) 1 8 Try.underlying24 hi0 hz0 hzz1 hz2 rfl (by decide) _ _ _ rfl (SO.out.alloc _) ⟨wr.heap.size, 0, none⟩ 1 1 [.int .i64 (k : Int)] rfl rfl (cell_one_new _ _ _) (fun x hx => by simp at hx; subst hx; rfl) (by unfold maxLen; omega) (by omega) (by simp; omega) ?_; intro v' w6 hown' hgrow3 hnil3)
            go_roundw
            case rel =>
              refine ⟨k + 1, by omega, by go_num, ?_, (LO.out.alloc (by omega) _).grown hgrow3 (by simp; omega) (own_base SO.out)⟩
              have e : M.layersTo n ++ M.selTo (fun a => M.cnt a == n) (k + 1) = rows ++ [⟨k, hkl⟩] := by rw [HYE.out, ← HR.out, List.append_assoc]
              rw [e, M.intsF_snoc, M.encIs_append, List.length_append]
              exact hown'
            case measure => simp [intOf]; omega
          · have HNO := Lib.hid (HN.out (by rw [beq_eq_false_iff_ne]; exact hq))
            have hqb : ((q : Int) == (n : Int)) = false := by rw [beq_eq_false_iff_ne]; omega
            have hqi : ¬ (q : Int) = (n : Int) := by omega
            clear hq
            go_wp2_with fail
            refine CM.out.mono ?_
            rintro e w5 ⟨rfl, rfl⟩
            go_wp2_with fail
            go_roundw
            case rel => exact ⟨k + 1, by omega, by go_num, by rw [HNO.out]; exact SO.out, LO.out⟩
            case measure => simp [intOf]; omega
        · obtain rfl : k = 64 := by omega
          go_wp2_with fail
          go_roundw
          case rel => exact ⟨n + 1, by omega, by go_num, by rw [HSU.out]; exact SO.out, by rw [HSU.out]; exact Nat.le_trans hll (by omega), LO.out⟩
          case measure => simp [intOf]; omega
    · obtain rfl : n = 7 := by omega
      rw [HLA.out] at hso hl1 ⊢
      rw [M.allS_len] at hl1 ⊢
      have SO := Lib.hid hso
      have LO := Lib.hid hlow
      have RO := Lib.hid hrow0
      clear hso hlow hrow0
      go_wp2_with fail
      go_ret
      refine ints_end (l := M.intsF M.allS) ?_ LO.out
      rw [M.intsF_len]
      have := SO.out
      rw [M.allS_len] at this ⊢
      exact this
theorem l6Least_any (w : World) (lo hi : Nat) (ba : Option Addr) (bc : Nat) (P : M.St6 → Bool) (h : RowIn lo hi w ba (M.encBs (M.boolsF P))) (hz : hi ≤ w.heap.size) (_hbc1 : 64 ≤ bc) (_hbc2 : bc ≤ 9223372036854775807) : Calls Try.prog 22 #[.slice ba 64 bc] w (IntsPost w (M.intsF (M.leastF P))) := by
  obtain ⟨ii0, hi0, hz0, hzz1, hz2⟩ := info_parts infoI
  have HB := Lib.hid h
  clear h
  have HBA := Lib.hid (fun s : M.St6 => M.boolsF_at P s)
  have HBL : Hid ((M.encBs (M.boolsF P)).length = 64) := Lib.hid (by rw [M.encBs_len, M.boolsF_len])
  have HAL := Lib.hid (M.leastUp_all P)
  have h64 := M.allS_len
  go_enter Try.func22, Try.ntmps22
  go_wp2_with fail
  refine named ?_
  intro W hW
  have hb : Below w.heap.size w W := by rw [hW]; exact below_alloc _ _
  have o2 : W.ownsRow w.heap.size 3 1 (.slice (some ⟨w.heap.size, 0, none⟩) 0 0) 0 (M.encIs (M.intsF (M.leastUp P 0))) := by rw [hW]; exact ownsRow_empty _ _ _ _ (Nat.le_refl _)
  clear hW
  refine (l6Order_any W).mono ?_
  rintro e w2 ⟨ra, rc, rfl, hr, hr1, hr2, hb2⟩
  rw [M.intsF_len, h64] at hr1 ⊢
  have HR := Lib.hid hr
  have hgW : w.heap.size < W.heap.size := (o2.lt w.heap.size rfl).2
  have ST := Lib.hid (show OwnQ w.heap.size w2 3 1 (.slice (some ⟨w.heap.size, 0, none⟩) 0 0) (M.leastUp P 0).length (M.encIs (M.intsF (M.leastUp P 0))) ∧ Below w.heap.size w w2 from ⟨OwnQ.of_own (own_below o2 hb2), hb.trans (hb2.mono hb.size)⟩)
  have hzW := hb.size
  have hz2' := hb2.size
  clear hr hb hb2 o2
  go_wp2_with fail
  go_loopw [3, 5, 6, 7] (fun v3 v5 _ _ wr => ∃ (k : Nat), k ≤ 64 ∧ v5 = .int .i64 k ∧ OwnQ w.heap.size wr 3 1 v3 (M.leastUp P k).length (M.encIs (M.intsF (M.leastUp P k))) ∧ (∀ z, v3.ownBlock = some z → z < W.heap.size ∨ w2.heap.size ≤ z) ∧ Below w.heap.size w wr ∧ OwnAt W.heap.size w2.heap.size wr 3 ra (M.encIs (M.intsF M.allS)) ∧ w2.heap.size ≤ wr.heap.size) (fun _ v5 _ _ _ => 64 - (intOf v5).toNat)
  case atStart => exact ⟨0, Nat.zero_le _, rfl, ST.out.1, fun z hz => by (have : w.heap.size = z := by simpa [Value.ownBlock] using hz); omega, ST.out.2, HR.out, Nat.le_refl _⟩
  case round =>
    obtain ⟨k, hk, rfl, hso, hnb, hlow, hrow, hsz⟩ := hrel
    obtain ⟨wo, hwo⟩ : ∃ x, x = wr := ⟨_, rfl⟩
    subst hwo
    obtain ⟨la, lc, hv, hl1, hl2⟩ := hso.shape
    have NB := Lib.hid hnb
    have hbs := Lib.hid hso.base
    clear hnb
    subst hv
    have SO := Lib.hid hso
    have LO := Lib.hid hlow
    have RO := Lib.hid hrow
    have hzr := hlow.size
    have hul := M.leastUp_len P k
    clear hso hlow hrow
    by_cases hkl : k < 64
    · have hk64 : k < M.allS.length := by rw [h64]; exact hkl
      obtain ⟨rb, off, hra, hr3, hr4, hc0⟩ := RO.out.row.at_ (k := k) (by rw [M.encIs_len, M.intsF_len]; exact hk64)
      have c0 : wo.cell? ⟨rb, off + k, none⟩ = some (.int .i64 ((M.allS[k]).val : Int)) := hc0 _ _ (by rw [M.encIs_at (by rw [M.intsF_len]; exact hk64), M.intsF_at hk64])
      have HY := Lib.hid (fun h => M.leastUp_yes (P := P) hk64 h)
      have HN := Lib.hid (fun h => M.leastUp_no (P := P) hk64 h)
      clear hc0
      subst hra
      generalize M.allS[k] = a at *
      have ha := a.isLt
      have hB2 := HB.out.below LO.out hz
      obtain ⟨bb, boff, hba, hb3, hb4, hbc⟩ := hB2.at_ (k := a.val) (by rw [HBL.out]; exact ha)
      have d0 := hbc _ _ (HBA.out a)
      have HCE := Lib.hid (fun s : M.St6 => hbc _ _ (HBA.out s))
      have hbl : bb < wo.heap.size := by omega
      clear hbc hB2
      subst hba
      have HT0 := Lib.hid (M.leastTo_zero P a)
      have HT6 := Lib.hid (M.leastTo_all P a)
      have hbit := Lib.hid (fun (c : Nat) (hc : c < 6) => M.bit6_fin a ⟨c, hc⟩)
      go_wp2_with fail
      go_loopw [6, 7] (fun v6 v7 wr => ∃ (c : Nat), c ≤ 6 ∧ v7 = .int .i64 c ∧ v6 = .bool (M.leastTo P a c) ∧ Below wo.heap.size wo wr) (fun _ v7 _ => 6 - (intOf v7).toNat)
      case atStart => exact ⟨0, Nat.zero_le _, rfl, by rw [HT0.out], Below.refl _ _⟩
      case round =>
        obtain ⟨c, hc, rfl, rfl, hni⟩ := hrel
        have HI := Lib.hid hni
        have hzi := hni.size
        clear hni
        have q0 : wr.cell? ⟨rb, off + k, none⟩ = some (.int .i64 (a.val : Int)) := (HI.out.cell (p := ⟨rb, off + k, none⟩) (show rb < wo.heap.size by omega)).trans c0
        by_cases hc6 : c < 6
        · obtain ⟨e1, e2, e3⟩ := hbit.out c hc6
          have HNO := Lib.hid (fun h => M.leastTo_no (P := P) (a := a) (c := c) h)
          have HYE := Lib.hid (fun h => M.leastTo_yes (P := P) (a := a) (c := c) h)
          have hcb := (M.bit6 c a).isLt
          have hc0' : ¬ (c : Int) < 0 := by omega
          have d1 : wr.cell? ⟨bb, boff + (M.bit6 c a).val, none⟩ = some (.bool (P (M.bit6 c a))) := (HI.out.cell (p := ⟨bb, boff + (M.bit6 c a).val, none⟩) hbl).trans (HCE.out (M.bit6 c a))
          have E0 := cell_grown (a := ⟨rb, off + k, none⟩) (show rb < wr.heap.size by omega) q0
          have E1 := cell_grown (a := ⟨bb, boff + (M.bit6 c a).val, none⟩) (show bb < wr.heap.size by omega) d1
          cases hb1 : a.val.testBit c with
          | false =>
            rw [hb1] at e3
            have HQ := Lib.hid (HNO.out (by rw [hb1]; rfl))
            clear hb1 e1 e2 d1 E1 q0
            have mixed : Try.prog.follows .mixedOrders = true := by kernel_rfl
            go_wp2_with fail
            refine wp_region_quiet_grown (by assumption) (by kernel_rfl) ?_
            repeat (first | go_big_quiet_step (fail) | quiet_step (fail))
            refine wpQuiet_nil ?_
            intro _ hw'
            obtain ⟨⟨nq, osq⟩, hw''⟩ := hw'
            subst hw''
            go_wp2_with fail
            go_roundw
            case rel => exact ⟨c + 1, by omega, by go_num, by rw [HQ.out], HI.out.trans ((below_grown wr nq osq).mono hzi)⟩
            case measure => simp [intOf]; omega
          | true =>
            rw [hb1] at e3
            cases hpb : P (M.bit6 c a) with
            | false =>
              have HQ := Lib.hid (HNO.out (by rw [hb1, hpb]; rfl))
              rw [hpb] at E1
              clear hb1 hpb d1 q0
              generalize M.bit6 c a = a2 at *
              generalize wrap64 (2 ^ c) = pw at *
              have mixed : Try.prog.follows .mixedOrders = true := by kernel_rfl
              go_wp2_with fail
              refine wp_region_quiet_grown (by assumption) (by kernel_rfl) ?_
              repeat (first | go_big_quiet_step (fail) | quiet_step (fail))
              refine wpQuiet_nil ?_
              intro _ hw'
              obtain ⟨⟨nq, osq⟩, hw''⟩ := hw'
              subst hw''
              go_wp2_with fail
              go_roundw
              case rel => exact ⟨c + 1, by omega, by go_num, by rw [HQ.out], HI.out.trans ((below_grown wr nq osq).mono hzi)⟩
              case measure => simp [intOf]; omega
            | true =>
              have HQ := Lib.hid (HYE.out (by rw [hb1, hpb]; rfl))
              rw [hpb] at E1
              clear hb1 hpb d1 q0
              generalize M.bit6 c a = a2 at *
              generalize wrap64 (2 ^ c) = pw at *
              have mixed : Try.prog.follows .mixedOrders = true := by kernel_rfl
              go_wp2_with fail
              refine wp_region_quiet_grown (by assumption) (by kernel_rfl) ?_
              repeat (first | go_big_quiet_step (fail) | quiet_step (fail))
              refine wpQuiet_nil ?_
              intro _ hw'
              obtain ⟨⟨nq, osq⟩, hw''⟩ := hw'
              subst hw''
              go_wp2_with fail
              go_roundw
              case rel => exact ⟨c + 1, by omega, by go_num, by rw [HQ.out], HI.out.trans ((below_grown wr nq osq).mono hzi)⟩
              case measure => simp [intOf]; omega
        · obtain rfl : c = 6 := by omega
          have SO5 := Lib.hid (SO.out.below HI.out)
          have LO5 := Lib.hid (LO.out.trans (HI.out.mono hzr))
          have RO5 := Lib.hid (RO.out.below HI.out hsz)
          rw [HT6.out]
          cases hlb : M.leastB P a with
          | false =>
            have HQ := Lib.hid (HN.out hlb)
            clear hlb
            go_wp2_with fail
            go_roundw
            case rel => exact ⟨k + 1, by omega, by go_num, by rw [HQ.out]; exact SO5.out, NB.out, LO5.out, RO5.out, by omega⟩
            case measure => simp [intOf]; omega
          | true =>
            have HQ := Lib.hid (HY.out hlb)
            clear hlb
            go_wp2_with (at_builtin; refine wpList_append_q rfl _ _ 24 rfl w.heap.size 3 ii0 (.int .i64 0) 1 8 Try.underlying24 hi0 hz0 hzz1 hz2 rfl _ _ _ rfl (SO5.out.below (below_alloc _ _)) ⟨wr.heap.size, 0, none⟩ 1 [.int .i64 (a.val : Int)] rfl rfl (cell_one_new _ _ _) (fun x hx => by simp at hx; subst hx; rfl) (by unfold maxLen; omega) (by omega) (by simp; omega) ?_; intro v' w7 hown' hgrow3 hnil3)
            go_roundw
            case rel =>
              refine ⟨k + 1, by omega, by go_num, ?_, ?_, (LO5.out.alloc (by omega) _).grown hgrow3 (by simp; omega) (fun z hz => (hbs.out z hz).1), (RO5.out.below (below_alloc _ _) (by omega)).grownRow hgrow3 (by simp; omega) NB.out, by have := hgrow3.size; simp at this; omega⟩
              · rw [HQ.out, M.intsF_snoc, M.encIs_append, List.length_append]
                exact hown'
              · intro z hz
                rcases hnil3 with e | e
                · rw [e] at hz; exact NB.out z hz
                · rw [e] at hz
                  injection hz with hz
                  have : wr.heap.size + 1 = z := by simpa using hz
                  omega
            case measure => simp [intOf]; omega
    · obtain rfl : k = 64 := by omega
      go_wp2_with fail
      go_ret
      have ho := SO.out.own rfl
      rw [HAL.out] at ho hl1
      exact ⟨la, lc, by rw [M.intsF_len, ← HAL.out]; rfl, ho, by rw [M.intsF_len]; exact hl1, by unfold maxLen at hl2; omega, LO.out⟩
end C
end Go.Proofs.Ytkkfmleoamhgkaa
