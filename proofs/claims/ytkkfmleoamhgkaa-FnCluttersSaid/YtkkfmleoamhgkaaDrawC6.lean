/-
  CONTRACTS of the cursor's draws of a clutter and of a set of colours. Conditions: as for the cursor.
-/
import Derived.Test.YtkkfmleoamhgkaaDrawL
namespace Go.Proofs.Ytkkfmleoamhgkaa
open Go.RowKit
namespace C
set_option maxHeartbeats 3200000
set_option maxRecDepth 20000
theorem below_grow {w w' : World} (h : Below w.heap.size w w') (row : Option Nat) : w.grownBy w' row := ⟨h.os, h.tape, h.output, h.size, fun i hi _ => h.block i hi⟩
theorem st6_i64 (l : List M.St6) : ∀ z ∈ M.intsF l, I64 z := fun z hz => by have := M.mem_intsF hz; unfold I64; omega
theorem cluV_i64 (l : List Int) : ∀ z ∈ M.cluV l, I64 z := fun z hz => by
  cases h : M.keysB l with
  | false => rw [M.cluV_no h] at hz; cases hz
  | true =>
    obtain ⟨sl, _, hc⟩ := M.cluV_yes h
    rw [hc] at hz
    exact st6_i64 _ z hz
theorem colours_any (B : Nat) (w : World) (g : Nat) (a : Option Addr) (len cap p : Nat) (h : CurAt B w g a len cap p) (hp : p ≤ 1073730000) :
    Calls Try.prog 35 #[.pointer (some ⟨g, 0, none⟩)] w (DrawPost B w g a len cap p 20 I64) := by
  have hlt := h.lt
  have ON := Lib.hid (one_any B w g a len cap p 30 h (by omega) (by omega) (by omega))
  clear h
  go_enter Try.func35, Try.ntmps35
  go_wp2_with fail
  refine (ON.out).mono ?_
  rintro e w1 ⟨bo, rfl, hc1, hg1⟩
  have C1 := Lib.hid hc1
  have G1 := Lib.hid hg1
  have hz1 := hg1.size
  clear hc1 hg1 ON
  cases bo with
  | true =>
    have AM := Lib.hid (among_new B w1 g a len cap _ [63, 64, -1, 4611686018427387904] C1.out (by omega) (by decide) (by decide) 3 4 rfl 4 (Nat.le_refl _) #[.int .i64 63, .int .i64 64, .int .i64 (-1), .int .i64 4611686018427387904] rfl)
    go_wp2_with fail
    refine (AM.out).mono ?_
    rintro e w2 ⟨s, rfl, hs, hc2, hg2⟩
    have hs2 : I64 s := by
      unfold I64
      simp at hs
      omega
    have C2 := Lib.hid hc2
    have G2 := Lib.hid (grown_trans G1.out hg2)
    have SS := Lib.hid hs2
    clear hs hs2 hc2 hg2 AM
    go_wp2_with fail
    go_ret
    exact ⟨s, rfl, SS.out, C2.out.mono (by omega), G2.out⟩
  | false =>
    have PK := Lib.hid (pick_any B w1 g a len cap _ 4 C1.out (by omega) (by omega) (by omega))
    go_wp2_with fail
    refine (PK.out).mono ?_
    rintro e w2 ⟨s, rfl, hs0, hs1, hc2, hg2⟩
    obtain ⟨k0, rfl⟩ : ∃ k : Nat, s = k := ⟨s.toNat, by omega⟩
    have hk0 : k0 ≤ 3 := by omega
    have C2 := Lib.hid hc2
    have G2 := Lib.hid (grown_trans G1.out hg2)
    clear hc2 hg2 PK hs0 hs1
    go_wp2_with fail
    go_loopw [3, 4] (fun v3 v4 wr => ∃ (k : Nat) (r : Int), k ≤ k0 ∧ v4 = .int .i64 (k : Int) ∧ v3 = .int .i64 r ∧ 0 ≤ r ∧ r < 64 ∧ CurAt B wr g a len cap (p + 4 + 2 * (k0 - k)) ∧ w.grownBy wr (some g)) (fun _ v4 _ => (intOf v4).toNat)
    case atStart => exact ⟨k0, 0, Nat.le_refl _, rfl, rfl, by decide, by decide, C2.out.mono (by omega), G2.out⟩
    case round =>
      obtain ⟨k, r, hk, rfl, rfl, hr0, hr1, hc, hg⟩ := hrel
      have PK := Lib.hid (pick_any B wr g a len cap _ 6 hc (by omega) (by omega) (by omega))
      have GG := Lib.hid hg
      have CC := Lib.hid hc
      clear hc hg
      by_cases hk0' : k = 0
      · subst hk0'
        go_wp2_with fail
        go_ret
        exact ⟨r, rfl, by unfold I64; omega, CC.out.mono (by omega), GG.out⟩
      · obtain ⟨j, rfl⟩ : ∃ j, k = j + 1 := ⟨k - 1, by omega⟩
        have hkp : (0 : Int) < ((j + 1 : Nat) : Int) := by omega
        go_wp2_with fail
        refine (PK.out).mono ?_
        rintro e w3 ⟨x, rfl, hx0, hx1, hc3, hg3⟩
        have C3 := Lib.hid hc3
        have G3 := Lib.hid (grown_trans GG.out hg3)
        have hsh := shl_bd x hx0 (by omega)
        have hor := M.or_set hr0 hr1 hsh.1 hsh.2
        clear hc3 hg3 PK
        have hx64 : ¬ x < 0 := by omega
        go_wp2_with fail
        go_roundw
        case rel => exact ⟨j, _, by omega, by go_num, rfl, hor.1, hor.2, C3.out.mono (by omega), G3.out⟩
        case measure => simp [intOf]
theorem clutter_any (B : Nat) (w : World) (g : Nat) (a : Option Addr) (len cap p : Nat) (h : CurAt B w g a len cap p) (hp : p ≤ 1073720000) :
    Calls Try.prog 34 #[.pointer (some ⟨g, 0, none⟩)] w (LPost B w g a len cap p 70 64) := by
  obtain ⟨ii0, hi0, hz0, hzz1, hz2⟩ := info_parts infoI
  have hlt := h.lt
  have hgB := h.1
  have ST := Lib.hid (sets_any B w g a len cap p h (by omega))
  clear h
  go_enter Try.func34, Try.ntmps34
  go_wp2_with fail
  refine (ST.out).mono ?_
  rintro e w1 ⟨l, la, lc, rfl, ho, hl1, hl2, hl3, hl4, hc1, hg1⟩
  have hz1 := hg1.size
  have O1 := Lib.hid ho
  have C1 := Lib.hid hc1
  have G1 := Lib.hid hg1
  have L1 := Lib.hid hl4
  have CO := Lib.hid (specCo_lw w1 w.heap.size w1.heap.size la lc l ho.row (Nat.le_refl _) (by omega) hl1 hl2 (fun z hz => hl4 z hz))
  clear ho hc1 hg1 hl4 ST
  go_wp2_with fail
  refine (CO.out).mono ?_
  rintro e w2 ⟨ca, cc, rfl, hco, hcc1, hcc2, hb2⟩
  have hz2' := hb2.size
  have hclen : (M.cluV l).length ≤ 64 := by
    cases hk : M.keysB l with
    | false => rw [M.cluV_no hk]; simp
    | true =>
      obtain ⟨sl, _, hc⟩ := M.cluV_yes hk
      rw [hc, M.intsF_len]
      exact M.asc_len (M.cluF_asc sl)
  have LV := Lib.hid (cluV_i64 l)
  have OC := Lib.hid hco
  have O2 := Lib.hid (O1.out.below hb2 (Nat.le_refl _))
  have C2 := Lib.hid (C1.out.other (below_grow hb2 none) (fun k e => by cases e) (by simp))
  have G2 := Lib.hid (grown_trans G1.out (below_grow hb2 (some g)))
  clear hco hb2 CO
  have FIN : Hid (∀ (w3 : World), CurAt B w3 g a len cap (p + 60 + 2) → w2.grownBy w3 (some g) → LPost B w g a len cap p 70 64 (.returned (.slice ca (M.cluV l).length cc)) w3) := Lib.hid (fun w3 hc hg =>
    ⟨M.cluV l, ca, cc, rfl, (OC.out.grownRow hg (Nat.le_refl _) (fun z e => by injection e with e; omega)).mono (by omega) hg.size, hcc1, hcc2, hclen, LV.out, hc.mono (by omega), grown_trans G2.out hg⟩)
  have REST : Hid (∀ (w3 : World), w2.grownBy w3 (some g) → OwnAt w.heap.size w1.heap.size w3 3 la (M.encIs l)) := Lib.hid (fun w3 hg => O2.out.grownRow hg hz2' (fun z e => by injection e with e; omega))
  have ON := Lib.hid (one_any B w2 g a len cap _ 12 C2.out (by omega) (by omega) (by omega))
  have ON4 := Lib.hid (fun (w3 : World) (hc : CurAt B w3 g a len cap (p + 60 + 2)) => one_any B w3 g a len cap (p + 60 + 2) 4 hc (by omega) (by omega) (by omega))
  generalize M.cluV l = cl at *
  generalize M.keysB l = kb at *
  have TAIL : Hid (∀ (w3 : World), CurAt B w3 g a len cap (p + 60 + 2) → w2.grownBy w3 (some g) → True) := Lib.hid (fun _ _ _ => trivial)
  cases kb with
  | true =>
    go_wp2_with fail
    refine (ON.out).mono ?_
    rintro e w3 ⟨bo, rfl, hc3, hg3⟩
    cases bo with
    | false =>
      have F := Lib.hid (FIN.out w3 hc3 hg3)
      clear hc3 hg3
      go_wp2_with fail
      go_ret
      exact F.out
    | true =>
      have hz3' := hg3.size
      have O3 := Lib.hid (REST.out w3 hg3)
      have C3 := Lib.hid hc3
      have G3 := Lib.hid (grown_trans G2.out hg3)
      have ON5 := Lib.hid (ON4.out w3 hc3)
      clear hc3 hg3 ON ON4
      go_wp2_with fail
      refine (ON5.out).mono ?_
      rintro e w4 ⟨bo, rfl, hc4, hg4⟩
      have hz4' := hg4.size
      have O4 := Lib.hid (O3.out.grownRow hg4 (by omega) (fun z e => by injection e with e; omega))
      have C4 := Lib.hid hc4
      have G4 := Lib.hid (grown_trans G3.out hg4)
      clear hc4 hg4 ON5
      cases bo with
      | false =>
        go_wp2_with fail
        go_ret
        exact ⟨l, la, lc, rfl, O4.out.mono (Nat.le_refl _) (by omega), hl1, hl2, by omega, L1.out, C4.out.mono (by omega), G4.out⟩
      | true =>
        go_wp2_with fail
        refine wp_named ?_
        intro W hW
        have OW : Hid (OwnQ w.heap.size W 3 1 (.slice (some ⟨w4.heap.size, 0, none⟩) 0 0) 0 (M.encIs [])) := Lib.hid (by rw [hW]; exact (OwnQ.of_own (ownsRow_empty w4 w4.heap.size 3 1 (Nat.le_refl _))).mono (by omega))
        have CW : Hid (CurAt B W g a len cap (p + 60 + 2 + 2)) := Lib.hid (by rw [hW]; exact C4.out.other (grown_alloc w4 _ none) (fun k e => by cases e) (by simp))
        have GW : Hid (w.grownBy W (some g)) := Lib.hid (by rw [hW]; exact grown_trans G4.out (grown_alloc w4 _ _))
        clear hW
        go_loopw [3, 6] (fun v3 v6 wr => ∃ (k : Nat) (xs : List Int), k ≤ 64 ∧ xs.length ≤ k ∧ v6 = .int .i64 (k : Int) ∧ OwnQ w.heap.size wr 3 1 v3 xs.length (M.encIs xs) ∧ (∀ z ∈ xs, I64 z) ∧ CurAt B wr g a len cap (p + 60 + 2 + 2) ∧ w.grownBy wr (some g)) (fun _ v6 _ => 64 - (intOf v6).toNat)
        case atStart => exact ⟨0, [], by omega, by simp, rfl, OW.out, (fun z hz => by cases hz), CW.out, GW.out⟩
        case round =>
          obtain ⟨k, xs, hk, hxk, rfl, hox, hx, hc, hg⟩ := hrel
          obtain ⟨xa, xc, hv, hx1, hx2⟩ := hox.shape
          have hbs := Lib.hid hox.base
          subst hv
          have OO := Lib.hid hox
          have XX := Lib.hid hx
          have GG := Lib.hid hg
          have CC := Lib.hid hc
          have hzr := hg.size
          clear hox hx hg hc
          have hrowb : Hid (∀ z, (Value.slice xa xs.length xc).ownBlock = some z → w.heap.size ≤ z) := Lib.hid (fun z hz => (hbs.out z hz).1)
          by_cases hk64 : k < 64
          · have LM := Lib.hid (l2Many_any ⟨k, hk64⟩ wr)
            have hk64i : (k : Int) < 64 := by omega
            go_wp2_with fail
            refine (LM.out).mono ?_
            rintro e wq ⟨rfl, rfl⟩
            clear LM
            by_cases hm : M.cnt ⟨k, hk64⟩ = 3
            · rw [hm]
              go_wp2_with (at_builtin; refine wpList_append_q rfl _ _ 24 rfl w.heap.size 3 ii0 (.int .i64 0) 1 8 Try.underlying24 hi0 hz0 hzz1 hz2 rfl _ _ _ rfl (OO.out.below (below_alloc _ _)) ⟨wr.heap.size, 0, none⟩ 1 [.int .i64 (k : Int)] rfl rfl (cell_one_new _ _ _) (fun x hx => by simp at hx; subst hx; rfl) (by unfold maxLen; omega) (by omega) (by simp; omega) ?_; intro v' w7 hown' hgrow3 hnil3)
              go_roundw
              case rel =>
                refine ⟨k + 1, xs ++ [(k : Int)], by omega, by simp; omega, by go_num, ?_, fun z hz => ?_, ?_, ?_⟩
                · rw [M.encIs_append, List.length_append]
                  exact hown'
                · rcases List.mem_append.1 hz with q | q
                  · exact XX.out z q
                  · rw [List.mem_singleton] at q; subst q; unfold I64; omega
                · exact (CC.out.other (grown_alloc wr _ none) (fun k e => by cases e) (by simp)).other hgrow3 (fun z hz => by have := hrowb.out z hz; omega) (fun e => by have := hrowb.out g e.symm; omega)
                · exact grown_far (grown_far GG.out (grown_alloc wr _ none) (fun z e => by cases e)) hgrow3 hrowb.out
              case measure => simp [intOf]; omega
            · have hmi : (((M.cnt ⟨k, hk64⟩ : Nat) : Int) == 3) = false := by rw [beq_eq_false_iff_ne]; omega
              go_wp2_with fail
              go_roundw
              case rel => exact ⟨k + 1, xs, by omega, by omega, by go_num, OO.out, XX.out, CC.out, GG.out⟩
              case measure => simp [intOf]; omega
          · obtain rfl : k = 64 := by omega
            have hfo := Lib.hid (OO.out.own rfl)
            go_wp2_with fail
            go_ret
            exact ⟨xs, xa, xc, rfl, hfo.out, hx1, by unfold maxLen at hx2; omega, by omega, XX.out, CC.out.mono (by omega), GG.out⟩
  | false =>
    have C3 : Hid (CurAt B w2 g a len cap (p + 60 + 2)) := Lib.hid (C2.out.mono (by omega))
    have hz3' : w2.heap.size ≤ w2.heap.size := Nat.le_refl _
    have O3 := Lib.hid O2.out
    have G3 := Lib.hid G2.out
    have ON5 := Lib.hid (ON4.out w2 C3.out)
    clear ON ON4
    go_wp2_with fail
    refine (ON5.out).mono ?_
    rintro e w4 ⟨bo, rfl, hc4, hg4⟩
    have hz4' := hg4.size
    have O4 := Lib.hid (O3.out.grownRow hg4 (by omega) (fun z e => by injection e with e; omega))
    have C4 := Lib.hid hc4
    have G4 := Lib.hid (grown_trans G3.out hg4)
    clear hc4 hg4 ON5
    cases bo with
    | false =>
      go_wp2_with fail
      go_ret
      exact ⟨l, la, lc, rfl, O4.out.mono (Nat.le_refl _) (by omega), hl1, hl2, by omega, L1.out, C4.out.mono (by omega), G4.out⟩
    | true =>
      go_wp2_with fail
      refine wp_named ?_
      intro W hW
      have OW : Hid (OwnQ w.heap.size W 3 1 (.slice (some ⟨w4.heap.size, 0, none⟩) 0 0) 0 (M.encIs [])) := Lib.hid (by rw [hW]; exact (OwnQ.of_own (ownsRow_empty w4 w4.heap.size 3 1 (Nat.le_refl _))).mono (by omega))
      have CW : Hid (CurAt B W g a len cap (p + 60 + 2 + 2)) := Lib.hid (by rw [hW]; exact C4.out.other (grown_alloc w4 _ none) (fun k e => by cases e) (by simp))
      have GW : Hid (w.grownBy W (some g)) := Lib.hid (by rw [hW]; exact grown_trans G4.out (grown_alloc w4 _ _))
      clear hW
      go_loopw [3, 6] (fun v3 v6 wr => ∃ (k : Nat) (xs : List Int), k ≤ 64 ∧ xs.length ≤ k ∧ v6 = .int .i64 (k : Int) ∧ OwnQ w.heap.size wr 3 1 v3 xs.length (M.encIs xs) ∧ (∀ z ∈ xs, I64 z) ∧ CurAt B wr g a len cap (p + 60 + 2 + 2) ∧ w.grownBy wr (some g)) (fun _ v6 _ => 64 - (intOf v6).toNat)
      case atStart => exact ⟨0, [], by omega, by simp, rfl, OW.out, (fun z hz => by cases hz), CW.out, GW.out⟩
      case round =>
        obtain ⟨k, xs, hk, hxk, rfl, hox, hx, hc, hg⟩ := hrel
        obtain ⟨xa, xc, hv, hx1, hx2⟩ := hox.shape
        have hbs := Lib.hid hox.base
        subst hv
        have OO := Lib.hid hox
        have XX := Lib.hid hx
        have GG := Lib.hid hg
        have CC := Lib.hid hc
        have hzr := hg.size
        clear hox hx hg hc
        have hrowb : Hid (∀ z, (Value.slice xa xs.length xc).ownBlock = some z → w.heap.size ≤ z) := Lib.hid (fun z hz => (hbs.out z hz).1)
        by_cases hk64 : k < 64
        · have LM := Lib.hid (l2Many_any ⟨k, hk64⟩ wr)
          have hk64i : (k : Int) < 64 := by omega
          go_wp2_with fail
          refine (LM.out).mono ?_
          rintro e wq ⟨rfl, rfl⟩
          clear LM
          by_cases hm : M.cnt ⟨k, hk64⟩ = 3
          · rw [hm]
            go_wp2_with (at_builtin; refine wpList_append_q rfl _ _ 24 rfl w.heap.size 3 ii0 (.int .i64 0) 1 8 Try.underlying24 hi0 hz0 hzz1 hz2 rfl _ _ _ rfl (OO.out.below (below_alloc _ _)) ⟨wr.heap.size, 0, none⟩ 1 [.int .i64 (k : Int)] rfl rfl (cell_one_new _ _ _) (fun x hx => by simp at hx; subst hx; rfl) (by unfold maxLen; omega) (by omega) (by simp; omega) ?_; intro v' w7 hown' hgrow3 hnil3)
            go_roundw
            case rel =>
              refine ⟨k + 1, xs ++ [(k : Int)], by omega, by simp; omega, by go_num, ?_, fun z hz => ?_, ?_, ?_⟩
              · rw [M.encIs_append, List.length_append]
                exact hown'
              · rcases List.mem_append.1 hz with q | q
                · exact XX.out z q
                · rw [List.mem_singleton] at q; subst q; unfold I64; omega
              · exact (CC.out.other (grown_alloc wr _ none) (fun k e => by cases e) (by simp)).other hgrow3 (fun z hz => by have := hrowb.out z hz; omega) (fun e => by have := hrowb.out g e.symm; omega)
              · exact grown_far (grown_far GG.out (grown_alloc wr _ none) (fun z e => by cases e)) hgrow3 hrowb.out
            case measure => simp [intOf]; omega
          · have hmi : (((M.cnt ⟨k, hk64⟩ : Nat) : Int) == 3) = false := by rw [beq_eq_false_iff_ne]; omega
            go_wp2_with fail
            go_roundw
            case rel => exact ⟨k + 1, xs, by omega, by omega, by go_num, OO.out, XX.out, CC.out, GG.out⟩
            case measure => simp [intOf]; omega
        · obtain rfl : k = 64 := by omega
          have hfo := Lib.hid (OO.out.own rfl)
          go_wp2_with fail
          go_ret
          exact ⟨xs, xa, xc, rfl, hfo.out, hx1, by unfold maxLen at hx2; omega, by omega, XX.out, CC.out.mono (by omega), GG.out⟩
end C
end Go.Proofs.Ytkkfmleoamhgkaa
