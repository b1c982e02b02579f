/-
  CONTRACT of spec.l5Next: the list of the nodes that can be entered next, in memory of the call's own; what lay in memory stays. Condition: a valid maze, a number whose digits tell nodes of it.
-/
import Derived.Test.YtdjmmgfjcchloaaOpenTo
import Derived.Test.YtdjmmgfjcchloaaOrdMath2
namespace Go.Proofs.Ytdjmmgfjcchloaa
open Go.RowKit
namespace M
theorem digs_upto {n s : Nat} (hs : s ≤ 12) (h : ∀ p, digB n p = true → p < s) : digsTo n s = digsTo n 12 :=
  (digsTo_asc n s).ext ordI (digsTo_asc n 12) fun x => by
    rw [mem_digsTo, mem_digsTo]
    constructor
    · rintro ⟨p, h1, h2, h3⟩; exact ⟨p, h1, by omega, h3⟩
    · rintro ⟨p, h1, h2, h3⟩; exact ⟨p, h1, h p h3, h3⟩
def nextUp (m : Mz) (n k : Nat) : List Int := ((List.range k).filter (nextB m n)).map fun p : Nat => (p : Int)
theorem nextUp_yes {m : Mz} {n k : Nat} (h : nextB m n k = true) : nextUp m n (k + 1) = nextUp m n k ++ [(k : Int)] := by
  unfold nextUp; rw [List.range_succ, List.filter_append, List.filter_cons_of_pos h]; simp
theorem nextUp_no {m : Mz} {n k : Nat} (h : nextB m n k = false) : nextUp m n (k + 1) = nextUp m n k := by
  unfold nextUp; rw [List.range_succ, List.filter_append, List.filter_cons_of_neg (by rw [h]; decide)]; simp
theorem nextUp_len (m : Mz) (n k : Nat) : (nextUp m n k).length ≤ k := by
  unfold nextUp
  rw [List.length_map]
  have := List.length_filter_le (nextB m n) (List.range k)
  simpa using this
theorem nextUp_end {m : Mz} (V : Valid m) (n : Nat) : nextUp m n m.size.toNat = nextL m n := by
  have h12 := V.size12
  have h1 := V.size1
  have key : ∀ j, nextUp m n (m.size.toNat + j) = nextUp m n m.size.toNat := by
    intro j
    induction j with
    | zero => rfl
    | succ j ih =>
      rw [← Nat.add_assoc, nextUp_no, ih]
      cases h : nextB m n (m.size.toNat + j) with
      | false => rfl
      | true => have := nextB_lt V h; omega
  have := key (12 - m.size.toNat)
  rw [show m.size.toNat + (12 - m.size.toNat) = 12 by omega] at this
  rw [← this]
  rfl
/-- pairs of nodes looked at for y: none so far -/
theorem nextB_none {m : Mz} (V : Valid m) {n y : Nat} (h : ∀ x : Nat, (x : Int) < m.size → ¬ (digB n x = true ∧ openB m.doors (x : Int) (y : Int) (keysN m n) = true)) : nextB m n y = false := by
  cases hd : digB n y with
  | true => unfold nextB; rw [hd]; rfl
  | false =>
    cases hb : nextB m n y with
    | false => rfl
    | true =>
      obtain ⟨x, h1, h2, h3⟩ := (nextB_open V hd).1 hb
      exact absurd ⟨h2, h3⟩ (h x h1)
theorem nextB_in {m : Mz} {n y : Nat} (h : digB n y = true) : nextB m n y = false := by unfold nextB; rw [h]; rfl
theorem bit_test0 {n p : Nat} (h : n < 4096) : (bits .and .i64 ((n : Int) / 2 ^ p) 1 == 0) = !digB n p := by
  rw [shr_nat, and1 _ (Nat.lt_of_le_of_lt (Nat.div_le_self _ _) h)]
  unfold digB
  rw [Bool.eq_iff_iff]
  simp only [beq_iff_eq, Bool.not_eq_true', decide_eq_false_iff_not]
  constructor
  · intro h
    have h1 : n / 2 ^ p % 2 = 0 := by exact_mod_cast h
    omega
  · intro h
    have h1 : n / 2 ^ p % 2 = 0 := by omega
    exact_mod_cast h1
end M
namespace C
set_option maxHeartbeats 3200000
set_option maxRecDepth 20000
theorem l5Next_any (w : World) (lo hi : Nat) (m : M.Mz) (a b : Option Addr) (c d : Nat) (h : MzIn lo hi w m a c b d) (hz : hi ≤ w.heap.size) (V : M.Valid m) (n : Nat) (hn4 : n < 4096) (hnk : ∀ p, M.digB n p = true → (p : Int) < m.size) :
    Calls Try.prog 87 #[.agg #[.int .i64 m.size, .slice a m.doors.length c, .slice b m.keys.length d], .int .i64 (n : Int)] w (IntsPost w (M.nextL m n)) := by
  obtain ⟨ii0, hi0, hz0, hzz1, hzz2⟩ := info_parts infoI
  have H := Lib.hid h
  have HV := Lib.hid V
  have hkl := V.keysLen
  have v12 := V.size12
  have v1 := V.size1
  have v30 := V.few
  obtain ⟨s, hs⟩ : ∃ s : Nat, m.size = (s : Int) := ⟨m.size.toNat, by omega⟩
  have HDU : Hid (M.digsTo n s = M.digsTo n 12) := Lib.hid (M.digs_upto (by omega) fun p hp => by have := hnk p hp; omega)
  have HUE : Hid (M.nextUp m n s = M.nextL m n) := Lib.hid (by rw [← M.nextUp_end V n, hs]; rfl)
  have HEN : Hid (M.gath m (M.digsTo n 12) 0 = M.keysN m n) := Lib.hid rfl
  have HSZ := Lib.hid hs
  have hs12 : s ≤ 12 := by omega
  have hkls : m.keys.length = s := by omega
  have HKL := Lib.hid hkls
  clear h V hnk hkls hkl hs
  go_enter Try.func87, Try.ntmps87
  go_wp2_with fail
  refine wp_named ?_
  intro W1 hW1
  have hb1 : Below w.heap.size w W1 := by rw [hW1]; exact (below_alloc _ _).alloc (by simp) _
  have x1 : Box3 W1 w.heap.size 29 (.int .i64 m.size) (.slice a m.doors.length c) (.slice b m.keys.length d) := by rw [hW1]; exact (Box3.new _ _ _ _ rfl).alloc _
  have o1 : W1.ownsRow w.heap.size 3 1 (.slice (some ⟨w.heap.size + 1, 0, none⟩) 0 0) 0 (M.encIs (M.nextUp m n 0)) := by
    rw [hW1]
    have := ownsRow_empty (w.alloc (.cells #[.int .i64 m.size, .slice a m.doors.length c, .slice b m.keys.length d] 29)) w.heap.size 3 1 (by simp)
    simp only [World.size_alloc] at this
    exact this
  have HB1 := Lib.hid hb1
  have X1 := Lib.hid x1
  have O1 := Lib.hid o1
  have hz1 := hb1.size
  have hl1 := x1.lt
  clear hW1 hb1 x1 o1
  go_loop [6, 7] (fun v i => ∃ (k : Nat), k ≤ s ∧ i = .int .i64 k ∧ v = .int .i64 (M.gath m (M.digsTo n k) 0)) (fun _ i => s - (intOf i).toNat)
  case atStart => exact ⟨0, Nat.zero_le _, rfl, rfl⟩
  case round =>
    obtain ⟨k, hk, rfl, rfl⟩ := hrel
    obtain ⟨c0, c1, c2⟩ := X1.out.cells
    by_cases hks : k < s
    · have hki : (k : Int) < m.size := by rw [HSZ.out]; omega
      have hbt := M.bit_test (p := k) hn4
      cases hd : M.digB n k with
      | true =>
        rw [hd] at hbt
        have hkk : k < m.keys.length := by rw [HKL.out]; exact hks
        have hjd : k < d := by have := H.out.d1; omega
        obtain ⟨ib, ioff, hib, _, hib2, hic⟩ := H.out.keys.at_ (k := k) (by rw [M.encIs_len]; exact hkk)
        subst hib
        have kx : W1.cell? ⟨ib, ioff + k, none⟩ = some (.int .i64 m.keys[k]) := (HB1.out.cell (p := ⟨ib, ioff + k, none⟩) (show ib < w.heap.size by omega)).trans (hic _ _ (M.encIs_at hkk))
        have hgt : Hid (M.gath m (M.digsTo n (k + 1)) 0 = bits .or .i64 (M.gath m (M.digsTo n k) 0) m.keys[k]) := Lib.hid (by rw [M.digsTo_yes hd, M.gath_append]; show bits .or .i64 _ (m.keys.getD (k : Int).toNat 0) = _; rw [Int.toNat_natCast, List.getD_eq_getElem?_getD, List.getElem?_eq_getElem hkk]; rfl)
        clear hic hd
        generalize M.gath m (M.digsTo n k) 0 = sk at *
        go_wp2_with fail
        go_round
        case rel => exact ⟨k + 1, by omega, by go_num, by rw [hgt.out]⟩
        case measure => simp [intOf]; omega
      | false =>
        rw [hd] at hbt
        have hgt : Hid (M.gath m (M.digsTo n (k + 1)) 0 = M.gath m (M.digsTo n k) 0) := Lib.hid (by rw [M.digsTo_no hd])
        clear hd
        generalize M.gath m (M.digsTo n k) 0 = sk at *
        go_wp2_with fail
        go_round
        case rel => exact ⟨k + 1, by omega, by go_num, by rw [hgt.out]⟩
        case measure => simp [intOf]; omega
    · obtain rfl : k = s := by omega
      have hki : ¬ (k : Int) < m.size := by rw [HSZ.out]; omega
      have hend := HEN.out
      rw [HDU.out, hend]
      clear hend
      generalize hkk : M.keysN m n = kk at *
      have HKK := Lib.hid hkk
      clear hkk HDU HEN
      go_wp2_with fail
      go_loopw [5, 8, 9] (fun v i _ wr => ∃ (y : Nat), y ≤ k ∧ i = .int .i64 y ∧ wr.ownsRow w.heap.size 3 1 v (M.nextUp m n y).length (M.encIs (M.nextUp m n y)) ∧ Box3 wr w.heap.size 29 (.int .i64 m.size) (.slice a m.doors.length c) (.slice b m.keys.length d) ∧ Below w.heap.size w wr) (fun _ i _ _ => k - (intOf i).toNat)
      case atStart => exact ⟨0, Nat.zero_le _, rfl, O1.out, X1.out, HB1.out⟩
      case round =>
        obtain ⟨y, hy, rfl, hown, hbox, hlow⟩ := hrel
        have HO := Lib.hid hown
        have HX := Lib.hid hbox
        have HL := Lib.hid hlow
        have hnl := M.nextUp_len m n y
        have hzr := hlow.size
        have hxl := hbox.lt
        obtain ⟨c0, c1, c2⟩ := hbox.cells
        clear hown hbox hlow
        by_cases hys : y < k
        · have hyi : (y : Int) < m.size := by rw [HSZ.out]; omega
          go_wp2_with fail
          go_loopw [5, 9] (fun v i wx => ∃ (x : Nat), x ≤ k ∧ i = .int .i64 x ∧ (∀ x' : Nat, x' < x → ¬ (M.digB n x' = true ∧ M.openB m.doors (x' : Int) (y : Int) kk = true)) ∧ wx.ownsRow w.heap.size 3 1 v (M.nextUp m n y).length (M.encIs (M.nextUp m n y)) ∧ Box3 wx w.heap.size 29 (.int .i64 m.size) (.slice a m.doors.length c) (.slice b m.keys.length d) ∧ Below w.heap.size w wx) (fun _ i _ => k - (intOf i).toNat)
          case atStart => exact ⟨0, Nat.zero_le _, rfl, fun x' h => by omega, HO.out, HX.out, HL.out⟩
          case round =>
            obtain ⟨x, hx, rfl, hall, hown, hbox, hlow⟩ := hrel
            have HA := Lib.hid hall
            have HO := Lib.hid hown
            have HX := Lib.hid hbox
            have HL := Lib.hid hlow
            have hzr := hlow.size
            have hxl := hbox.lt
            obtain ⟨c0, c1, c2⟩ := hbox.cells
            clear hall hown hbox hlow
            by_cases hxs : x < k
            · have hxi : (x : Int) < m.size := by rw [HSZ.out]; omega
              have hb0 := M.bit_test0 (p := y) hn4
              cases hdy : M.digB n y with
              | true =>
                rw [hdy] at hb0
                have HNU : Hid (M.nextUp m n (y + 1) = M.nextUp m n y) := Lib.hid (M.nextUp_no (M.nextB_in hdy))
                clear hdy
                go_wp2_with fail
                go_roundw
                case rel => exact ⟨y + 1, by omega, by go_num, by rw [HNU.out]; exact HO.out, HX.out, HL.out⟩
                case measure => simp [intOf]; omega
              | false =>
                rw [hdy] at hb0
                have HDY := Lib.hid hdy
                have hb1 := M.bit_test (p := x) hn4
                clear hdy
                cases hdx : M.digB n x with
                | false =>
                  rw [hdx] at hb1
                  have HDX := Lib.hid hdx
                  clear hdx
                  go_wp2_with fail
                  go_roundw
                  case rel => exact ⟨x + 1, by omega, by go_num, fun x' h => by
                    rcases Nat.lt_or_ge x' x with h1 | h1
                    · exact HA.out x' h1
                    · obtain rfl : x' = x := by omega
                      rw [HDX.out]; exact (fun h => by cases h.1), HO.out, HX.out, HL.out⟩
                  case measure => simp [intOf]; omega
                | true =>
                  rw [hdx] at hb1
                  have HDX := Lib.hid hdx
                  clear hdx
                  go_wp2_with fail
                  refine (l2Open_any wr lo hi m a b c d (x : Int) (y : Int) kk (H.out.below HL.out hz) (by omega) (by omega)).mono ?_
                  rintro e w5 ⟨rfl, hb5⟩
                  have HO5 := Lib.hid (own_below HO.out hb5)
                  have HX5 := Lib.hid (HX.out.below hb5)
                  have HL5 := Lib.hid (HL.out.trans (hb5.mono hzr))
                  have hz5 := hb5.size
                  clear hb5 c0 c1 c2
                  cases hop : M.openB m.doors (x : Int) (y : Int) kk with
                  | false =>
                    have HOP := Lib.hid hop
                    clear hop
                    go_wp2_with fail
                    go_roundw
                    case rel => exact ⟨x + 1, by omega, by go_num, fun x' h => by
                      rcases Nat.lt_or_ge x' x with h1 | h1
                      · exact HA.out x' h1
                      · obtain rfl : x' = x := by omega
                        rw [HOP.out]; exact (fun h => by cases h.2), HO5.out, HX5.out, HL5.out⟩
                    case measure => simp [intOf]; omega
                  | true =>
                    have HNU : Hid (M.encIs (M.nextUp m n (y + 1)) = M.encIs (M.nextUp m n y) ++ [.int .i64 (y : Int)] ∧ (M.nextUp m n (y + 1)).length = (M.nextUp m n y).length + 1) := Lib.hid (by rw [M.nextUp_yes ((M.nextB_open HV.out HDY.out).2 ⟨x, by rw [HSZ.out]; omega, HDX.out, by rw [HKK.out]; exact hop⟩), M.encIs_append]; exact ⟨rfl, by simp⟩)
                    clear hop
                    have ho5 := HO5.out
                    have hne5 := own_ne_box HO5.out HX5.out (by decide)
                    go_wp2_with (at_builtin; refine wpList_append_own _ rfl _ _ 23 rfl w.heap.size 3 ii0 (.int .i64 0) 1 8 Try.underlying23 hi0 hz0 hzz1 hzz2 rfl (by decide) _ _ _ rfl (ho5.alloc _) ⟨w5.heap.size, 0, none⟩ 1 1 [.int .i64 (y : Int)] rfl rfl (cell_one_new _ _ _) (fun x hx => by simp at hx; subst hx; rfl) (by unfold maxLen; omega) (by omega) (by simp; omega) ?_; intro v' w3 hown' hgrow3 hnil3)
                    have hown2 := hown'
                    go_roundw
                    case rel =>
                      refine ⟨y + 1, by omega, by go_num, ?_, ?_, (HL5.out.alloc (by omega) _).grown hgrow3 (by simp; omega) (own_base HO5.out)⟩
                      · rw [HNU.out.1, HNU.out.2]
                        exact hown'
                      · exact (HX5.out.alloc _).grown hgrow3 hne5
                    case measure => simp [intOf]; omega
            · obtain rfl : x = k := by omega
              have hxi : ¬ (x : Int) < m.size := by rw [HSZ.out]; omega
              have HNU : Hid (M.nextUp m n (y + 1) = M.nextUp m n y) := Lib.hid (M.nextUp_no (M.nextB_none HV.out fun x' h1 h2 => HA.out x' (by rw [HSZ.out] at h1; omega) (by rw [HKK.out] at h2; exact h2)))
              go_wp2_with fail
              go_roundw
              case rel => exact ⟨y + 1, by omega, by go_num, by rw [HNU.out]; exact HO.out, HX.out, HL.out⟩
              case measure => simp [intOf]; omega
        · obtain rfl : y = k := by omega
          have hyi : ¬ (y : Int) < m.size := by rw [HSZ.out]; omega
          have hfin := HO.out
          rw [HUE.out] at hfin
          have HFI := Lib.hid hfin
          clear hfin
          go_wp2_with fail
          go_ret
          exact ints_end HFI.out HL.out
end C
end Go.Proofs.Ytdjmmgfjcchloaa
