/-
  CONTRACT of spec.l2Put: the doors with one put to its place, in memory of the call's own, or where they were; what lay in memory stays. Condition: the doors lie in memory of the caller's own, at most 1000 of them.
-/
import Derived.Test.YtmccpjdgnenmeaaPutW
import Derived.Deep.RegionHeld3
import Derived.Deep.RegionLaw
namespace Go.Proofs.Ytmccpjdgnenmeaa
open Go.RowKit
namespace C
set_option maxHeartbeats 32000000
set_option maxRecDepth 20000
theorem put_cons (w : World) (B hi : Nat) (b off c : Nat) (l : List M.Dr) (x y n : Int) (h : OwnAt B hi w 60 (some ⟨b, off, none⟩) (M.encDs l)) (hne : l ≠ []) (hz : hi ≤ w.heap.size) (hB : B ≤ w.heap.size) (hl : l.length ≤ 1000) (hc1 : l.length ≤ c) (hc2 : c ≤ 9223372036854775807) :
    Calls Try.prog 76 #[.slice (some ⟨b, off, none⟩) l.length c, .int .i64 x, .int .i64 y, .int .i64 n] w (PutPost B w (M.put M.ltD l (min x y, max x y, n))) := by
  obtain ⟨i0, hi0, hz0, hz1, hz2⟩ := info_parts infoD
  have hlen : 0 < l.length := List.length_pos_iff.2 hne
  have H := Lib.hid h
  obtain ⟨b', off', e, hb1, hb2, hcc⟩ := h.row.at_ (k := 0) (by rw [M.encDs_len]; omega)
  injection e with e
  injection e with e1 e2 _
  subst e1; subst e2
  have hbw : b < w.heap.size := by omega
  have HC := Lib.hid (fun W' (hq : Below w.heap.size w W') j u hu => (hq.cell (p := ⟨b, off + j, none⟩) hbw).trans (hcc j u hu))
  clear h hcc hne
  generalize hd : (min x y, max x y, n) = d
  have HD := Lib.hid hd
  have hd1 : min x y = d.1 := by rw [← hd]
  have hd2 : max x y = d.2.1 := by rw [← hd]
  have hd3 : n = d.2.2 := by rw [← hd]
  subst hd3
  clear hd
  go_enter Try.func76, Try.ntmps76
  go_wp2_with fail
  refine (l1Least_any _ _ _).mono ?_
  rintro e w1 ⟨rfl, rfl⟩
  go_wp2_with fail
  refine (l1Most_any _ _ _).mono ?_
  rintro e w1 ⟨rfl, rfl⟩
  rw [hd2]
  go_wp2_with fail
  go_loopw [10] (fun i wr => ∃ (k : Nat), k ≤ l.length ∧ i = .int .i64 k ∧ (∀ j (hj : j < l.length), j < k → M.ltD l[j] d = true) ∧ Box3 wr w.heap.size 60 (.int .i64 d.1) (.int .i64 d.2.1) (.int .i64 d.2.2) ∧ Below w.heap.size w wr) (fun i _ => l.length - (intOf i).toNat)
  case atStart => exact ⟨0, Nat.zero_le _, rfl, fun j _ h => by omega, Box3.new _ _ _ _ rfl, below_alloc _ _⟩
  case round =>
    obtain ⟨k, hk, rfl, hall, hbox, hnx⟩ := hrel
    have HA := Lib.hid hall
    have HN := Lib.hid hnx
    have HBX := Lib.hid hbox
    have hzr := hnx.size
    have hbl := hbox.lt
    obtain ⟨x0, x1, x2⟩ := hbox.cells
    have mixed : Try.prog.follows .mixedOrders = true := by kernel_rfl
    have X0 := cell_grown hbl x0
    have X1 := cell_grown hbl x1
    have X2 := cell_grown hbl x2
    have hdw : b < wr.heap.size := by omega
    clear hall hbox hnx
    by_cases hlt : k < l.length
    · have p0 : wr.cell? ⟨b, off + k * 3, none⟩ = some (.int .i64 l[k].1) := HC.out wr HN.out _ _ (M.encDs_at0 hlt)
      have p1 : wr.cell? ⟨b, off + k * 3 + 1, none⟩ = some (.int .i64 l[k].2.1) := HC.out wr HN.out _ _ (M.encDs_at1 hlt)
      have p2 : wr.cell? ⟨b, off + k * 3 + 2, none⟩ = some (.int .i64 l[k].2.2) := HC.out wr HN.out _ _ (M.encDs_at2 hlt)
      have P0 := cell_grown (a := ⟨b, off + k * 3, none⟩) hdw p0
      have P1 := cell_grown (a := ⟨b, off + k * 3 + 1, none⟩) hdw p1
      have P2 := cell_grown (a := ⟨b, off + k * 3 + 2, none⟩) hdw p2
      have hlti : (k : Int) < (l.length : Int) := by omega
      clear p0 p1 p2 x0 x1 x2
      cases hlk : M.ltD l[k] d with
      | true =>
        have HK := Lib.hid hlk
        have BF := Lib.hid (fun W => before_any l[k] d W)
        rw [hlk] at BF
        clear hlk
        go_wp2_with fail
        refine wp_region_quiet_grown (by assumption) (by kernel_rfl) ?_
        repeat (first | go_big_quiet_step (first | (go_at_call 90; refine Calls.grown_of (BF.out _))) | quiet_step (first | (go_at_call 90; refine Calls.grown_of (BF.out _))))
        refine wpQuiet_nil ?_
        intro _ hw'
        obtain ⟨⟨nq, osq⟩, hw''⟩ := hw'
        subst hw''
        go_wp2_with fail
        go_roundw
        case rel => exact ⟨k + 1, by omega, by go_num, fun j hj hjk => by
          rcases Nat.lt_or_ge j k with h | h
          · exact HA.out j hj h
          · obtain rfl : j = k := by omega
            exact HK.out, HBX.out.below (below_grown wr _ _), HN.out.trans ((below_grown wr _ _).mono (by omega))⟩
        case measure => simp [intOf]; omega
      | false =>
        have HP := Lib.hid (M.place_eq (lt := M.ltD) hk HA.out (fun _ => hlk))
        have BF := Lib.hid (fun W => before_any l[k] d W)
        rw [hlk] at BF
        clear hlk
        go_wp2_with fail
        refine wp_region_quiet_grown (by assumption) (by kernel_rfl) ?_
        repeat (first | go_big_quiet_step (first | (go_at_call 90; refine Calls.grown_of (BF.out _))) | quiet_step (first | (go_at_call 90; refine Calls.grown_of (BF.out _))))
        refine wpQuiet_nil ?_
        intro _ hw'
        obtain ⟨⟨nq, osq⟩, hw''⟩ := hw'
        subst hw''
        go_wp2_with fail
        refine wp_named ?_
        intro W hW
        have hbW : Below wr.heap.size wr W := by rw [hW]; exact below_grown wr _ _
        clear hW X0 X1 X2 P0 P1 P2
        have hboxW := HBX.out.below hbW
        have HBW := Lib.hid (HN.out.trans (hbW.mono hzr))
        have hzW := hbW.size
        have hblW := hboxW.lt
        have hbw7 : b < W.heap.size := by omega
        obtain ⟨x0, x1, x2⟩ := hboxW.cells
        have X0 := cell_grown hblW x0
        have X1 := cell_grown hblW x1
        have X2 := cell_grown hblW x2
        have P0 := cell_grown (a := ⟨b, off + k * 3, none⟩) hbw7 (HC.out W HBW.out _ _ (M.encDs_at0 hlt))
        have P1 := cell_grown (a := ⟨b, off + k * 3 + 1, none⟩) hbw7 (HC.out W HBW.out _ _ (M.encDs_at1 hlt))
        have P2 := cell_grown (a := ⟨b, off + k * 3 + 2, none⟩) hbw7 (HC.out W HBW.out _ _ (M.encDs_at2 hlt))
        have HBXW := Lib.hid hboxW
        have t3 := eqT3
        clear hbW hboxW x0 x1 x2
        by_cases hld : l[k] = d
        · have q3 : ∀ w, (Op.equalIn 10000 60 (.agg #[.int .i64 l[k].1, .int .i64 l[k].2.1, .int .i64 l[k].2.2]) (.agg #[.int .i64 d.1, .int .i64 d.2.1, .int .i64 d.2.2])).run Try.prog w = .ok true w := fun w => by rw [eqA3, hld]; simp
          have HQ := Lib.hid (M.put_at HP.out (by rw [List.getElem?_eq_getElem hlt, hld]))
          clear hld
          refine wp_region_quiet_grown (by assumption) (by kernel_rfl) ?_
          repeat (first | go_big_quiet_step (fail) | quiet_step (fail))
          refine wpQuiet_nil ?_
          intro _ hw'
          obtain ⟨⟨nq2, osq2⟩, hw''⟩ := hw'
          subst hw''
          go_wp2_with fail
          go_ret
          rw [HQ.out]
          have hbf := HBW.out.trans ((below_grown W nq2 osq2).mono HBW.out.size)
          exact ⟨_, _, rfl, (H.out.below ((Below.refl _ _).trans hbf) hz).mono (Nat.le_refl _) (Nat.le_trans hz hbf.size), hc1, hc2, hbf⟩
        · have q3 : ∀ w, (Op.equalIn 10000 60 (.agg #[.int .i64 l[k].1, .int .i64 l[k].2.1, .int .i64 l[k].2.2]) (.agg #[.int .i64 d.1, .int .i64 d.2.1, .int .i64 d.2.2])).run Try.prog w = .ok false w := fun w => by
            rw [eqA3]
            congr 1
            rw [Bool.eq_false_iff]
            intro hh
            simp only [Bool.and_eq_true, beq_iff_eq] at hh
            exact hld (Prod.ext hh.1.1 (Prod.ext hh.1.2 hh.2))
          have HQ := Lib.hid (M.put_new HP.out (by rw [List.getElem?_eq_getElem hlt]; intro e; injection e with e; exact hld e))
          clear hld
          refine wp_region_quiet_grown (by assumption) (by kernel_rfl) ?_
          repeat (first | go_big_quiet_step (fail) | quiet_step (fail))
          refine wpQuiet_nil ?_
          intro _ hw'
          obtain ⟨⟨nq2, osq2⟩, hw''⟩ := hw'
          subst hw''
          go_wp2_with fail
          refine wp_named ?_
          intro W7 hW7
          have hbW7 : Below W.heap.size W W7 := by rw [hW7]; exact below_grown W _ _
          clear hW7 X0 X1 X2 P0 P1 P2 q3 t3
          have x7 := HBXW.out.below hbW7
          have HB7 := Lib.hid (HBW.out.trans (hbW7.mono HBW.out.size))
          have hz7 := hbW7.size
          have hl7 := x7.lt
          have hb7 : b < W7.heap.size := by omega
          have X7 := Lib.hid x7
          obtain ⟨d0, d1, d2⟩ := x7.cells
          clear hbW7 x7
          have hkc : k ≤ c := by omega
          have HC7 := Lib.hid (fun W' (hq : Below W7.heap.size W7 W') => HC.out W' (HB7.out.trans (hq.mono HB7.out.size)))
          have oa2 : ((W7.drew.alloc (.cells #[] 60)).alloc (.cells #[.int .i64 d.1, .int .i64 d.2.1, .int .i64 d.2.2] 60)).ownsRow W7.heap.size 60 3 (.slice (some ⟨W7.heap.size, 0, none⟩) 0 0) 0 [] := (ownsRow_empty W7.drew W7.heap.size 60 3 (Nat.le_refl _)).alloc _
          have oa3 : ((W7.drew.alloc (.cells #[.int .i64 d.1, .int .i64 d.2.1, .int .i64 d.2.2] 60)).alloc (.cells #[] 60)).ownsRow W7.heap.size 60 3 (.slice (some ⟨W7.heap.size + 1, 0, none⟩) 0 0) 0 [] := by
            have := ownsRow_empty (W7.drew.alloc (.cells #[.int .i64 d.1, .int .i64 d.2.1, .int .i64 d.2.2] 60)) W7.heap.size 60 3 (by simp)
            simpa using this
          have cc2 : Box3 ((W7.drew.alloc (.cells #[] 60)).alloc (.cells #[.int .i64 d.1, .int .i64 d.2.1, .int .i64 d.2.2] 60)) (W7.heap.size + 1) 60 (.int .i64 d.1) (.int .i64 d.2.1) (.int .i64 d.2.2) := Box3.new _ _ _ _ (by simp)
          have cc3 : Box3 ((W7.drew.alloc (.cells #[.int .i64 d.1, .int .i64 d.2.1, .int .i64 d.2.2] 60)).alloc (.cells #[] 60)) W7.heap.size 60 (.int .i64 d.1) (.int .i64 d.2.1) (.int .i64 d.2.2) := (Box3.new _ _ _ _ rfl).alloc _
          have OA2 := Lib.hid oa2
          have OA3 := Lib.hid oa3
          have CC2 := Lib.hid cc2
          have CC3 := Lib.hid cc3
          have hdrew : W7.drew.heap.size = W7.heap.size := rfl
          clear oa2 oa3 cc2 cc3
          have HCK : Hid (¬ c = k) := Lib.hid (by omega)
          go_region_held3 (fun wq => wq.cell? ⟨w.heap.size, 0, none⟩ = some (.int .i64 d.1) ∧ wq.cell? ⟨w.heap.size, 1, none⟩ = some (.int .i64 d.2.1) ∧ wq.cell? ⟨w.heap.size, 2, none⟩ = some (.int .i64 d.2.2)) (first | exact ⟨d0, d1, d2⟩ | go_keep) (first
            | (have hcg : ¬ c = k := HCK.out; clear hcg; refine step_append_own rfl (.tmp 53) (.tmp 56) 24 rfl W7.heap.size 60 i0 (.agg #[.int .i64 0, .int .i64 0, .int .i64 0]) 3 24 Try.underlying24 hi0 hz0 hz1 hz2 rfl (by decide) _ _ _ o9 (by first | (simp [Act.eval]; done) | simp [Act.eval, Act.put]) ⟨b, off + k * 3, none⟩ (l.length - k) (c - k) (M.encDs (l.drop k)) (by first | (simp [Act.eval, HCK.out]; done) | simp [Act.eval, Act.put, HCK.out]) (by rw [M.encDs_len, List.length_drop]) (news_drop (HC.out _ (HB7.out.trans (hb9.mono HB7.out.size))) k) (encDs_one _) (by unfold maxLen; omega) (by omega) (by omega) ?_; intro v3 w10 hownw10 hgroww10 hnilw10; have hb10 : Below W7.heap.size W7 w10 := hb9.grown hgroww10 (by omega) (own_base o9); have o10 : w10.ownsRow W7.heap.size 60 3 v3 (k + 1 + (l.length - k)) (M.encDs (l.take k ++ [d] ++ l.drop k)) := (by rw [M.encDs_append]; exact hownw10); obtain ⟨d0, d1, d2⟩ := (X7.out.below hb10).cells; have hs10 := hb10.size)
            | (have hcg : c = k := HCK.out; clear hcg; refine step_append_own rfl (.tmp 53) (.tmp 56) 24 rfl W7.heap.size 60 i0 (.agg #[.int .i64 0, .int .i64 0, .int .i64 0]) 3 24 Try.underlying24 hi0 hz0 hz1 hz2 rfl (by decide) _ _ _ o9 (by first | (simp [Act.eval]; done) | simp [Act.eval, Act.put]) ⟨b, off, none⟩ (l.length - k) (c - k) (M.encDs (l.drop k)) (by first | (simp [Act.eval, HCK.out]; done) | simp [Act.eval, Act.put, HCK.out]) (by rw [M.encDs_len, List.length_drop]) (fun j u hu => absurd hu (by rw [List.drop_eq_nil_of_le (by have := HCK.out; omega)]; simp [M.encDs])) (encDs_one _) (by unfold maxLen; omega) (by omega) (by omega) ?_; intro v3 w10 hownw10 hgroww10 hnilw10; have hb10 : Below W7.heap.size W7 w10 := hb9.grown hgroww10 (by omega) (own_base o9); have o10 : w10.ownsRow W7.heap.size 60 3 v3 (k + 1 + (l.length - k)) (M.encDs (l.take k ++ [d] ++ l.drop k)) := (by rw [M.encDs_append]; exact hownw10); obtain ⟨d0, d1, d2⟩ := (X7.out.below hb10).cells; have hs10 := hb10.size)
            | (refine step_append_own rfl (.tmp 50) (.tmp 52) 24 rfl W7.heap.size 60 i0 (.agg #[.int .i64 0, .int .i64 0, .int .i64 0]) 3 24 Try.underlying24 hi0 hz0 hz1 hz2 rfl (by decide) _ _ _ (o8.alloc _) (by first | (simp [Act.eval]; done) | simp [Act.eval, Act.put]) ⟨w8.heap.size, 0, none⟩ 1 1 (M.encD d) (by first | (simp [Act.eval]; done) | simp [Act.eval, Act.put]) (show (M.encD d).length = 1 * 3 from rfl) (news3 (Box3.new _ _ _ _ rfl)) (encD_one _) (by unfold maxLen; omega) (by omega) (by simp; omega) ?_; intro v2 w9 hownw9 hgroww9 hnilw9; have hb9 : Below W7.heap.size W7 w9 := (hb8.alloc (by omega) _).grown hgroww9 (by simp; omega) (own_base o8); have o9 : w9.ownsRow W7.heap.size 60 3 v2 (k + 1) (M.encDs (l.take k ++ [d])) := (by rw [M.encDs_append, encDs_single]; exact hownw9); obtain ⟨d0, d1, d2⟩ := (X7.out.below hb9).cells; have hs9 := hb9.size)
            | (refine step_append_own rfl (.tmp 50) (.tmp 52) 24 rfl W7.heap.size 60 i0 (.agg #[.int .i64 0, .int .i64 0, .int .i64 0]) 3 24 Try.underlying24 hi0 hz0 hz1 hz2 rfl (by decide) _ _ _ o8 (by first | (simp [Act.eval]; done) | simp [Act.eval, Act.put]) ⟨W7.heap.size + 1, 0, none⟩ 1 1 (M.encD d) (by first | (simp [Act.eval]; done) | simp [Act.eval, Act.put]) (show (M.encD d).length = 1 * 3 from rfl) (news3 bx8) (encD_one _) (by unfold maxLen; omega) (by omega) (by omega) ?_; intro v2 w9 hownw9 hgroww9 hnilw9; have hb9 : Below W7.heap.size W7 w9 := hb8.grown hgroww9 (by omega) (own_base o8); have o9 : w9.ownsRow W7.heap.size 60 3 v2 (k + 1) (M.encDs (l.take k ++ [d])) := (by rw [M.encDs_append, encDs_single]; exact hownw9); obtain ⟨d0, d1, d2⟩ := (X7.out.below hb9).cells; have hs9 := hb9.size)
            | (refine step_append_own rfl (.tmp 50) (.tmp 52) 24 rfl W7.heap.size 60 i0 (.agg #[.int .i64 0, .int .i64 0, .int .i64 0]) 3 24 Try.underlying24 hi0 hz0 hz1 hz2 rfl (by decide) _ _ _ o8 (by first | (simp [Act.eval]; done) | simp [Act.eval, Act.put]) ⟨W7.heap.size, 0, none⟩ 1 1 (M.encD d) (by first | (simp [Act.eval]; done) | simp [Act.eval, Act.put]) (show (M.encD d).length = 1 * 3 from rfl) (news3 bx8) (encD_one _) (by unfold maxLen; omega) (by omega) (by omega) ?_; intro v2 w9 hownw9 hgroww9 hnilw9; have hb9 : Below W7.heap.size W7 w9 := hb8.grown hgroww9 (by omega) (own_base o8); have o9 : w9.ownsRow W7.heap.size 60 3 v2 (k + 1) (M.encDs (l.take k ++ [d])) := (by rw [M.encDs_append, encDs_single]; exact hownw9); obtain ⟨d0, d1, d2⟩ := (X7.out.below hb9).cells; have hs9 := hb9.size)
            | (refine step_append_own rfl (.tmp 46) (.tmp 49) 24 rfl W7.heap.size 60 i0 (.agg #[.int .i64 0, .int .i64 0, .int .i64 0]) 3 24 Try.underlying24 hi0 hz0 hz1 hz2 rfl (by decide) _ _ _ (ownsRow_empty W7.drew W7.heap.size 60 3 (Nat.le_refl _)) (by first | (simp [Act.eval]; done) | simp [Act.eval, Act.put]) ⟨b, off, none⟩ k c (M.encDs (l.take k)) (by first | (simp [Act.eval]; done) | simp [Act.eval, Act.put]) (by rw [M.encDs_len, List.length_take]; omega) (news_take (HC.out _ (HB7.out.trans (((Below.refl W7.heap.size W7).drew.alloc (Nat.le_refl _) _).mono HB7.out.size))) k) (encDs_one _) (by unfold maxLen; omega) (by omega) (by simp) ?_; intro v1 w8 hownw8 hgroww8 hnilw8; have hb8 : Below W7.heap.size W7 w8 := ((Below.refl W7.heap.size W7).drew.alloc (Nat.le_refl _) _).grown hgroww8 (by simp) (own_base (ownsRow_empty W7.drew W7.heap.size 60 3 (Nat.le_refl _))); have o8 : w8.ownsRow W7.heap.size 60 3 v1 k (M.encDs (l.take k)) := (by simpa using hownw8); obtain ⟨d0, d1, d2⟩ := (X7.out.below hb8).cells; have hs8 := hb8.size)
            | (refine step_append_own rfl (.tmp 46) (.tmp 49) 24 rfl W7.heap.size 60 i0 (.agg #[.int .i64 0, .int .i64 0, .int .i64 0]) 3 24 Try.underlying24 hi0 hz0 hz1 hz2 rfl (by decide) _ _ _ (OA2.out) (by first | (simp [Act.eval]; done) | simp [Act.eval, Act.put]) ⟨b, off, none⟩ k c (M.encDs (l.take k)) (by first | (simp [Act.eval]; done) | simp [Act.eval, Act.put]) (by rw [M.encDs_len, List.length_take]; omega) (news_take (HC.out _ (HB7.out.trans ((((Below.refl W7.heap.size W7).drew.alloc (Nat.le_refl _) _).alloc (by simp) _).mono HB7.out.size))) k) (encDs_one _) (by unfold maxLen; omega) (by omega) (by simp; omega) ?_; intro v1 w8 hownw8 hgroww8 hnilw8; have hb8 : Below W7.heap.size W7 w8 := (((Below.refl W7.heap.size W7).drew.alloc (Nat.le_refl _) _).alloc (by simp) _).grown hgroww8 (by simp; omega) (own_base OA2.out); have o8 : w8.ownsRow W7.heap.size 60 3 v1 k (M.encDs (l.take k)) := (by simpa using hownw8); have bx8 := CC2.out.grown hgroww8 (by simp [Value.ownBlock]); obtain ⟨d0, d1, d2⟩ := (X7.out.below hb8).cells; have hs8 := hb8.size)
            | (refine step_append_own rfl (.tmp 46) (.tmp 49) 24 rfl W7.heap.size 60 i0 (.agg #[.int .i64 0, .int .i64 0, .int .i64 0]) 3 24 Try.underlying24 hi0 hz0 hz1 hz2 rfl (by decide) _ _ _ (OA3.out) (by first | (simp [Act.eval]; done) | simp [Act.eval, Act.put]) ⟨b, off, none⟩ k c (M.encDs (l.take k)) (by first | (simp [Act.eval]; done) | simp [Act.eval, Act.put]) (by rw [M.encDs_len, List.length_take]; omega) (news_take (HC.out _ (HB7.out.trans ((((Below.refl W7.heap.size W7).drew.alloc (Nat.le_refl _) _).alloc (by simp) _).mono HB7.out.size))) k) (encDs_one _) (by unfold maxLen; omega) (by omega) (by simp; omega) ?_; intro v1 w8 hownw8 hgroww8 hnilw8; have hb8 : Below W7.heap.size W7 w8 := (((Below.refl W7.heap.size W7).drew.alloc (Nat.le_refl _) _).alloc (by simp) _).grown hgroww8 (by simp; omega) (own_base OA3.out); have o8 : w8.ownsRow W7.heap.size 60 3 v1 k (M.encDs (l.take k)) := (by simpa using hownw8); have bx8 := CC3.out.grown hgroww8 (by simp [Value.ownBlock]); obtain ⟨d0, d1, d2⟩ := (X7.out.below hb8).cells; have hs8 := hb8.size))
          all_goals
            go_wp2_with fail
            go_ret
            rw [HQ.out]
            exact put_end HB7.out hB o10 (by simp) (by first | (simp; done) | (simp; omega)) hb10
    · obtain rfl : k = l.length := by omega
      have HP := Lib.hid (M.place_eq (lt := M.ltD) hk HA.out (fun h => absurd h (by omega)))
      have HQ := Lib.hid (M.put_new (d := d) HP.out (by rw [List.getElem?_eq_none (Nat.le_refl _)]; intro e; cases e))
      have hgf : decide ((l.length : Int) < (l.length : Int)) = false := by simp
      clear x0 x1 x2
      go_wp2_with fail
      refine wp_region_quiet_grown (by assumption) (by kernel_rfl) ?_
      repeat (first | go_big_quiet_step (fail) | quiet_step (fail))
      refine wpQuiet_nil ?_
      intro _ hw'
      obtain ⟨⟨nq, osq⟩, hw''⟩ := hw'
      subst hw''
      go_wp2_with fail
      refine wp_region_quiet_grown (by assumption) (by kernel_rfl) ?_
      repeat (first | go_big_quiet_step (fail) | quiet_step (fail))
      refine wpQuiet_nil ?_
      intro _ hw'
      obtain ⟨⟨nq2, osq2⟩, hw''⟩ := hw'
      subst hw''
      go_wp2_with fail
      refine wp_named ?_
      intro W7 hW7
      have hbW7 : Below wr.heap.size wr W7 := by rw [hW7]; exact Below.more (below_grown wr _ _) (below_grown _ _ _)
      clear hW7 X0 X1 X2
      have x7 := HBX.out.below hbW7
      have HB7 := Lib.hid (HN.out.trans (hbW7.mono hzr))
      have hz7 := hbW7.size
      have hl7 := x7.lt
      have hb7 : b < W7.heap.size := by omega
      have X7 := Lib.hid x7
      obtain ⟨d0, d1, d2⟩ := x7.cells
      clear hbW7 x7
      have hkc : l.length ≤ c := by omega
      have HC7 := Lib.hid (fun W' (hq : Below W7.heap.size W7 W') => HC.out W' (HB7.out.trans (hq.mono HB7.out.size)))
      have oa2 : ((W7.drew.alloc (.cells #[] 60)).alloc (.cells #[.int .i64 d.1, .int .i64 d.2.1, .int .i64 d.2.2] 60)).ownsRow W7.heap.size 60 3 (.slice (some ⟨W7.heap.size, 0, none⟩) 0 0) 0 [] := (ownsRow_empty W7.drew W7.heap.size 60 3 (Nat.le_refl _)).alloc _
      have oa3 : ((W7.drew.alloc (.cells #[.int .i64 d.1, .int .i64 d.2.1, .int .i64 d.2.2] 60)).alloc (.cells #[] 60)).ownsRow W7.heap.size 60 3 (.slice (some ⟨W7.heap.size + 1, 0, none⟩) 0 0) 0 [] := by
        have := ownsRow_empty (W7.drew.alloc (.cells #[.int .i64 d.1, .int .i64 d.2.1, .int .i64 d.2.2] 60)) W7.heap.size 60 3 (by simp)
        simpa using this
      have cc2 : Box3 ((W7.drew.alloc (.cells #[] 60)).alloc (.cells #[.int .i64 d.1, .int .i64 d.2.1, .int .i64 d.2.2] 60)) (W7.heap.size + 1) 60 (.int .i64 d.1) (.int .i64 d.2.1) (.int .i64 d.2.2) := Box3.new _ _ _ _ (by simp)
      have cc3 : Box3 ((W7.drew.alloc (.cells #[.int .i64 d.1, .int .i64 d.2.1, .int .i64 d.2.2] 60)).alloc (.cells #[] 60)) W7.heap.size 60 (.int .i64 d.1) (.int .i64 d.2.1) (.int .i64 d.2.2) := (Box3.new _ _ _ _ rfl).alloc _
      have OA2 := Lib.hid oa2
      have OA3 := Lib.hid oa3
      have CC2 := Lib.hid cc2
      have CC3 := Lib.hid cc3
      have hdrew : W7.drew.heap.size = W7.heap.size := rfl
      clear oa2 oa3 cc2 cc3
      rcases Decidable.em (c = l.length) with hck0 | hck0
      all_goals have HCK := Lib.hid hck0
      all_goals clear hck0
      all_goals go_region_held3 (fun wq => wq.cell? ⟨w.heap.size, 0, none⟩ = some (.int .i64 d.1) ∧ wq.cell? ⟨w.heap.size, 1, none⟩ = some (.int .i64 d.2.1) ∧ wq.cell? ⟨w.heap.size, 2, none⟩ = some (.int .i64 d.2.2)) (first | exact ⟨d0, d1, d2⟩ | go_keep) (first
        | (have hcg : ¬ c = l.length := HCK.out; clear hcg; refine step_append_own rfl (.tmp 53) (.tmp 56) 24 rfl W7.heap.size 60 i0 (.agg #[.int .i64 0, .int .i64 0, .int .i64 0]) 3 24 Try.underlying24 hi0 hz0 hz1 hz2 rfl (by decide) _ _ _ o9 (by first | (simp [Act.eval]; done) | simp [Act.eval, Act.put]) ⟨b, off + l.length * 3, none⟩ (l.length - l.length) (c - l.length) (M.encDs (l.drop l.length)) (by first | (simp [Act.eval, HCK.out]; done) | simp [Act.eval, Act.put, HCK.out]) (by rw [M.encDs_len, List.length_drop]) (news_drop (HC.out _ (HB7.out.trans (hb9.mono HB7.out.size))) l.length) (encDs_one _) (by unfold maxLen; omega) (by omega) (by omega) ?_; intro v3 w10 hownw10 hgroww10 hnilw10; have hb10 : Below W7.heap.size W7 w10 := hb9.grown hgroww10 (by omega) (own_base o9); have o10 : w10.ownsRow W7.heap.size 60 3 v3 (l.length + 1 + (l.length - l.length)) (M.encDs (l.take l.length ++ [d] ++ l.drop l.length)) := (by rw [M.encDs_append]; exact hownw10); obtain ⟨d0, d1, d2⟩ := (X7.out.below hb10).cells; have hs10 := hb10.size)
        | (have hcg : c = l.length := HCK.out; clear hcg; refine step_append_own rfl (.tmp 53) (.tmp 56) 24 rfl W7.heap.size 60 i0 (.agg #[.int .i64 0, .int .i64 0, .int .i64 0]) 3 24 Try.underlying24 hi0 hz0 hz1 hz2 rfl (by decide) _ _ _ o9 (by first | (simp [Act.eval]; done) | simp [Act.eval, Act.put]) ⟨b, off, none⟩ (l.length - l.length) (c - l.length) (M.encDs (l.drop l.length)) (by first | (simp [Act.eval, HCK.out]; done) | simp [Act.eval, Act.put, HCK.out]) (by rw [M.encDs_len, List.length_drop]) (fun j u hu => absurd hu (by rw [List.drop_eq_nil_of_le (by have := HCK.out; omega)]; simp [M.encDs])) (encDs_one _) (by unfold maxLen; omega) (by omega) (by omega) ?_; intro v3 w10 hownw10 hgroww10 hnilw10; have hb10 : Below W7.heap.size W7 w10 := hb9.grown hgroww10 (by omega) (own_base o9); have o10 : w10.ownsRow W7.heap.size 60 3 v3 (l.length + 1 + (l.length - l.length)) (M.encDs (l.take l.length ++ [d] ++ l.drop l.length)) := (by rw [M.encDs_append]; exact hownw10); obtain ⟨d0, d1, d2⟩ := (X7.out.below hb10).cells; have hs10 := hb10.size)
        | (refine step_append_own rfl (.tmp 50) (.tmp 52) 24 rfl W7.heap.size 60 i0 (.agg #[.int .i64 0, .int .i64 0, .int .i64 0]) 3 24 Try.underlying24 hi0 hz0 hz1 hz2 rfl (by decide) _ _ _ (o8.alloc _) (by first | (simp [Act.eval]; done) | simp [Act.eval, Act.put]) ⟨w8.heap.size, 0, none⟩ 1 1 (M.encD d) (by first | (simp [Act.eval]; done) | simp [Act.eval, Act.put]) (show (M.encD d).length = 1 * 3 from rfl) (news3 (Box3.new _ _ _ _ rfl)) (encD_one _) (by unfold maxLen; omega) (by omega) (by simp; omega) ?_; intro v2 w9 hownw9 hgroww9 hnilw9; have hb9 : Below W7.heap.size W7 w9 := (hb8.alloc (by omega) _).grown hgroww9 (by simp; omega) (own_base o8); have o9 : w9.ownsRow W7.heap.size 60 3 v2 (l.length + 1) (M.encDs (l.take l.length ++ [d])) := (by rw [M.encDs_append, encDs_single]; exact hownw9); obtain ⟨d0, d1, d2⟩ := (X7.out.below hb9).cells; have hs9 := hb9.size)
        | (refine step_append_own rfl (.tmp 50) (.tmp 52) 24 rfl W7.heap.size 60 i0 (.agg #[.int .i64 0, .int .i64 0, .int .i64 0]) 3 24 Try.underlying24 hi0 hz0 hz1 hz2 rfl (by decide) _ _ _ o8 (by first | (simp [Act.eval]; done) | simp [Act.eval, Act.put]) ⟨W7.heap.size + 1, 0, none⟩ 1 1 (M.encD d) (by first | (simp [Act.eval]; done) | simp [Act.eval, Act.put]) (show (M.encD d).length = 1 * 3 from rfl) (news3 bx8) (encD_one _) (by unfold maxLen; omega) (by omega) (by omega) ?_; intro v2 w9 hownw9 hgroww9 hnilw9; have hb9 : Below W7.heap.size W7 w9 := hb8.grown hgroww9 (by omega) (own_base o8); have o9 : w9.ownsRow W7.heap.size 60 3 v2 (l.length + 1) (M.encDs (l.take l.length ++ [d])) := (by rw [M.encDs_append, encDs_single]; exact hownw9); obtain ⟨d0, d1, d2⟩ := (X7.out.below hb9).cells; have hs9 := hb9.size)
        | (refine step_append_own rfl (.tmp 50) (.tmp 52) 24 rfl W7.heap.size 60 i0 (.agg #[.int .i64 0, .int .i64 0, .int .i64 0]) 3 24 Try.underlying24 hi0 hz0 hz1 hz2 rfl (by decide) _ _ _ o8 (by first | (simp [Act.eval]; done) | simp [Act.eval, Act.put]) ⟨W7.heap.size, 0, none⟩ 1 1 (M.encD d) (by first | (simp [Act.eval]; done) | simp [Act.eval, Act.put]) (show (M.encD d).length = 1 * 3 from rfl) (news3 bx8) (encD_one _) (by unfold maxLen; omega) (by omega) (by omega) ?_; intro v2 w9 hownw9 hgroww9 hnilw9; have hb9 : Below W7.heap.size W7 w9 := hb8.grown hgroww9 (by omega) (own_base o8); have o9 : w9.ownsRow W7.heap.size 60 3 v2 (l.length + 1) (M.encDs (l.take l.length ++ [d])) := (by rw [M.encDs_append, encDs_single]; exact hownw9); obtain ⟨d0, d1, d2⟩ := (X7.out.below hb9).cells; have hs9 := hb9.size)
        | (refine step_append_own rfl (.tmp 46) (.tmp 49) 24 rfl W7.heap.size 60 i0 (.agg #[.int .i64 0, .int .i64 0, .int .i64 0]) 3 24 Try.underlying24 hi0 hz0 hz1 hz2 rfl (by decide) _ _ _ (ownsRow_empty W7.drew W7.heap.size 60 3 (Nat.le_refl _)) (by first | (simp [Act.eval]; done) | simp [Act.eval, Act.put]) ⟨b, off, none⟩ l.length c (M.encDs (l.take l.length)) (by first | (simp [Act.eval]; done) | simp [Act.eval, Act.put]) (by rw [M.encDs_len, List.length_take]; omega) (news_take (HC.out _ (HB7.out.trans (((Below.refl W7.heap.size W7).drew.alloc (Nat.le_refl _) _).mono HB7.out.size))) l.length) (encDs_one _) (by unfold maxLen; omega) (by omega) (by simp) ?_; intro v1 w8 hownw8 hgroww8 hnilw8; have hb8 : Below W7.heap.size W7 w8 := ((Below.refl W7.heap.size W7).drew.alloc (Nat.le_refl _) _).grown hgroww8 (by simp) (own_base (ownsRow_empty W7.drew W7.heap.size 60 3 (Nat.le_refl _))); have o8 : w8.ownsRow W7.heap.size 60 3 v1 l.length (M.encDs (l.take l.length)) := (by simpa using hownw8); obtain ⟨d0, d1, d2⟩ := (X7.out.below hb8).cells; have hs8 := hb8.size)
        | (refine step_append_own rfl (.tmp 46) (.tmp 49) 24 rfl W7.heap.size 60 i0 (.agg #[.int .i64 0, .int .i64 0, .int .i64 0]) 3 24 Try.underlying24 hi0 hz0 hz1 hz2 rfl (by decide) _ _ _ (OA2.out) (by first | (simp [Act.eval]; done) | simp [Act.eval, Act.put]) ⟨b, off, none⟩ l.length c (M.encDs (l.take l.length)) (by first | (simp [Act.eval]; done) | simp [Act.eval, Act.put]) (by rw [M.encDs_len, List.length_take]; omega) (news_take (HC.out _ (HB7.out.trans ((((Below.refl W7.heap.size W7).drew.alloc (Nat.le_refl _) _).alloc (by simp) _).mono HB7.out.size))) l.length) (encDs_one _) (by unfold maxLen; omega) (by omega) (by simp; omega) ?_; intro v1 w8 hownw8 hgroww8 hnilw8; have hb8 : Below W7.heap.size W7 w8 := (((Below.refl W7.heap.size W7).drew.alloc (Nat.le_refl _) _).alloc (by simp) _).grown hgroww8 (by simp; omega) (own_base OA2.out); have o8 : w8.ownsRow W7.heap.size 60 3 v1 l.length (M.encDs (l.take l.length)) := (by simpa using hownw8); have bx8 := CC2.out.grown hgroww8 (by simp [Value.ownBlock]); obtain ⟨d0, d1, d2⟩ := (X7.out.below hb8).cells; have hs8 := hb8.size)
        | (refine step_append_own rfl (.tmp 46) (.tmp 49) 24 rfl W7.heap.size 60 i0 (.agg #[.int .i64 0, .int .i64 0, .int .i64 0]) 3 24 Try.underlying24 hi0 hz0 hz1 hz2 rfl (by decide) _ _ _ (OA3.out) (by first | (simp [Act.eval]; done) | simp [Act.eval, Act.put]) ⟨b, off, none⟩ l.length c (M.encDs (l.take l.length)) (by first | (simp [Act.eval]; done) | simp [Act.eval, Act.put]) (by rw [M.encDs_len, List.length_take]; omega) (news_take (HC.out _ (HB7.out.trans ((((Below.refl W7.heap.size W7).drew.alloc (Nat.le_refl _) _).alloc (by simp) _).mono HB7.out.size))) l.length) (encDs_one _) (by unfold maxLen; omega) (by omega) (by simp; omega) ?_; intro v1 w8 hownw8 hgroww8 hnilw8; have hb8 : Below W7.heap.size W7 w8 := (((Below.refl W7.heap.size W7).drew.alloc (Nat.le_refl _) _).alloc (by simp) _).grown hgroww8 (by simp; omega) (own_base OA3.out); have o8 : w8.ownsRow W7.heap.size 60 3 v1 l.length (M.encDs (l.take l.length)) := (by simpa using hownw8); have bx8 := CC3.out.grown hgroww8 (by simp [Value.ownBlock]); obtain ⟨d0, d1, d2⟩ := (X7.out.below hb8).cells; have hs8 := hb8.size))
      all_goals
        go_wp2_with fail
        go_ret
        rw [HQ.out]
        exact put_end HB7.out hB o10 (by simp) (by first | (simp; done) | (simp; omega)) hb10
end C
end Go.Proofs.Ytmccpjdgnenmeaa
