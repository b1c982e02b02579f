/-
  CONTRACTS of slices.Equal at ints, impl.meets and impl.IsClutter; what lay in memory stays. Condition: lists of at most 1048576 numbers that read so.
-/
import Derived.Test.YtkkfmleoamhgkaaIcuM
import Derived.Test.YtkkfmleoamhgkaaSpecMaze
import Derived.BigQuiet
namespace Go.Proofs.Ytkkfmleoamhgkaa
open Go.RowKit
namespace C
set_option maxHeartbeats 3200000
set_option maxRecDepth 20000
theorem equalI_any (w : World) (lo hi lo' hi' : Nat) (a b : Option Addr) (c d : Nat) (l k : List Int) (h : RowIn lo hi w a (M.encIs l)) (hz : hi ≤ w.heap.size) (h' : RowIn lo' hi' w b (M.encIs k)) (hz' : hi' ≤ w.heap.size) (hl : l.length ≤ 1048576) (hk : k.length ≤ 1048576) :
    Calls Try.prog 23 #[.slice a l.length c, .slice b k.length d] w (BoolPost w (decide (l = k))) := by
  have H := Lib.hid h
  have H' := Lib.hid h'
  clear h h'
  have mixed : Try.prog.follows .mixedOrders = true := by kernel_rfl
  by_cases hlen : l.length = k.length
  · have hle : (l.length : Int) = (k.length : Int) := by omega
    have HLN := Lib.hid hlen
    clear hlen
    go_enter Try.func23, Try.ntmps23
    go_wp2_with fail
    go_loopw [5, 13] (fun _ v13 wr => ∃ (j : Nat), j ≤ l.length ∧ v13 = .int .i64 j ∧ (∀ i (h1 : i < l.length) (h2 : i < k.length), i < j → l[i] = k[i]) ∧ Below w.heap.size w wr) (fun _ v13 _ => l.length - (intOf v13).toNat)
    case atStart => exact ⟨0, Nat.zero_le _, rfl, fun i _ _ h => by omega, Below.refl _ _⟩
    case round =>
      obtain ⟨j, hj, rfl, hall, hni⟩ := hrel
      have HA := Lib.hid hall
      have HI := Lib.hid hni
      have hzi := hni.size
      clear hall hni
      by_cases hjl : j < l.length
      · have hjk : j < k.length := by have := HLN.out; omega
        obtain ⟨b1, off1, rfl, _, hb1, hc1⟩ := (H.out.below HI.out hz).at_ (k := j) (by rw [M.encIs_len]; exact hjl)
        have x1 := hc1 _ _ (M.encIs_at hjl)
        obtain ⟨b2, off2, rfl, _, hb2, hc2⟩ := (H'.out.below HI.out hz').at_ (k := j) (by rw [M.encIs_len]; exact hjk)
        have x2 := hc2 _ _ (M.encIs_at hjk)
        have E1 := cell_grown (a := ⟨b1, off1 + j, none⟩) (show b1 < wr.heap.size by omega) x1
        have E2 := cell_grown (a := ⟨b2, off2 + j, none⟩) (show b2 < wr.heap.size by omega) x2
        have hjli : (j : Int) < (l.length : Int) := by omega
        have hjki : (j : Int) < (k.length : Int) := by omega
        have HNX := Lib.hid (fun (hq : l[j] = k[j]) => show ∀ i (h1 : i < l.length) (h2 : i < k.length), i < j + 1 → l[i] = k[i] from fun i h1 h2 h3 => by
          rcases Nat.lt_or_ge i j with h4 | h4
          · exact HA.out i h1 h2 h4
          · obtain rfl : i = j := by omega
            exact hq)
        have HF : Hid (l[j] ≠ k[j] → decide (l = k) = false) := Lib.hid (fun hne => by
          rw [decide_eq_false_iff_not]
          rintro rfl
          exact hne rfl)
        clear hc1 hc2 HA x1 x2 hle
        generalize l[j] = u at *
        generalize k[j] = v at *
        by_cases hq : u = v
        · have HN := Lib.hid (HNX.out hq)
          have hqb : (u == v) = true := by rw [beq_iff_eq]; exact hq
          subst hq
          go_wp2_with fail
          refine wp_region_quiet_grown (by assumption) (by kernel_rfl) ?_
          repeat (first | go_big_quiet_step (fail) | quiet_step (fail))
          refine wpQuiet_nil ?_
          intro _ hw'
          obtain ⟨⟨nq, osq⟩, hw''⟩ := hw'
          subst hw''
          go_wp2_with fail
          go_roundw
          case rel => exact ⟨j + 1, by omega, by go_num, HN.out, HI.out.trans ((below_grown wr nq osq).mono hzi)⟩
          case measure => simp [intOf]; omega
        · have HN := Lib.hid (HF.out hq)
          have hqb : (u == v) = false := by rw [beq_eq_false_iff_ne]; exact hq
          go_wp2_with fail
          refine wp_region_quiet_grown (by assumption) (by kernel_rfl) ?_
          repeat (first | go_big_quiet_step (fail) | quiet_step (fail))
          refine wpQuiet_nil ?_
          intro _ hw'
          obtain ⟨⟨nq, osq⟩, hw''⟩ := hw'
          subst hw''
          go_wp2_with fail
          go_ret
          exact ⟨by rw [HN.out]; rfl, HI.out.trans ((below_grown wr nq osq).mono hzi)⟩
      · obtain rfl : j = l.length := by omega
        have HT : Hid (decide (l = k) = true) := Lib.hid (decide_eq_true (List.ext_getElem HLN.out fun i h1 h2 => HA.out i h1 h2 h1))
        clear HA
        go_wp2_with fail
        go_ret
        exact ⟨by rw [HT.out]; rfl, HI.out⟩
  · have hli : ¬ (l.length : Int) = (k.length : Int) := by omega
    have hlb : ((l.length : Int) == (k.length : Int)) = false := by rw [beq_eq_false_iff_ne]; exact hli
    have HF : Hid (decide (l = k) = false) := Lib.hid (by rw [decide_eq_false_iff_not]; rintro rfl; exact hlen rfl)
    clear hlen
    go_enter Try.func23, Try.ntmps23
    go_wp2_with fail
    go_ret
    exact ⟨by rw [HF.out]; rfl, Below.refl _ _⟩
theorem meetsP_any (x : Int) (B : Nat) (s : Int) (w : World) (hc : w.cell? ⟨B, 0, none⟩ = some (.int .i64 s)) : Calls Try.prog 36 (#[.int .i64 x] ++ #[.pointer (some ⟨B, 0, none⟩)]) w fun e w' => e = .returned (.bool (bits .and .i64 x s == 0)) ∧ Below w.heap.size w w' := by
  go_enter Try.func36, Try.ntmps36
  go_wp2_with fail
  go_ret
  exact ⟨rfl, Below.refl _ _⟩
theorem meets_any (w : World) (lo hi : Nat) (a : Option Addr) (c : Nat) (l : List Int) (s : Int) (h : RowIn lo hi w a (M.encIs l)) (hz : hi ≤ w.heap.size) (hl : l.length ≤ 1048576) :
    Calls Try.prog 19 #[.slice a l.length c, .int .i64 s] w (BoolPost w (M.meetB l s)) := by
  have H := Lib.hid h
  clear h
  have HM := Lib.hid (M.meet_any l s)
  go_enter Try.func19, Try.ntmps19
  go_wp2_with fail
  refine named ?_
  intro W hW
  have hb : Below w.heap.size w W := by rw [hW]; exact below_alloc _ _
  have hc : W.cell? ⟨w.heap.size, 0, none⟩ = some (.int .i64 s) := by rw [hW]; simp
  have hsz : w.heap.size < W.heap.size := by rw [hW]; simp
  clear hW
  refine (containsFunc_any 36 #[.pointer (some ⟨w.heap.size, 0, none⟩)] (fun x => bits .and .i64 x s == 0) (enters_of Try.func36 (by kernel_rfl) rfl) W lo hi a c l (fun W' x hq => meetsP_any x w.heap.size s W' ((hq.cell (p := ⟨w.heap.size, 0, none⟩) hsz).trans hc)) (H.out.below hb hz) (by omega) hl).mono ?_
  rintro e w1 ⟨rfl, hb1⟩
  have HB1 := Lib.hid (hb.trans (hb1.mono hb.size))
  clear hb hb1
  generalize (l.any fun x => bits .and .i64 x s == 0) = q at *
  go_wp2_with fail
  go_ret
  exact ⟨by rw [← HM.out]; rfl, HB1.out⟩
theorem isClutter_any (w : World) (lo hi : Nat) (a : Option Addr) (c : Nat) (l : List Int) (h : RowIn lo hi w a (M.encIs l)) (hz : hi ≤ w.heap.size) (hl : l.length ≤ 1048576) :
    Calls Try.prog 8 #[.slice a l.length c] w (BoolPost w (M.isCluB l)) := by
  have H := Lib.hid h
  clear h
  by_cases h20 : l.length ≤ 20
  · have hE : M.isCluB l = (M.keysB l && decide (l = M.cluV l)) := by
      unfold M.isCluB
      rw [decide_eq_true h20, Bool.true_and]
      congr 1
      rw [Bool.eq_iff_iff, decide_eq_true_iff, decide_eq_true_iff]
      exact ⟨fun h => h.symm, fun h => h.symm⟩
    have HE := Lib.hid hE
    have hcl : (M.cluV l).length ≤ 1048576 := by
      unfold M.cluV
      split
      · rw [M.intsF_len]
        have := M.cluF_len (M.setsOf l)
        rw [M.setsOf_len] at this
        omega
      · simp
    have h20i : ¬ (20 : Int) < (l.length : Int) := by omega
    clear hE
    go_enter Try.func8, Try.ntmps8
    go_wp2_with fail
    refine (clutterOf_any w lo hi a c l H.out hz hl).mono ?_
    rintro e w1 ⟨qa, qc, rfl, ho, ho1, ho2, hb1⟩
    have HO := Lib.hid ho
    have HB1 := Lib.hid hb1
    have hz1 := hb1.size
    clear ho hb1
    cases hk : M.keysB l with
    | false =>
      rw [hk] at HE
      have HF : Hid (M.isCluB l = false) := Lib.hid HE.out
      clear hk
      generalize M.cluV l = L at *
      go_wp2_with fail
      go_ret
      exact ⟨by rw [HF.out]; rfl, HB1.out⟩
    | true =>
      rw [hk] at HE
      have HF : Hid (M.isCluB l = decide (l = M.cluV l)) := Lib.hid HE.out
      clear hk
      generalize M.cluV l = L at *
      go_wp2_with fail
      refine (equalI_any w1 lo hi _ _ a qa c qc l L (H.out.below HB1.out hz) (by omega) HO.out.row (Nat.le_refl _) hl hcl).mono ?_
      rintro e w2 ⟨rfl, hb2⟩
      generalize decide (l = L) = q at *
      go_wp2_with fail
      go_ret
      exact ⟨by rw [HF.out]; rfl, HB1.out.trans (hb2.mono hz1)⟩
  · have HF := Lib.hid (M.clu_long (l := l) (by omega))
    have h20i : (20 : Int) < (l.length : Int) := by omega
    go_enter Try.func8, Try.ntmps8
    go_wp2_with fail
    go_ret
    exact ⟨by rw [HF.out]; rfl, Below.refl _ _⟩
end C
end Go.Proofs.Ytkkfmleoamhgkaa
