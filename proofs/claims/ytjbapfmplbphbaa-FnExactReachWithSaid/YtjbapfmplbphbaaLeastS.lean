/-
  CONTRACT of spec.LeastNeeds: the same list as the program's; what lay in memory stays. No condition but that the maze reads so.
-/
import Derived.Test.YtjbapfmplbphbaaLeast
namespace Go.Proofs.Ytjbapfmplbphbaa
open Go.RowKit
namespace C
set_option maxHeartbeats 3200000
set_option maxRecDepth 20000
theorem joins_grown (d : M.Dr) (x y : Int) (w : World) : Calls Try.prog 58 #[.agg #[.int .i64 d.1, .int .i64 d.2.1, .int .i64 d.2.2], .int .i64 x, .int .i64 y] w fun e w' => e = .returned (.bool (M.joinsB d x y)) ∧ ∃ q os, w' = Sort.grow (w.drewN q) os :=
  (joins_any d x y w).mono fun _ _ ⟨h1, h2⟩ => ⟨h1, 0, #[.cells #[.int .i64 d.1, .int .i64 d.2.1, .int .i64 d.2.2] 59], by rw [← h2, Sort.alloc_eq_grow]; rfl⟩
theorem joins_b (d : M.Dr) (x y : Int) (w : World) : Calls Try.prog 58 #[.agg #[.int .i64 d.1, .int .i64 d.2.1, .int .i64 d.2.2], .int .i64 x, .int .i64 y] w fun e w' => e = .returned (.bool (M.joinsB d x y)) ∧ Below w.heap.size w w' :=
  (joins_any d x y w).mono fun _ _ ⟨h1, h2⟩ => ⟨h1, by rw [← h2]; exact below_alloc _ _⟩
theorem goodTo_bad {l : List M.Dr} {x y : Int} {i k : Nat} (h : M.goodTo l x y i k = true) (b : Bool) (hb : M.badB l x y i k = b) : M.goodTo l x y i (k + 1) = !b := by
  rw [M.goodTo_succ, h, hb]; rfl
theorem specLeast_lw (w : World) (lo hi : Nat) (m : M.Mz) (a b : Option Addr) (c d : Nat) (h : MzIn lo hi w m a c b d) (hz : hi ≤ w.heap.size) (_h1 : m.doors.length ≤ 1048576) (_h2 : m.keys.length ≤ 1048576) (x : Int) (_x1 : -9223372036854775808 ≤ x) (_x2 : x ≤ 9223372036854775807) (y : Int) (_y1 : -9223372036854775808 ≤ y) (_y2 : y ≤ 9223372036854775807) :
    Calls Try.prog 23 #[.agg #[.int .i64 m.size, .slice a m.doors.length c, .slice b m.keys.length d], .int .i64 x, .int .i64 y] w (IntsOkPost w (M.leastV m x y) (M.leastVB m x y)) := by
  obtain ⟨i0, hi0, hz0, hz1, hz2⟩ := info_parts infoI
  have H := Lib.hid h
  have hc1 := h.c1
  have hc2 := h.c2
  clear h
  go_enter Try.func23, Try.ntmps23
  go_wp2_with fail
  refine named ?_
  intro W hW
  have hb : Below w.heap.size w W := by rw [hW]; exact (below_alloc _ _).alloc (by simp) _
  have x1 : Box3 W w.heap.size 29 (.int .i64 m.size) (.slice a m.doors.length c) (.slice b m.keys.length d) := by rw [hW]; exact (Box3.new _ _ _ _ rfl).alloc _
  have o1 : W.ownsRow w.heap.size 3 1 (.slice (some ⟨w.heap.size + 1, 0, none⟩) 0 0) 0 [] := by
    rw [hW]
    have := ownsRow_empty (w.alloc (.cells #[.int .i64 m.size, .slice a m.doors.length c, .slice b m.keys.length d] 29)) w.heap.size 3 1 (by simp)
    simpa using this
  clear hW
  have hzw := hb.size
  refine (l2Node_any W lo hi m a b c d x (H.out.below hb hz) (by omega)).mono ?_
  rintro e w1 ⟨rfl, hb1⟩
  have X1 := Lib.hid (x1.below hb1)
  have O1 := Lib.hid (own_below o1 hb1)
  have HB1 := Lib.hid (hb.trans (hb1.mono hzw))
  have hz1w := hb1.size
  have hbl := X1.out.lt
  obtain ⟨c0, c1, c2⟩ := X1.out.cells
  clear hb hb1 x1 o1
  cases q1 : M.mzNodeB m x with
  | false =>
    have HF : Hid (M.leastVB m x y = false) := Lib.hid (by unfold M.leastVB; rw [q1]; rfl)
    have HV := Lib.hid (M.leastV_no HF.out)
    clear q1
    go_wp2_with fail
    go_ret2
    rw [HF.out, HV.out]
    exact intsOk_end (l := []) O1.out HB1.out
  | true =>
    have Q1 := Lib.hid q1
    have HM : Hid (M.mazeB m = true) := Lib.hid (by unfold M.mzNodeB at q1; rw [Bool.and_eq_true] at q1; exact q1.1)
    clear q1
    go_wp2_with fail
    refine (l2Node_any w1 lo hi m a b c d y (H.out.below HB1.out hz) (by omega)).mono ?_
    rintro e w2 ⟨rfl, hb2⟩
    have X2 := Lib.hid (X1.out.below hb2)
    have O2 := Lib.hid (own_below O1.out hb2)
    have HB2 := Lib.hid (HB1.out.trans (hb2.mono (by omega)))
    have hz2w := hb2.size
    clear hb2 c0 c1 c2
    obtain ⟨c0, c1, c2⟩ := X2.out.cells
    have hny : M.mzNodeB m y = M.nodeB m.size y := by unfold M.mzNodeB; rw [HM.out]; rfl
    have HNY := Lib.hid hny
    clear hny
    rw [HNY.out]
    cases q2 : M.nodeB m.size y with
    | false =>
      have HF : Hid (M.leastVB m x y = false) := Lib.hid (by unfold M.leastVB; rw [q2, Q1.out]; rfl)
      have HV := Lib.hid (M.leastV_no HF.out)
      clear q2
      go_wp2_with fail
      go_ret2
      rw [HF.out, HV.out]
      exact intsOk_end (l := []) O2.out HB2.out
    | true =>
      have HF : Hid (M.leastVB m x y = true) := Lib.hid (by unfold M.leastVB; rw [q2, Q1.out]; rfl)
      have hv := M.leastV_yes HF.out
      rw [← M.least_same (M.valid_of HM.out) x y] at hv
      have HV := Lib.hid hv
      have v30 := (M.valid_of HM.out).few
      clear q2 hv
      go_wp2_with fail
      go_loopw [8, 9, 10, 11] (fun v i _ _ wr => ∃ (k : Nat), k ≤ m.doors.length ∧ i = .int .i64 k ∧ wr.ownsRow w.heap.size 3 1 v (M.modelTo m.doors x y k).length (M.encIs (M.modelTo m.doors x y k)) ∧ Box3 wr w.heap.size 29 (.int .i64 m.size) (.slice a m.doors.length c) (.slice b m.keys.length d) ∧ Below w.heap.size w wr) (fun _ i _ _ _ => m.doors.length - (intOf i).toNat)
      case atStart => exact ⟨0, Nat.zero_le _, rfl, O2.out, X2.out, HB2.out⟩
      case round =>
        obtain ⟨k, hk, rfl, hown, hbox, hnx⟩ := hrel
        have HN := Lib.hid hnx
        have HO := Lib.hid hown
        have HBX := Lib.hid hbox
        have hzr := hnx.size
        have hlen := M.modelTo_len m.doors x y k
        obtain ⟨x0, x1, x2⟩ := hbox.cells
        clear hnx hbox hown
        by_cases hlt : k < m.doors.length
        · obtain ⟨db, off, rfl, _, hdb, hc0⟩ := (H.out.doors.below HN.out hz).at_ (k := k * 3) (by rw [M.encDs_len]; omega)
          have a0 := hc0 _ _ (M.encDs_at0 hlt)
          have a1 : wr.cell? ⟨db, off + k * 3 + 1, none⟩ = some (.int .i64 m.doors[k].2.1) := hc0 _ _ (M.encDs_at1 hlt)
          have a2 : wr.cell? ⟨db, off + k * 3 + 2, none⟩ = some (.int .i64 m.doors[k].2.2) := hc0 _ _ (M.encDs_at2 hlt)
          have HC := Lib.hid hc0
          have hgk := M.getD_at hlt
          have HGK := Lib.hid hgk
          clear hc0 hgk
          go_wp2_with fail
          refine (joins_b m.doors[k] _ _ _).mono ?_
          rintro e w5 ⟨rfl, hb5⟩
          have hz5 := hb5.size
          have X5 := Lib.hid (HBX.out.below hb5)
          have O5 := Lib.hid (own_below HO.out hb5)
          have HB5 := Lib.hid (HN.out.trans (hb5.mono hzr))
          have C5 := Lib.hid (fun i u hu => (hb5.cell (p := ⟨db, off + i, none⟩) (show db < _ by omega)).trans (HC.out i u hu))
          have HJ : Hid (M.joinsB m.doors[k] x y = M.goodTo m.doors x y k 0) := Lib.hid (by rw [M.goodTo_zero, HGK.out])
          rw [HJ.out]
          clear hb5 x0 x1 x2 a0 a1 a2
          go_wp2_with fail
          go_loopw [10, 11] (fun g i wi => ∃ (j : Nat), j ≤ m.doors.length ∧ i = .int .i64 j ∧ g = .bool (M.goodTo m.doors x y k j) ∧ Below w5.heap.size w5 wi) (fun _ i _ => m.doors.length - (intOf i).toNat)
          case atStart => exact ⟨0, Nat.zero_le _, rfl, rfl, Below.refl _ _⟩
          case round =>
            obtain ⟨j, hj, rfl, rfl, hni⟩ := hrel
            have HNI := Lib.hid hni
            have hzi := hni.size
            have hXi := X5.out.below hni
            have hbi := hXi.lt
            have hdw : db < wr.heap.size := by omega
            obtain ⟨x0, x1, x2⟩ := hXi.cells
            have XI := Lib.hid hXi
            have CI := Lib.hid (fun i u hu => (hni.cell (p := ⟨db, off + i, none⟩) (show db < _ by omega)).trans (C5.out i u hu))
            clear hni hXi
            by_cases hjl : j < m.doors.length
            · have HGJ := Lib.hid (M.getD_at hjl)
              cases hg : M.goodTo m.doors x y k j with
              | false =>
                have HG := Lib.hid (M.goodTo_false hg (Nat.le_of_lt hjl))
                have HD := Lib.hid (M.modelTo_no HG.out)
                clear hg
                go_wp2_with fail
                go_roundw
                case rel => exact ⟨k + 1, by omega, by go_num, by rw [HD.out]; exact own_below O5.out HNI.out, XI.out, HB5.out.trans (HNI.out.mono (by omega))⟩
                case measure => simp [intOf]; omega
              | true =>
                have HG := Lib.hid hg
                clear hg
                go_wp2_with fail
                have mixed : Try.prog.follows .mixedOrders = true := by kernel_rfl
                have p0 : wr.cell? ⟨db, off + j * 3, none⟩ = some (.int .i64 m.doors[j].1) := CI.out _ _ (M.encDs_at0 hjl)
                have p1 : wr.cell? ⟨db, off + j * 3 + 1, none⟩ = some (.int .i64 m.doors[j].2.1) := CI.out _ _ (M.encDs_at1 hjl)
                have p2 : wr.cell? ⟨db, off + j * 3 + 2, none⟩ = some (.int .i64 m.doors[j].2.2) := CI.out _ _ (M.encDs_at2 hjl)
                have q2 : wr.cell? ⟨db, off + k * 3 + 2, none⟩ = some (.int .i64 m.doors[k].2.2) := CI.out _ _ (M.encDs_at2 hlt)
                have X0 := cell_grown hbi x0
                have X1 := cell_grown hbi x1
                have X2 := cell_grown hbi x2
                have P0 := cell_grown (a := ⟨db, off + j * 3, none⟩) hdw p0
                have P1 := cell_grown (a := ⟨db, off + j * 3 + 1, none⟩) hdw p1
                have P2 := cell_grown (a := ⟨db, off + j * 3 + 2, none⟩) hdw p2
                have P3 := cell_grown (a := ⟨db, off + k * 3 + 2, none⟩) hdw q2
                have hjli : (j : Int) < (m.doors.length : Int) := by omega
                have hlti : (k : Int) < (m.doors.length : Int) := by omega
                clear x0 x1 x2 p0 p1 p2 q2
                by_cases hjk : j = k
                · subst hjk
                  have HG1 := Lib.hid (goodTo_bad HG.out false (by unfold M.badB; simp))
                  refine wp_region_quiet_grown (by assumption) (by kernel_rfl) ?_
                  repeat (first | go_big_quiet_step (fail) | quiet_step (fail))
                  refine wpQuiet_nil ?_
                  intro _ hw'
                  obtain ⟨⟨nq, osq⟩, hw''⟩ := hw'
                  subst hw''
                  go_wp2_with fail
                  go_roundw
                  case rel => exact ⟨j + 1, by omega, by go_num, by rw [HG1.out]; rfl, HNI.out.trans ((below_grown wr _ _).mono (by omega))⟩
                  case measure => simp [intOf]; omega
                · have hjk' : ¬ (j : Int) = (k : Int) := by omega
                  have hjn : ((j : Int) != (k : Int)) = true := by simpa using hjk'
                  have hjb : (j != k) = true := by simpa using hjk
                  cases e1 : M.joinsB m.doors[j] x y with
                  | false =>
                    have HG1 := Lib.hid (goodTo_bad HG.out false (by unfold M.badB; rw [HGJ.out, e1, hjb]; rfl))
                    refine wp_region_quiet_grown (by assumption) (by kernel_rfl) ?_
                    repeat (first | go_big_quiet_step (first | (go_at_call 58; refine Calls.grown_of (joins_grown m.doors[j] _ _ _))) | quiet_step (first | (go_at_call 58; refine Calls.grown_of (joins_grown m.doors[j] _ _ _))))
                    refine wpQuiet_nil ?_
                    intro _ hw'
                    obtain ⟨⟨nq, osq⟩, hw''⟩ := hw'
                    subst hw''
                    go_wp2_with fail
                    go_roundw
                    case rel => exact ⟨j + 1, by omega, by go_num, by rw [HG1.out]; rfl, HNI.out.trans ((below_grown wr _ _).mono (by omega))⟩
                    case measure => simp [intOf]; omega
                  | true =>
                    cases e2 : M.has2B m.doors[k].2.2 m.doors[j].2.2 with
                    | false =>
                      have HG1 := Lib.hid (goodTo_bad HG.out false (by unfold M.badB; rw [HGJ.out, HGK.out, e1, e2, hjb]; rfl))
                      refine wp_region_quiet_grown (by assumption) (by kernel_rfl) ?_
                      repeat (first | go_big_quiet_step (first | (go_at_call 58; refine Calls.grown_of (joins_grown m.doors[j] _ _ _)) | (go_at_call 59; refine Calls.grown_of (same_grown (l2Has_any _ _ _)))) | quiet_step (first | (go_at_call 58; refine Calls.grown_of (joins_grown m.doors[j] _ _ _)) | (go_at_call 59; refine Calls.grown_of (same_grown (l2Has_any _ _ _)))))
                      refine wpQuiet_nil ?_
                      intro _ hw'
                      obtain ⟨⟨nq, osq⟩, hw''⟩ := hw'
                      subst hw''
                      go_wp2_with fail
                      go_roundw
                      case rel => exact ⟨j + 1, by omega, by go_num, by rw [HG1.out]; rfl, HNI.out.trans ((below_grown wr _ _).mono (by omega))⟩
                      case measure => simp [intOf]; omega
                    | true =>
                      have HG1 := Lib.hid (goodTo_bad HG.out true (by unfold M.badB; rw [HGJ.out, HGK.out, e1, e2, hjb]; rfl))
                      refine wp_region_quiet_grown (by assumption) (by kernel_rfl) ?_
                      repeat (first | go_big_quiet_step (first | (go_at_call 58; refine Calls.grown_of (joins_grown m.doors[j] _ _ _)) | (go_at_call 59; refine Calls.grown_of (same_grown (l2Has_any _ _ _)))) | quiet_step (first | (go_at_call 58; refine Calls.grown_of (joins_grown m.doors[j] _ _ _)) | (go_at_call 59; refine Calls.grown_of (same_grown (l2Has_any _ _ _)))))
                      refine wpQuiet_nil ?_
                      intro _ hw'
                      obtain ⟨⟨nq, osq⟩, hw''⟩ := hw'
                      subst hw''
                      go_wp2_with fail
                      go_roundw
                      case rel => exact ⟨j + 1, by omega, by go_num, by rw [HG1.out]; rfl, HNI.out.trans ((below_grown wr _ _).mono (by omega))⟩
                      case measure => simp [intOf]; omega
            · obtain rfl : j = m.doors.length := by omega
              cases hg : M.goodTo m.doors x y k m.doors.length with
              | false =>
                have HD := Lib.hid (M.modelTo_no hg)
                clear hg
                go_wp2_with fail
                go_roundw
                case rel => exact ⟨k + 1, by omega, by go_num, by rw [HD.out]; exact own_below O5.out HNI.out, XI.out, HB5.out.trans (HNI.out.mono (by omega))⟩
                case measure => simp [intOf]; omega
              | true =>
                have HD := Lib.hid (M.modelTo_yes hg)
                have q2 : wr.cell? ⟨db, off + k * 3 + 2, none⟩ = some (.int .i64 m.doors[k].2.2) := CI.out _ _ (M.encDs_at2 hlt)
                have hown := own_below O5.out HNI.out
                have HNE := Lib.hid (own_ne_box hown XI.out (by decide))
                clear hg
                go_wp2_with (at_builtin; refine wpList_append_own _ rfl _ _ 23 rfl w.heap.size 3 i0 (.int .i64 0) 1 8 Try.underlying23 hi0 hz0 hz1 hz2 rfl (by decide) _ _ _ rfl (hown.alloc _) ⟨wr.heap.size, 0, none⟩ 1 1 [.int .i64 m.doors[k].2.2] rfl rfl (cell_one_new _ _ _) (fun x hx => by simp at hx; subst hx; rfl) (by unfold maxLen; omega) (by omega) (by simp; omega) ?_; intro v' w7 hown' hgrow7 hnil7)
                go_roundw
                case rel =>
                  refine ⟨k + 1, by omega, by go_num, ?_, (XI.out.alloc _).grown hgrow7 HNE.out, ((HB5.out.trans (HNI.out.mono (by omega))).alloc (by omega) _).grown hgrow7 (by simp; omega) (own_base hown)⟩
                  rw [HD.out, HGK.out]
                  simpa [M.encIs] using hown'
                case measure => simp [intOf]; omega
        · obtain rfl : k = m.doors.length := by omega
          go_wp2_with fail
          go_ret2
          rw [HF.out, HV.out]
          exact intsOk_end HO.out HN.out
end C
end Go.Proofs.Ytjbapfmplbphbaa
