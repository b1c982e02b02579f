/-
  CONTRACT of impl.LeastNeeds: the least needs between two nodes in a new list, or false; what lay in memory stays. No condition but that the maze reads so.
-/
import Derived.Test.YtjbapfmplbphbaaIsOpen
import Derived.Test.YtjbapfmplbphbaaLeastMath
import Derived.Test.YtjbapfmplbphbaaNodeB
namespace Go.Proofs.Ytjbapfmplbphbaa
open Go.RowKit
namespace M
def leastVB (m : Mz) (x y : Int) : Bool := mzNodeB m x && nodeB m.size y
def leastV (m : Mz) (x y : Int) : List Int := if leastVB m x y then leastOf (needs m.doors (min x y) (max x y)) else []
theorem leastV_yes {m : Mz} {x y : Int} (h : leastVB m x y = true) : leastV m x y = leastOf (needs m.doors (min x y) (max x y)) := by unfold leastV; rw [if_pos h]
theorem leastV_no {m : Mz} {x y : Int} (h : leastVB m x y = false) : leastV m x y = [] := by unfold leastV; rw [h]; rfl
theorem leastV_len (m : Mz) (x y : Int) : (leastV m x y).length ≤ 1048576 := by
  unfold leastV
  split
  · rename_i h
    unfold leastVB mzNodeB at h
    rw [Bool.and_eq_true, Bool.and_eq_true] at h
    have := (valid_of h.1.1).few
    have h1 : (leastOf (needs m.doors (min x y) (max x y))).length ≤ (needs m.doors (min x y) (max x y)).length := by unfold leastOf; exact List.length_filter_le _ _
    have h2 := needs_len m.doors (min x y) (max x y)
    omega
  · simp
end M
namespace C
set_option maxHeartbeats 1600000
set_option maxRecDepth 20000
theorem least1_any (B : Nat) (n o : Int) (w : World) (hc : w.cell? ⟨B, 0, none⟩ = some (.int .i64 n)) :
    Calls Try.prog 61 (#[.int .i64 o] ++ #[.pointer (some ⟨B, 0, none⟩)]) w fun e w' => e = .returned (.bool ((o != n) && M.hasB n o)) ∧ Below w.heap.size w w' := by
  show Calls Try.prog 61 #[.int .i64 o, .pointer (some ⟨B, 0, none⟩)] w _
  rcases Decidable.em (o = n) with rfl | hon
  · have hne : (o != o) = false := by simp
    rw [hne]
    go_enter Try.func61, Try.ntmps61
    go_wp2_with fail
    go_ret
    exact ⟨rfl, Below.refl _ _⟩
  · have hne : (o != n) = true := by simpa using hon
    rw [hne]
    go_enter Try.func61, Try.ntmps61
    go_wp2_with fail
    refine (hasAll_any _ _ _).mono ?_
    rintro e w1 ⟨rfl, rfl⟩
    go_wp2_with fail
    go_ret
    exact ⟨rfl, Below.refl _ _⟩
theorem own_mono {w : World} {B B' : Nat} {e : TypeId} {size : Nat} {v : Value} {n : Nat} {xs : List Value} (h : w.ownsRow B e size v n xs) (hB : B' ≤ B) : w.ownsRow B' e size v n xs := by
  rcases h with ⟨hl, h | ⟨g, cap, cur, hv, hb, hr⟩⟩
  · exact ⟨hl, .inl h⟩
  · exact ⟨hl, .inr ⟨g, cap, cur, hv, Nat.le_trans hB hb, hr⟩⟩
theorem implLeast_lw (w : World) (lo hi : Nat) (m : M.Mz) (a b : Option Addr) (c d : Nat) (h : MzIn lo hi w m a c b d) (hz : hi ≤ w.heap.size) (_h1 : m.doors.length ≤ 1048576) (_h2 : m.keys.length ≤ 1048576) (x : Int) (_x1 : -9223372036854775808 ≤ x) (_x2 : x ≤ 9223372036854775807) (y : Int) (_y1 : -9223372036854775808 ≤ y) (_y2 : y ≤ 9223372036854775807) :
    Calls Try.prog 24 #[.agg #[.int .i64 m.size, .slice a m.doors.length c, .slice b m.keys.length d], .int .i64 x, .int .i64 y] w (IntsOkPost w (M.leastV m x y) (M.leastVB m x y)) := by
  obtain ⟨i0, hi0, hz0, hz1, hz2⟩ := info_parts infoI
  have H := Lib.hid h
  clear h
  go_enter Try.func24, Try.ntmps24
  go_wp2_with fail
  refine named ?_
  intro W hW
  have hb : Below w.heap.size w W := by rw [hW]; exact below_alloc _ _
  have x1 : Box3 W w.heap.size 29 (.int .i64 m.size) (.slice a m.doors.length c) (.slice b m.keys.length d) := by rw [hW]; exact Box3.new _ _ _ _ rfl
  clear hW
  have hzw := hb.size
  refine (isMaze_any W lo hi m a b c d (H.out.below hb hz) (by omega)).mono ?_
  rintro e w1 ⟨rfl, hb1⟩
  have X1 := Lib.hid (x1.below hb1)
  have hbl := X1.out.lt
  have HB1 := Lib.hid (hb.trans (hb1.mono hzw))
  have hz1w := hb1.size
  clear hb hb1 x1
  obtain ⟨c0, c1, c2⟩ := X1.out.cells
  cases q0 : M.mazeB m with
  | false =>
    have HF : Hid (M.leastVB m x y = false) := Lib.hid (by unfold M.leastVB M.mzNodeB; rw [q0]; rfl)
    have HV := Lib.hid (M.leastV_no HF.out)
    clear q0
    go_wp2_with fail
    go_ret2
    rw [HF.out, HV.out]
    exact intsOk_end (l := []) (ownsRow_empty _ _ _ _ (by omega)) (HB1.out.alloc (by omega) _)
  | true =>
    have HM := Lib.hid q0
    have HVA := Lib.hid (M.valid_of q0)
    clear q0
    go_wp2_with fail
    refine (hasNode_b m _ _ _ _ _ _).mono ?_
    rintro e W2 ⟨rfl, hb2⟩
    have X2 := Lib.hid (X1.out.below hb2)
    have HB2 := Lib.hid (HB1.out.trans (hb2.mono (by omega)))
    have hz2w := hb2.size
    clear hb2 c0 c1 c2
    obtain ⟨c0, c1, c2⟩ := X2.out.cells
    cases q1 : M.nodeB m.size x with
    | false =>
      have HF : Hid (M.leastVB m x y = false) := Lib.hid (by unfold M.leastVB M.mzNodeB; rw [q1, HM.out]; rfl)
      have HV := Lib.hid (M.leastV_no HF.out)
      clear q1
      go_wp2_with fail
      go_ret2
      rw [HF.out, HV.out]
      exact intsOk_end (l := []) (ownsRow_empty _ _ _ _ (by omega)) (HB2.out.alloc (by omega) _)
    | true =>
      have Q1 : Hid (M.mzNodeB m x = true) := Lib.hid (M.mzNode_yes HM.out q1)
      clear q1
      go_wp2_with fail
      refine (hasNode_b m _ _ _ _ _ _).mono ?_
      rintro e W3 ⟨rfl, hb3⟩
      have X3 := Lib.hid (X2.out.below hb3)
      have HB3 := Lib.hid (HB2.out.trans (hb3.mono (by omega)))
      have hz3w := hb3.size
      clear hb3 c0 c1 c2
      obtain ⟨c0, c1, c2⟩ := X3.out.cells
      cases q2 : M.nodeB m.size y with
      | false =>
        have HF : Hid (M.leastVB m x y = false) := Lib.hid (by unfold M.leastVB; rw [q2, Q1.out]; rfl)
        have HV := Lib.hid (M.leastV_no HF.out)
        clear q2
        go_wp2_with fail
        go_ret2
        rw [HF.out, HV.out]
        exact intsOk_end (l := []) (ownsRow_empty _ _ _ _ (by omega)) (HB3.out.alloc (by omega) _)
      | true =>
        have HF : Hid (M.leastVB m x y = true) := Lib.hid (by unfold M.leastVB; rw [q2, Q1.out]; rfl)
        have HV := Lib.hid (M.leastV_yes HF.out)
        have v30 := HVA.out.few
        clear q2
        go_wp2_with fail
        refine (needs_any W3 lo hi m a b c d x y (H.out.below HB3.out hz) (by omega) (by omega)).mono ?_
        rintro e w4 ⟨na, nc, rfl, ho, hq1, hq2, hb4⟩
        have HB4 := Lib.hid (HB3.out.trans (hb4.mono (by omega)))
        have HO := Lib.hid ho
        have hz4 := hb4.size
        have hl := M.needs_len m.doors (min x y) (max x y)
        generalize hL : M.needs m.doors (min x y) (max x y) = L at *
        clear ho hb4 c0 c1 c2 hq1 hq2
        clear hL
        go_wp2_with fail
        go_loopw [9, 11, 12, 36] (fun v _ _ i wr => ∃ (k : Nat), k ≤ L.length ∧ i = .int .i64 k ∧ wr.ownsRow w4.heap.size 3 1 v (M.leastTo L k).length (M.encIs (M.leastTo L k)) ∧ Below w4.heap.size w4 wr) (fun _ _ _ i _ => L.length - (intOf i).toNat)
        case atStart => exact ⟨0, Nat.zero_le _, rfl, ownsRow_empty _ _ _ _ (Nat.le_refl _), below_alloc _ _⟩
        case round =>
          obtain ⟨k, hk, rfl, hown, hnx⟩ := hrel
          have HN := Lib.hid hnx
          have HOW := Lib.hid hown
          have hzr := hnx.size
          have hlen := M.leastTo_len L k
          clear hnx
          by_cases hlt : k < L.length
          · obtain ⟨db, off, hna, _, hdb, hc0⟩ := (HO.out.row.below HN.out (Nat.le_refl _)).at_ (k := k) (by rw [M.encIs_len]; exact hlt)
            subst hna
            have a0 := hc0 _ _ (M.encIs_at hlt)
            clear hc0
            have hzb := HB4.out.size
            go_wp2_with fail
            refine named ?_
            intro W5 hW5
            have hb5 : Below wr.heap.size wr W5 := by rw [hW5]; exact below_alloc _ _
            have hc5 : W5.cell? ⟨wr.heap.size, 0, none⟩ = some (.int .i64 L[k]) := by rw [hW5]; exact cell_one_new _ _ _ 0 _ rfl
            have hlt5 : wr.heap.size < W5.heap.size := by rw [hW5]; simp
            clear hW5 a0
            have HN5 := Lib.hid (HN.out.trans (hb5.mono hzr))
            have hz5 := hb5.size
            refine (containsFunc_any 61 #[.pointer (some ⟨wr.heap.size, 0, none⟩)] (fun o => (o != L[k]) && M.hasB L[k] o) (enters_of Try.func61 (by kernel_rfl) rfl) W5 _ _ (some ⟨db, off, none⟩) nc L (fun W' z hb' => least1_any _ L[k] z W' ((hb'.cell (p := ⟨wr.heap.size, 0, none⟩) hlt5).trans hc5)) (HO.out.row.below HN5.out (Nat.le_refl _)) (by omega) (by omega)).mono ?_
            rintro e w6 ⟨rfl, hb6⟩
            have d0 : w6.cell? ⟨wr.heap.size, 0, none⟩ = some (.int .i64 L[k]) := (hb6.cell (p := ⟨wr.heap.size, 0, none⟩) hlt5).trans hc5
            have hz6 := hb6.size
            have HN6 := Lib.hid (HN5.out.trans (hb6.mono (by omega)))
            have hown6 := own_below hown (hb5.trans (hb6.mono hz5))
            have HOW6 := Lib.hid hown6
            clear hb5 hb6 hc5 hown
            show _
            have hoo : (L.any fun o => (o != L[k]) && M.hasB L[k] o) = M.otherB L L[k] := rfl
            rw [hoo]
            clear hoo
            cases ho : M.otherB L L[k] with
            | true =>
              have HD := Lib.hid (M.leastTo_no hlt ho)
              clear ho
              go_wp2_with fail
              go_roundw
              case rel => exact ⟨k + 1, by omega, by go_num, by rw [HD.out]; exact HOW6.out, HN6.out⟩
              case measure => simp [intOf]; omega
            | false =>
              have HD := Lib.hid (M.leastTo_yes hlt ho)
              clear ho
              go_wp2_with (at_builtin; refine wpList_append_own _ rfl _ _ 23 rfl w4.heap.size 3 i0 (.int .i64 0) 1 8 Try.underlying23 hi0 hz0 hz1 hz2 rfl (by decide) _ _ _ rfl (hown6.alloc _) ⟨w6.heap.size, 0, none⟩ 1 1 [.int .i64 L[k]] rfl rfl (cell_one_new _ _ _) (fun x hx => by simp at hx; subst hx; rfl) (by unfold maxLen; omega) (by omega) (by simp; omega) ?_; intro v' w7 hown' hgrow7 hnil7)
              go_roundw
              case rel =>
                refine ⟨k + 1, by omega, by go_num, ?_, (HN6.out.alloc (by omega) _).grown hgrow7 (by simp; omega) (own_base hown6)⟩
                rw [HD.out]
                simpa [M.encIs] using hown'
              case measure => simp [intOf]; omega
          · obtain rfl : k = L.length := by omega
            go_wp2_with fail
            go_ret2
            rw [HV.out, HF.out, ← M.leastTo_all]
            exact intsOk_end (own_mono HOW.out (by omega)) (HB4.out.trans (HN.out.mono (by omega)))
end C
end Go.Proofs.Ytjbapfmplbphbaa
