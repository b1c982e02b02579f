/-
  CONTRACT of the program's SwapFilling. No condition but that the maze and the list read so.
-/
import Derived.Test.YtddpjjdncmokmaaSwapI
import Derived.Test.YtddpjjdncmokmaaFilI
import Derived.Test.YtddpjjdncmokmaaWCBefore
import Derived.Test.YtddpjjdncmokmaaFilS
namespace Go.Proofs.Ytddpjjdncmokmaa
open Go.RowKit
namespace C
set_option linter.unusedVariables false
set_option maxHeartbeats 3200000
set_option maxRecDepth 20000
theorem implSwap_lw (w : World) (lo hi : Nat) (m : M.Mz) (a b : Option Addr) (c d : Nat) (h : MzIn lo hi w m a c b d) (hz : hi ≤ w.heap.size) (_h1 : m.doors.length ≤ 1048576) (_h2 : m.keys.length ≤ 1048576) (s : Int) (_s1 : -9223372036854775808 ≤ s) (_s2 : s ≤ 9223372036854775807) (lo' hi' : Nat) (fa : Option Addr) (fc : Nat) (fs : List Int) (hf : RowIn lo' hi' w fa (M.encIs fs)) (hz' : hi' ≤ w.heap.size) (hl : fs.length ≤ 1048576) (_u1 : fs.length ≤ fc) (_u2 : fc ≤ 9223372036854775807) (_u3 : ∀ z ∈ fs, -9223372036854775808 ≤ z ∧ z ≤ 9223372036854775807) (x : Int) (_x1 : -9223372036854775808 ≤ x) (_x2 : x ≤ 9223372036854775807) (y : Int) (_y1 : -9223372036854775808 ≤ y) (_y2 : y ≤ 9223372036854775807) :
    Calls Try.prog 45 #[.agg #[.int .i64 m.size, .slice a m.doors.length c, .slice b m.keys.length d], .int .i64 s, .slice fa fs.length fc, .int .i64 x, .int .i64 y] w (IntsOkPost w (M.swV m s fs x y) (M.swapB m s fs x y)) := by
  have H := Lib.hid h
  have HF := Lib.hid hf
  have HU3 := Lib.hid _u3
  clear h hf _u3
  have hm6 := M.many_le s
  have hcl6 : (M.colours s).length ≤ 1048576 := by unfold M.manyC at hm6; omega
  go_enter Try.func45, Try.ntmps45
  go_wp2_with fail
  refine named ?_
  intro W hW
  have hb : Below w.heap.size w W := by rw [hW]; exact below_alloc _ _
  have x1 : Box3 W w.heap.size 27 (.int .i64 m.size) (.slice a m.doors.length c) (.slice b m.keys.length d) := by rw [hW]; exact Box3.new _ _ _ _ rfl
  clear hW
  have hzw := hb.size
  refine (placeOf_any s x W).mono ?_
  rintro e w1 ⟨rfl, hb1⟩
  have hz1 := hb1.size
  go_wp2_with fail
  refine (placeOf_any s y w1).mono ?_
  rintro e w2 ⟨rfl, hb2⟩
  have hz2 := hb2.size
  have hb12 := hb1.trans (hb2.mono hz1)
  have X2 := Lib.hid (x1.below hb12)
  have HB2 := Lib.hid (hb.trans (hb12.mono hzw))
  obtain ⟨c0, c1, c2⟩ := X2.out.cells
  clear hb hb1 hb2 hb12 x1
  go_wp2_with fail
  refine (implIsFil_lw w2 lo hi m a b c d (H.out.below HB2.out hz) (by omega) _h1 _h2 s _s1 _s2 lo' hi' fa fc fs (HF.out.below HB2.out hz') (by omega) hl _u1 _u2 HU3.out).mono ?_
  rintro e w3 ⟨rfl, hb3⟩
  have HB3 := Lib.hid (HB2.out.trans (hb3.mono (by omega)))
  have hz3 := hb3.size
  clear hb3 c0 c1 c2
  cases qf : M.filB m s fs with
  | false =>
    have HV := Lib.hid (M.sw_no (a := x) (b := y) (.inl qf))
    clear qf
    go_wp2_with fail
    go_ret2
    rw [HV.out.1, HV.out.2]
    exact intsOk_end (l := []) (ownsRow_empty _ _ _ _ (by omega)) (HB3.out.alloc (by omega) _)
  | true =>
    obtain ⟨ha, _, hfl⟩ := M.fil_yes qf
    have HQ := Lib.hid qf
    have HFL := Lib.hid hfl
    have hf6 : fs.length ≤ 6 := by omega
    clear qf ha hfl
    cases qx : M.memB (M.colours s) x with
    | false =>
      have HV := Lib.hid (M.sw_no (m := m) (fs := fs) (b := y) (.inr (.inl qx)))
      have hix := M.idxV_no qx
      have hi1 : ((-1 : Int) < 0) := by omega
      rw [hix]
      clear qx hix
      go_wp2_with fail
      go_ret2
      rw [HV.out.1, HV.out.2]
      exact intsOk_end (l := []) (ownsRow_empty _ _ _ _ (by omega)) (HB3.out.alloc (by omega) _)
    | true =>
      have hix := M.idxV_yes qx
      have hpx := M.place_in (M.memB_true qx)
      cases qy : M.memB (M.colours s) y with
      | false =>
        have HV := Lib.hid (M.sw_no (m := m) (fs := fs) (a := x) (.inr (.inr (.inl qy))))
        have hiy := M.idxV_no qy
        rw [hix, hiy]
        clear qx hix qy hiy
        generalize M.placeL (M.colours s) x = i at *
        have hi0 : ¬ ((i : Int) < 0) := by omega
        have hi1 : ((-1 : Int) < 0) := by omega
        go_wp2_with fail
        go_ret2
        rw [HV.out.1, HV.out.2]
        exact intsOk_end (l := []) (ownsRow_empty _ _ _ _ (by omega)) (HB3.out.alloc (by omega) _)
      | true =>
        have hiy := M.idxV_yes qy
        have hpy := M.place_in (M.memB_true qy)
        have HINJ := Lib.hid (fun h => M.place_inj (M.memB_true qx) (M.memB_true qy) h)
        have hpx' : M.placeL (M.colours s) x < fs.length := by rw [HFL.out]; exact hpx
        have hpy' : M.placeL (M.colours s) y < fs.length := by rw [HFL.out]; exact hpy
        rw [hix, hiy]
        by_cases hxy : x = y
        · have HV := Lib.hid (M.sw_no (m := m) (s := s) (fs := fs) (a := x) (b := y) (.inr (.inr (.inr hxy))))
          subst hxy
          clear qx hix qy hiy HINJ
          generalize M.placeL (M.colours s) x = i at *
          have hi0 : ¬ ((i : Int) < 0) := by omega
          have hb0 : ((i : Int) == (i : Int)) = true := by rw [beq_iff_eq]
          go_wp2_with fail
          go_ret2
          rw [HV.out.1, HV.out.2]
          exact intsOk_end (l := []) (ownsRow_empty _ _ _ _ (by omega)) (HB3.out.alloc (by omega) _)
        · have HV := Lib.hid (M.sw_yes HQ.out qx qy hxy)
          have HSL := Lib.hid (M.swapV_len s fs x y)
          have HSV : Hid (M.swapV s fs x y = (fs.set (M.placeL (M.colours s) x) (fs.getD (M.placeL (M.colours s) y) 0)).set (M.placeL (M.colours s) y) (fs.getD (M.placeL (M.colours s) x) 0)) := Lib.hid rfl
          have hne : M.placeL (M.colours s) x ≠ M.placeL (M.colours s) y := fun h => hxy (HINJ.out h)
          rw [getD_of hpx', getD_of hpy'] at HSV
          clear qx hix qy hiy HINJ hxy hpx hpy
          generalize M.placeL (M.colours s) x = i at *
          generalize M.placeL (M.colours s) y = k at *
          have hi0 : ¬ ((i : Int) < 0) := by omega
          have hk0 : ¬ ((k : Int) < 0) := by omega
          have hb0 : ((i : Int) == (k : Int)) = false := by rw [beq_eq_false_iff_ne]; omega
          have HCL := Lib.hid (cloneInts_any w3 lo' hi' fa fc fs (HF.out.below HB3.out hz') (by omega) hl)
          go_wp2_with fail
          refine HCL.out.mono ?_
          rintro e w4 ⟨oa, oc, rfl, ho, ho1, ho2, hb4⟩
          have HB4 := Lib.hid (HB3.out.trans (hb4.mono (by omega)))
          have hz4 := hb4.size
          obtain ⟨og, oo, rfl, hog1, hog2, hd0⟩ := ho.row.at_ (k := i) (by rw [M.encIs_len]; exact hpx')
          have hdi := hd0 i _ (M.encIs_at hpx')
          have hdk := hd0 k _ (M.encIs_at hpy')
          have hfi := ho.free rfl (k := i) (by rw [M.encIs_len]; exact hpx') (oo + i)
          have hfk := ho.free rfl (k := k) (by rw [M.encIs_len]; exact hpy') (oo + k)
          have o5 := (ho.set_ rfl i (.int .i64 fs[k])).set_ rfl k (.int .i64 fs[i])
          rw [← encIs_set9, ← encIs_set9, ← HSV.out] at o5
          have HO5 := Lib.hid o5
          have HB5 := Lib.hid ((HB4.out.setCell (p := ⟨og, oo + i, none⟩) (by show w.heap.size ≤ og; omega) (.int .i64 fs[k])).setCell (p := ⟨og, oo + k, none⟩) (by show w.heap.size ≤ og; omega) (.int .i64 fs[i]))
          have hik : oo + i ≠ oo + k := by omega
          have hxi : i < fs.length := hpx'
          have hxk : k < fs.length := hpy'
          clear HCL ho hb4 hd0 o5 HSV
          generalize fs[i] = vi at *
          generalize fs[k] = vk at *
          go_wp2_with fail
          go_region_with (fail)
          all_goals
            go_wp2_with fail
            go_ret2
            rw [HV.out.1, HV.out.2]
            exact ⟨_, oc, by rw [HSL.out]; rfl, HO5.out.mono (by omega) (by simp [World.setCell]), by rw [HSL.out]; exact ho1, ho2, Below.drawnN HB5.out 1⟩
end C
end Go.Proofs.Ytddpjjdncmokmaa
