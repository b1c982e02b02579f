/-
  CONTRACTS of the model's l9Place, l9Swap. Condition: what is looked for is there.
-/
import Derived.Test.YtddpjjdncmokmaaFilM
import Derived.Test.YtddpjjdncmokmaaWBDigitsI
import Derived.Test.YtddpjjdncmokmaaLayM
import Derived.Test.YtddpjjdncmokmaaWCBefore
namespace Go.Proofs.Ytddpjjdncmokmaa
open Go.RowKit
namespace M
theorem place_ne {l : List Int} {x : Int} {k : Nat} (h : k < placeL l x) (hk : k < l.length) : l[k] ≠ x := by
  have := List.not_of_lt_findIdx (p := fun y => y == x) (xs := l) (i := k) h
  simpa using this
theorem place_in {l : List Int} {x : Int} (h : x ∈ l) : placeL l x < l.length := List.idxOf_lt_length_of_mem h
theorem place_get {l : List Int} {x : Int} (h : x ∈ l) (hk : placeL l x < l.length) : l[placeL l x] = x := by unfold placeL; exact List.getElem_idxOf hk
theorem place_out {l : List Int} {x : Int} (h : x ∉ l) : placeL l x = l.length := List.idxOf_eq_length h
theorem place_eq9 {l : List Int} {x : Int} {k : Nat} (hk : k < l.length) (hx : l[k] = x) (hall : ∀ j (hj : j < l.length), j < k → l[j] ≠ x) : placeL l x = k := by
  have hm : x ∈ l := hx ▸ List.getElem_mem hk
  have h1 := place_in hm
  rcases Nat.lt_trichotomy (placeL l x) k with h | h | h
  · exact absurd (place_get hm h1) (hall _ h1 h)
  · exact h
  · exact absurd hx (place_ne h hk)
def idxV (l : List Int) (x : Int) : Int := if memB l x then (placeL l x : Int) else -1
theorem idxV_yes {l : List Int} {x : Int} (h : memB l x = true) : idxV l x = (placeL l x : Int) := by unfold idxV; rw [if_pos h]
theorem idxV_no {l : List Int} {x : Int} (h : memB l x = false) : idxV l x = -1 := by unfold idxV; rw [h]; rfl
theorem place_inj {l : List Int} {x y : Int} (hx : x ∈ l) (hy : y ∈ l) (h : placeL l x = placeL l y) : x = y := by
  have h1 := place_get hx (place_in hx)
  have h2 := place_get hy (place_in hy)
  rw [← h1, ← h2]
  congr 1
def swV (m : Mz) (s : Int) (fs : List Int) (a b : Int) : List Int := if swapB m s fs a b then swapV s fs a b else []
theorem swV_len (m : Mz) (s : Int) (fs : List Int) (a b : Int) : (swV m s fs a b).length ≤ 1048576 := by
  unfold swV
  split
  · rename_i h
    unfold swapB at h
    simp only [Bool.and_eq_true] at h
    have h1 := (fil_yes h.1.1.1).2.2
    have h2 := many_le s
    rw [swapV_len]
    omega
  · simp
theorem sw_yes {m : Mz} {s : Int} {fs : List Int} {a b : Int} (h1 : filB m s fs = true) (h2 : memB (colours s) a = true) (h3 : memB (colours s) b = true) (h4 : a ≠ b) : swapB m s fs a b = true ∧ swV m s fs a b = swapV s fs a b := by
  have : swapB m s fs a b = true := by unfold swapB; rw [h1, h2, h3, beq_eq_false_iff_ne.2 h4]; rfl
  exact ⟨this, by unfold swV; rw [if_pos this]⟩
theorem sw_no {m : Mz} {s : Int} {fs : List Int} {a b : Int} (h : filB m s fs = false ∨ memB (colours s) a = false ∨ memB (colours s) b = false ∨ a = b) : swapB m s fs a b = false ∧ swV m s fs a b = [] := by
  have : swapB m s fs a b = false := by
    unfold swapB
    rcases h with h | h | h | h
    · rw [h]; rfl
    · rw [h]; cases filB m s fs <;> rfl
    · rw [h]; cases filB m s fs <;> cases memB (colours s) a <;> rfl
    · subst h; rw [beq_self_eq_true]; simp
  exact ⟨this, by unfold swV; rw [this]; rfl⟩
end M
namespace C
set_option linter.unusedVariables false
set_option maxHeartbeats 3200000
set_option maxRecDepth 20000
theorem place9_any (w : World) (lo hi : Nat) (a : Option Addr) (c : Nat) (l : List Int) (x : Int) (h : RowIn lo hi w a (M.encIs l)) (hx : x ∈ l) (hl : l.length ≤ 1048576) :
    Calls Try.prog 80 #[.slice a l.length c, .int .i64 x] w fun e w' => e = .returned (.int .i64 (M.placeL l x : Nat)) ∧ w = w' := by
  have H := Lib.hid h
  have hp := M.place_in hx
  have HG := Lib.hid (M.place_get hx)
  have HNE := Lib.hid (fun k (h : k < M.placeL l x) (hk : k < l.length) => M.place_ne h hk)
  clear h
  generalize M.placeL l x = p at *
  go_enter Try.func80, Try.ntmps80
  go_wp2_with fail
  go_loop [5] (fun i => ∃ (k : Nat), k ≤ p ∧ i = .int .i64 k) (fun i => p - (intOf i).toNat)
  case atStart => exact ⟨0, Nat.zero_le _, rfl⟩
  case round =>
    obtain ⟨k, hk, rfl⟩ := hrel
    have hkl : k < l.length := by omega
    obtain ⟨b, off, rfl, _, _, hc0⟩ := H.out.at_ (k := k) (by rw [M.encIs_len]; exact hkl)
    have hc := hc0 k _ (M.encIs_at hkl)
    clear hc0
    by_cases hlt : k < p
    · have hne := HNE.out k hlt hkl
      have hne2 : (l[k] == x) = false := by rw [beq_eq_false_iff_ne]; exact hne
      have hne3 : (l[k] != x) = true := by rw [bne_iff_ne]; exact hne
      generalize l[k] = y at *
      go_wp2_with fail
      go_round
      case rel => exact ⟨k + 1, by omega, by go_num⟩
      case measure => simp [intOf]; omega
    · obtain rfl : k = p := by omega
      rw [HG.out hkl] at hc
      have hne3 : (x != x) = false := bne_self_eq_false x
      go_wp2_with fail
      go_ret
      exact ⟨rfl, rfl⟩
theorem encIs_set9 (l : List Int) (k : Nat) (z : Int) : M.encIs (l.set k z) = (M.encIs l).set k (.int .i64 z) := by unfold M.encIs; rw [List.map_set]
theorem swap9_any (w : World) (s : Int) (hs : M.setB s = true) (lo' hi' : Nat) (fa : Option Addr) (fc : Nat) (fs : List Int) (hf : RowIn lo' hi' w fa (M.encIs fs)) (hz' : hi' ≤ w.heap.size) (hl : fs.length ≤ 1048576) (hlen : fs.length = M.manyC s) (x y : Int) (hx : x ∈ M.colours s) (hy : y ∈ M.colours s) :
    Calls Try.prog 89 #[.int .i64 s, .slice fa fs.length fc, .int .i64 x, .int .i64 y] w (IntsPost w (M.swapV s fs x y)) := by
  have HF := Lib.hid hf
  have HCS := Lib.hid (fun W => colours9_any s hs W)
  have HSL := Lib.hid (M.swapV_len s fs x y)
  have HSV : Hid (M.swapV s fs x y = (fs.set (M.placeL (M.colours s) x) (fs.getD (M.placeL (M.colours s) y) 0)).set (M.placeL (M.colours s) y) (fs.getD (M.placeL (M.colours s) x) 0)) := Lib.hid rfl
  have hpx := M.place_in hx
  have hpy := M.place_in hy
  have hm6 := M.many_le s
  have hcl6 : (M.colours s).length ≤ 1048576 := by unfold M.manyC at hm6; omega
  have hpx' : M.placeL (M.colours s) x < fs.length := by rw [hlen]; exact hpx
  have hpy' : M.placeL (M.colours s) y < fs.length := by rw [hlen]; exact hpy
  have HX := Lib.hid hx
  have HY := Lib.hid hy
  have hf6 : fs.length ≤ 6 := by omega
  clear hf hlen hx hy hpx hpy hm6
  go_enter Try.func89, Try.ntmps89
  go_wp2_with fail
  refine (l1Own_any w lo' hi' fa fc fs HF.out hz' hl).mono ?_
  rintro e w1 ⟨oa, oc, rfl, ho, ho1, ho2, hb1⟩
  have HO1 := Lib.hid ho
  have HB1 := Lib.hid hb1
  have hz1 := hb1.size
  clear ho hb1
  go_wp2_with fail
  refine (HCS.out _).mono ?_
  rintro e w2 ⟨qa, qc, rfl, hoc, hoc1, hoc2, hb2⟩
  have HOC := Lib.hid hoc.row
  have HO2 := Lib.hid (HO1.out.below hb2 (Nat.le_refl _))
  have HB2 := Lib.hid (HB1.out.trans (hb2.mono (by omega)))
  have hz2 := hb2.size
  have HP1 := Lib.hid (place9_any w2 _ _ qa qc (M.colours s) x hoc.row HX.out hcl6)
  have HP2 := Lib.hid (place9_any w2 _ _ qa qc (M.colours s) y hoc.row HY.out hcl6)
  clear hoc hb2
  go_wp2_with fail
  refine HP1.out.mono ?_
  rintro e w3 ⟨rfl, rfl⟩
  go_wp2_with fail
  refine HP2.out.mono ?_
  rintro e w3 ⟨rfl, rfl⟩
  have HFR := Lib.hid (HF.out.below HB2.out hz')
  generalize M.placeL (M.colours s) x = i at *
  generalize M.placeL (M.colours s) y = k at *
  clear HP1 HP2
  obtain ⟨fg, fo, rfl, _, hfh, hc0⟩ := HFR.out.at_ (k := i) (by rw [M.encIs_len]; exact hpx')
  have hci := hc0 i _ (M.encIs_at hpx')
  have hck := hc0 k _ (M.encIs_at hpy')
  obtain ⟨og, oo, rfl, hog1, hog2, hd0⟩ := HO2.out.row.at_ (k := i) (by rw [M.encIs_len]; exact hpx')
  have hdi := hd0 i _ (M.encIs_at hpx')
  have hdk := hd0 k _ (M.encIs_at hpy')
  have hfi := HO2.out.free rfl (k := i) (by rw [M.encIs_len]; exact hpx') (oo + i)
  have hfk := HO2.out.free rfl (k := k) (by rw [M.encIs_len]; exact hpy') (oo + k)
  have hgk : fs.getD k 0 = fs[k] := getD_of hpy'
  have hgi : fs.getD i 0 = fs[i] := getD_of hpx'
  rw [hgk, hgi] at HSV
  have o3 := HO2.out.set_ rfl i (.int .i64 fs[k])
  rw [← encIs_set9] at o3
  have HO3 := Lib.hid o3
  have t3 := Turned.setCell (lo := og) (hi := og + 1) w2 og (oo + i) (.int .i64 fs[k]) (Nat.le_refl _) (Nat.lt_succ_self _)
  have HFR3 := Lib.hid (HFR.out.turned t3 (by omega) (.inl (by omega)))
  clear hc0 hd0 o3 t3 hgk hgi
  go_upto_region 4 with fail
  refine wp_named ?_
  intro W3 hW3
  have hb3 : Turned og (og + 1) w2 W3 := by rw [hW3]; exact Turned.setCell w2 og (oo + i) _ (Nat.le_refl _) (Nat.lt_succ_self _)
  have HO4 : Hid (OwnAt w.heap.size w1.heap.size W3 3 (some ⟨og, oo, none⟩) (M.encIs (fs.set i fs[k]))) := by rw [hW3]; exact HO3
  have hs3 : W3.heap.size = w2.heap.size := by rw [hW3]; simp [World.setCell]
  clear hW3
  obtain ⟨fg', fo', he', _, _, hc0⟩ := (HFR.out.turned hb3 (by omega) (.inl (by omega))).at_ (k := i) (by rw [M.encIs_len]; exact hpx')
  injection he' with he'
  injection he' with e1 e2 _
  subst e1; subst e2
  have hci := hc0 i _ (M.encIs_at hpx')
  have hfk := HO4.out.free rfl (k := k) (by rw [M.encIs_len, List.length_set]; exact hpy') (oo + k)
  have hlk : k < (fs.set i fs[k]).length := by rw [List.length_set]; exact hpy'
  obtain ⟨og', oo', he', _, _, hd0⟩ := HO4.out.row.at_ (k := k) (by rw [M.encIs_len]; exact hlk)
  injection he' with he'
  injection he' with e1 e2 _
  subst e1; subst e2
  have hdk := hd0 k _ (M.encIs_at hlk)
  have o5 := HO4.out.set_ rfl k (.int .i64 fs[i])
  rw [← encIs_set9, ← HSV.out] at o5
  have HO5 := Lib.hid o5
  have HB5 := Lib.hid ((Below.thenTurned HB2.out hb3 (by omega) (by omega)).setCell (p := ⟨og, oo + k, none⟩) (by show w.heap.size ≤ og; omega) (.int .i64 fs[i]))
  clear hc0 hd0 o5 hb3
  go_wp2_with fail
  go_ret
  exact ⟨_, oc, by rw [HSL.out]; rfl, HO5.out.mono (Nat.le_refl _) (by simp [World.setCell]; omega), by rw [HSL.out]; exact ho1, ho2, HB5.out⟩
end C
end Go.Proofs.Ytddpjjdncmokmaa
