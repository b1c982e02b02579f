/-
  MATHEMATICS of all fillings: their order, those that win, the first and the deepest one, counts; keys at node 0 win if any filling does. No condition but those of each text.
-/
import Derived.Test.YtddpjjdncmokmaaFilM
import Derived.Test.YtddpjjdncmokmaaWFPlay
namespace Go.Proofs.Ytddpjjdncmokmaa
open Go.RowKit
namespace M
def digL (n : Nat) : Nat → Nat → List Int
  | 0, _ => []
  | k + 1, i => digL n k (i / n) ++ [((i % n : Nat) : Int)]
theorem digL_len (n : Nat) : ∀ k i, (digL n k i).length = k
  | 0, _ => rfl
  | k + 1, i => by unfold digL; rw [List.length_append, digL_len n k]; rfl
def allTo (n k j : Nat) : List (List Int) := (List.range j).map (digL n k)
def allL (n k : Nat) : List (List Int) := allTo n k (n ^ k)
theorem allTo_succ (n k j : Nat) : allTo n k (j + 1) = allTo n k j ++ [digL n k j] := by unfold allTo; rw [List.range_succ, List.map_append]; rfl
theorem allTo_len (n k j : Nat) : (allTo n k j).length = j := by unfold allTo; rw [List.length_map, List.length_range]
theorem digL_next {n k i x : Nat} (hx : x < n) : digL n (k + 1) (i * n + x) = digL n k i ++ [(x : Int)] := by
  have hn : 0 < n := by omega
  show digL n k ((i * n + x) / n) ++ [(((i * n + x) % n : Nat) : Int)] = _
  rw [Nat.mul_comm, Nat.mul_add_div hn, Nat.div_eq_of_lt hx, Nat.add_zero, Nat.mul_add_mod, Nat.mod_eq_of_lt hx]
theorem digL_zero (n : Nat) : ∀ k, digL n k 0 = List.replicate k 0
  | 0 => rfl
  | k + 1 => by unfold digL; rw [Nat.zero_div, digL_zero n k, Nat.zero_mod, List.replicate_succ']; rfl
theorem digL_node {n : Nat} (hn : 0 < n) : ∀ k i, ∀ x ∈ digL n k i, 0 ≤ x ∧ x < (n : Int)
  | 0, _, x, h => by cases h
  | k + 1, i, x, h => by
    unfold digL at h
    rcases List.mem_append.1 h with h | h
    · exact digL_node hn k _ x h
    · rw [List.mem_singleton] at h
      subst h
      have := Nat.mod_lt i hn
      omega
theorem dig_fil {m : Mz} {s : Int} (h : askB m s = true) {n : Nat} (hn : m.size = (n : Int)) (i : Nat) : filB m s (digL n (manyC s) i) = true := by
  have h1 := (ask_yes h).1.size1
  unfold filB fillB nodesB
  rw [h, Bool.true_and, Bool.and_eq_true, decide_eq_true_iff, digL_len]
  refine ⟨List.all_eq_true.2 fun x hx => ?_, rfl⟩
  rw [node_in]
  have := digL_node (n := n) (by omega) _ i x hx
  unfold nodeB
  rw [decide_eq_true_iff]
  omega
noncomputable def winF (m : Mz) (s : Int) (fs : List Int) : Bool := canB (layV m (colours s) fs) 0
theorem winF_dep {m : Mz} {s : Int} {fs : List Int} (h : filB m s fs = true) : winF m s fs = decide (0 < depR m s fs) := (win_can (layV_ask h)).symm
noncomputable def winTo (m : Mz) (s : Int) (j : Nat) : List (List Int) := (allTo m.size.toNat (manyC s) j).filter (winF m s)
theorem winTo_yes {m : Mz} {s : Int} {j : Nat} (h : winF m s (digL m.size.toNat (manyC s) j) = true) : winTo m s (j + 1) = winTo m s j ++ [digL m.size.toNat (manyC s) j] := by
  unfold winTo
  rw [allTo_succ, List.filter_append, List.filter_cons_of_pos h]
  rfl
theorem winTo_no {m : Mz} {s : Int} {j : Nat} (h : winF m s (digL m.size.toNat (manyC s) j) = false) : winTo m s (j + 1) = winTo m s j := by
  unfold winTo
  rw [allTo_succ, List.filter_append, List.filter_cons_of_neg (by rw [h]; decide)]
  simp
theorem winTo_len (m : Mz) (s : Int) (j : Nat) : (winTo m s j).length ≤ j := by
  unfold winTo
  exact Nat.le_trans (List.length_filter_le ..) (Nat.le_of_eq (allTo_len ..))
def manyF (m : Mz) (s : Int) : Nat := m.size.toNat ^ manyC s
noncomputable def winL (m : Mz) (s : Int) : List (List Int) := winTo m s (manyF m s)
def fewB (m : Mz) (s : Int) : Bool := askB m s && (decide (m.size ≤ 8) && decide (manyC s ≤ 4))
theorem few_yes {m : Mz} {s : Int} (h : fewB m s = true) : askB m s = true ∧ m.size ≤ 8 ∧ manyC s ≤ 4 := by
  unfold fewB at h
  rw [Bool.and_eq_true, Bool.and_eq_true, decide_eq_true_iff, decide_eq_true_iff] at h
  exact h
theorem manyF_le {m : Mz} {s : Int} (h : fewB m s = true) : manyF m s ≤ 4096 := by
  obtain ⟨h1, h2, h3⟩ := few_yes h
  have := (ask_yes h1).1.size1
  unfold manyF
  exact Nat.le_trans (Nat.pow_le_pow_left (show m.size.toNat ≤ 8 by omega) _) (Nat.pow_le_pow_right (by decide) h3)
noncomputable def cntV (m : Mz) (s : Int) : Int := if fewB m s then ((winL m s).length : Int) else 0
noncomputable def deepStep (m : Mz) (s : Int) (b : List Int × Int) (fs : List Int) : List Int × Int := if b.2 < depR m s fs then (fs, depR m s fs) else b
noncomputable def deepL (m : Mz) (s : Int) (l : List (List Int)) : List Int × Int := l.foldl (deepStep m s) ([], 0)
theorem deepL_snoc (m : Mz) (s : Int) (l : List (List Int)) (fs : List Int) : deepL m s (l ++ [fs]) = deepStep m s (deepL m s l) fs := by unfold deepL; rw [List.foldl_append]; rfl
theorem deepL_nonneg (m : Mz) (s : Int) (l : List (List Int)) : 0 ≤ (deepL m s l).2 := by
  induction l using snoc_ind with
  | h0 => exact Int.le_refl _
  | h1 l x ih =>
    rw [deepL_snoc]
    unfold deepStep
    split
    · exact depR_nonneg _ _ _
    · exact ih
/-- in how many lists of the numbers one has x at a place -/
def atN (l : List (List Int)) (p : Nat) (x : Int) : Nat := l.countP fun fs => fs.getD p 0 == x
def cntsL (n : Nat) (l : List (List Int)) (p : Nat) : List Int := (List.range n).map fun x : Nat => ((atN l p (x : Int) : Nat) : Int)
theorem cntsL_len (n : Nat) (l : List (List Int)) (p : Nat) : (cntsL n l p).length = n := by unfold cntsL; rw [List.length_map, List.length_range]
theorem cntsL_nil (n : Nat) (p : Nat) : cntsL n [] p = List.replicate n 0 := by
  unfold cntsL atN
  refine List.eq_replicate_iff.2 ⟨by simp, fun b hb => ?_⟩
  obtain ⟨x, _, rfl⟩ := List.mem_map.1 hb
  rfl
theorem cntsL_snoc {n : Nat} (l : List (List Int)) {p : Nat} {fs : List Int} {x : Nat} (hx : fs.getD p 0 = (x : Int)) (hn : x < n) : cntsL n (l ++ [fs]) p = (cntsL n l p).set x ((cntsL n l p).getD x 0 + 1) := by
  refine List.ext_getElem (by rw [List.length_set, cntsL_len, cntsL_len]) fun i h1 h2 => ?_
  have h1' := h1
  rw [cntsL_len] at h1'
  have hg : ∀ (l : List (List Int)) (h : i < (cntsL n l p).length), (cntsL n l p)[i]'h = ((atN l p (i : Int) : Nat) : Int) := fun l h => by simp [cntsL]
  rw [List.getElem_set, hg, hg]
  have ha : atN (l ++ [fs]) p (i : Int) = atN l p (i : Int) + if (x : Int) = (i : Int) then 1 else 0 := by
    unfold atN
    rw [List.countP_append, List.countP_singleton, hx]
    by_cases e : (x : Int) = (i : Int)
    · simp [e]
    · simp [e]
  rw [ha]
  by_cases e : x = i
  · subst e
    rw [if_pos rfl, if_pos rfl, List.getD_eq_getElem?_getD, List.getElem?_eq_getElem (by rw [cntsL_len]; exact hn), Option.getD_some, hg]
    omega
  · rw [if_neg e, if_neg (by omega)]
    omega
theorem cntsL_le (n : Nat) (l : List (List Int)) (p : Nat) : ∀ z ∈ cntsL n l p, 0 ≤ z ∧ z ≤ (l.length : Int) := by
  intro z hz
  obtain ⟨x, _, rfl⟩ := List.mem_map.1 hz
  have : atN l p (x : Int) ≤ l.length := List.countP_le_length
  omega
-- keys at node 0
theorem lay_sub {m : Mz} {s : Int} (hs : 0 ≤ s ∧ s < 64) {cs fs : List Int} (hc : ∀ c ∈ cs, (0 ≤ c ∧ c < 6) ∧ SubS (bitI c) s) : ∀ k, k ≤ cs.length → ∀ x ∈ layS m.keys.length cs fs k, (0 ≤ x ∧ x < 64) ∧ SubS x s
  | 0, _, x, h => by
    unfold layS at h
    rw [List.mem_replicate] at h
    rw [h.2]
    exact ⟨by omega, (sub_nat (a := 0) (b := s.toNat) (by omega) (by omega)).2 (by simp) |> fun h => by rwa [show ((s.toNat : Nat) : Int) = s from by omega] at h⟩
  | k + 1, hk, x, h => by
    have ih := lay_sub (m := m) hs (fs := fs) hc k (by omega)
    have hck := hc cs[k] (List.getElem_mem _)
    have hb := bit_set hck.1.1 hck.1.2
    unfold layS at h
    rcases List.mem_or_eq_of_mem_set h with h | rfl
    · exact ih x h
    · rw [show cs.getD k 0 = cs[k] from by rw [List.getD_eq_getElem?_getD, List.getElem?_eq_getElem (by omega), Option.getD_some]]
      have hg : (0 ≤ (layS m.keys.length cs fs k).getD (fs.getD k 0).toNat 0 ∧ (layS m.keys.length cs fs k).getD (fs.getD k 0).toNat 0 < 64) ∧ SubS ((layS m.keys.length cs fs k).getD (fs.getD k 0).toNat 0) s := by
        rw [List.getD_eq_getElem?_getD]
        cases hq : (layS m.keys.length cs fs k)[(fs.getD k 0).toNat]? with
        | none => exact ⟨by simp, (sub_nat (a := 0) (b := s.toNat) (by omega) (by omega)).2 (by simp) |> fun h => by rwa [show ((s.toNat : Nat) : Int) = s from by omega] at h⟩
        | some z => exact ih z (List.mem_of_getElem? hq)
      exact ⟨orS64 hg.1 hb, hg.2.orL hg.1 hb hs hck.2⟩
theorem bit_sub_fin : ∀ s : Fin 64, ∀ c : Fin 6, digB s.val c.val = true → has2B (s.val : Int) (bitI (c.val : Int)) = true := by decide +kernel
theorem colour_sub {s : Int} (hs : setB s = true) {c : Int} (hc : c ∈ colours s) : SubS (bitI c) s := by
  have h' := setB_iff.1 hs
  have hc6 := mem_colours hc
  rw [colours_eq hs] at hc
  unfold digsTo at hc
  obtain ⟨p, hp, rfl⟩ := List.mem_map.1 hc
  have hd := (List.mem_filter.1 hp).2
  have := bit_sub_fin ⟨s.toNat, by omega⟩ ⟨p, by omega⟩ hd
  rw [show (((⟨s.toNat, by omega⟩ : Fin 64).val : Nat) : Int) = s from by show ((s.toNat : Nat) : Int) = s; omega] at this
  exact this
theorem it_in {m : Mz} (V : Valid m) {s : Int} (hs : 0 ≤ s ∧ s < 64) (hk : ∀ x ∈ m.keys, SubS x s) (h0 : SubS 0 s) : ∀ k, SubS (it m 0 k) s
  | 0 => h0
  | k + 1 => by
    show SubS (nextC m (it m 0 k)) s
    unfold nextC
    refine gath_least V hs _ _ (it_set V (by omega) k) (it_in V hs hk h0 k) fun x _ => ?_
    rw [List.getD_eq_getElem?_getD]
    cases hq : m.keys[x.toNat]? with
    | none => exact h0
    | some z => exact hk z (List.mem_of_getElem? hq)
theorem lay_zero {n : Nat} (hn : 0 < n) {cs : List Int} : ∀ k, k ≤ cs.length → (layS n cs (List.replicate cs.length 0) k).getD 0 0 = setI (cs.take k)
  | 0, _ => by
    unfold layS
    rw [List.take_zero, List.getD_eq_getElem?_getD, List.getElem?_replicate, if_pos hn]
    rfl
  | k + 1, hk => by
    have ih := lay_zero hn (cs := cs) k (by omega)
    have hf : (List.replicate cs.length (0 : Int)).getD k 0 = 0 := by rw [List.getD_eq_getElem?_getD, List.getElem?_replicate, if_pos (by omega)]; rfl
    have hl := layS_len n cs (List.replicate cs.length 0) k
    unfold layS
    rw [hf, setI_snoc (by omega)]
    show ((layS n cs (List.replicate cs.length 0) k).set 0 _).getD 0 0 = _
    rw [List.getD_eq_getElem?_getD, List.getElem?_set_self (by omega), Option.getD_some]
    show bits .or .i64 ((layS n cs (List.replicate cs.length 0) k).getD 0 0) _ = _
    rw [ih, List.getD_eq_getElem?_getD, List.getElem?_eq_getElem (by omega), Option.getD_some]
theorem zero_wins {m : Mz} {s : Int} {fs : List Int} (h : filB m s fs = true) (hw : winF m s fs = true) (hset : setI (colours s) = s) : winF m s (List.replicate (manyC s) 0) = true := by
  obtain ⟨ha, _, hl⟩ := fil_yes h
  obtain ⟨V, h0⟩ := ask_yes ha
  have hs1 : setB s = true := setB_iff.2 h0
  have VA := layV_colours h
  have VB : Valid (layV m (colours s) (List.replicate (manyC s) 0)) := layV_valid V (by rw [List.length_replicate]; exact Nat.le_refl _) fun c hc => mem_colours hc
  have z0 : SubS 0 s := by
    have := (sub_nat (a := 0) (b := s.toNat) (by omega) (by omega)).2 (by simp)
    rwa [show ((s.toNat : Nat) : Int) = s from by omega] at this
  have hA : SubS (finC (layV m (colours s) fs) 0) s := it_in VA h0 (fun x hx => (lay_sub (m := m) h0 (fun c hc => ⟨mem_colours hc, colour_sub hs1 hc⟩) fs.length (by rw [hl]; exact Nat.le_refl _) x hx).2) z0 _
  have hk0 : (layV m (colours s) (List.replicate (manyC s) 0)).keys.getD 0 0 = s := by
    have h1 := V.keysLen
    have h2 := V.size1
    have := lay_zero (n := m.keys.length) (by omega) (cs := colours s) (colours s).length (Nat.le_refl _)
    rw [List.take_length, hset] at this
    show (layS m.keys.length (colours s) (List.replicate (manyC s) 0) (List.replicate (manyC s) (0 : Int)).length).getD 0 0 = s
    rw [List.length_replicate]
    exact this
  have hB : SubS s (finC (layV m (colours s) (List.replicate (manyC s) 0)) 0) := by
    have h1 := gath_key VB (reachOf (layV m (colours s) (List.replicate (manyC s) 0)) 0 0) 0 (by omega) 0 (reach_zero VB 0)
    have h2 : SubS s (it (layV m (colours s) (List.replicate (manyC s) 0)) 0 1) := by
      show SubS s (nextC _ 0)
      unfold nextC
      have e0 : ((0 : Int)).toNat = 0 := rfl
      rw [e0, hk0] at h1
      exact h1
    have h3 := it_more VB (s := 0) (by omega) 1 (lastK (layV m (colours s) (List.replicate (manyC s) 0)) 0)
    rw [Nat.add_comm, it_last VB (by omega) 1] at h3
    exact h2.trans h0 (it_set VB (by omega) 1) (it_set VB (by omega) _) h3
  unfold winF canB at hw ⊢
  have hm := memB_true hw
  have hm2 : m.size - 1 ∈ rchL m.doors (openTo (finC (layV m (colours s) fs) 0)) 0 := by unfold reachOf at hm; exact hm
  have hsub := hA.trans (it_set VA (by omega) _) h0 (it_set VB (by omega) _) hB
  have hm3 : m.size - 1 ∈ reachOf (layV m (colours s) (List.replicate (manyC s) 0)) 0 (finC (layV m (colours s) fs) 0) := by unfold reachOf; exact hm2
  have := reach_more VB (it_set VA (by omega) _) (it_set VB (by omega) _) hsub (y := m.size - 1) hm3
  unfold memB
  rw [List.contains_iff_mem]
  exact this
noncomputable def firstL (m : Mz) (s : Int) : List Int := (winL m s).headD []
theorem manyF_pos {m : Mz} {s : Int} (h : askB m s = true) : 0 < manyF m s := by
  have := (ask_yes h).1.size1
  unfold manyF
  exact Nat.pow_pos (by omega)
theorem first_zero {m : Mz} {s : Int} (h : askB m s = true) (hset : setI (colours s) = s) (hw : winL m s ≠ []) : firstL m s = List.replicate (manyC s) 0 := by
  obtain ⟨n, hn⟩ : ∃ n : Nat, m.size = (n : Int) := ⟨m.size.toNat, by have := (ask_yes h).1.size1; omega⟩
  obtain ⟨fs, hfs⟩ := List.exists_mem_of_ne_nil _ hw
  unfold winL winTo at hfs
  obtain ⟨h1, h2⟩ := List.mem_filter.1 hfs
  unfold allTo at h1
  obtain ⟨i, hi, rfl⟩ := List.mem_map.1 h1
  have hz := zero_wins (dig_fil h (n := m.size.toNat) (by omega) i) h2 hset
  obtain ⟨j, hj⟩ : ∃ j, manyF m s = j + 1 := ⟨manyF m s - 1, by have := manyF_pos h; omega⟩
  unfold firstL winL winTo
  rw [hj]
  unfold allTo
  rw [List.range_succ_eq_map, List.map_cons, digL_zero, List.filter_cons_of_pos hz]
  rfl
end M
end Go.Proofs.Ytddpjjdncmokmaa
