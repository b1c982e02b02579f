/-
  MATHEMATICS of worlds that give their keys to each other, as the program reckons it: sets joined, the keys for a world, the nodes that are taken. No condition but those of each text.
-/
import Derived.Test.YtbcobheiofajeaaWldM
set_option linter.unusedVariables false
namespace Go.Proofs.Ytbcobheiofajeaa
open Go.RowKit
namespace M
theorem reach_mk9 {m : Mz} (V : Valid m) {s : Int} {n : Nat} (h : MaskOk m.doors (openTo s) 0 n) (hp : passN (openTo s) n m.doors = n) : n = mk (reachOf m 0 s) := by
  have := reach_mask (x := 0) V (by have := V.size1; omega) h hp
  have hr : digsTo n 12 = reachOf m 0 s := this
  rw [← hr, mk_digs h.2.1]
theorem or_assoc9 {s t u : Int} (hs : 0 ≤ s ∧ s < 64) (ht : 0 ≤ t ∧ t < 64) (hu : 0 ≤ u ∧ u < 64) : bits .or .i64 (bits .or .i64 s t) u = bits .or .i64 s (bits .or .i64 t u) := by
  obtain ⟨a, rfl⟩ : ∃ a : Nat, s = a := ⟨s.toNat, by omega⟩
  obtain ⟨b, rfl⟩ : ∃ b : Nat, t = b := ⟨t.toNat, by omega⟩
  obtain ⟨c, rfl⟩ : ∃ c : Nat, u = c := ⟨u.toNat, by omega⟩
  have h1 := orS64 hs ht
  have h2 := orS64 ht hu
  rw [or_nat (by omega) (by omega)] at h1 ⊢
  rw [or_nat (by omega) (by omega)] at h2 ⊢
  rw [or_nat (by omega) (by omega), or_nat (by omega) (by omega), Nat.or_assoc]
theorem or_zero9 {t : Int} (ht : 0 ≤ t ∧ t < 64) : bits .or .i64 0 t = t ∧ bits .or .i64 t 0 = t := by
  obtain ⟨b, rfl⟩ : ∃ b : Nat, t = b := ⟨t.toNat, by omega⟩
  have h1 := or_nat (a := 0) (b := b) (by decide) (by omega)
  have h2 := or_nat (a := b) (b := 0) (by omega) (by decide)
  rw [Nat.zero_or] at h1
  rw [Nat.or_zero] at h2
  exact ⟨h1, h2⟩
/-- sets joined -/
def orF (h : Int) (l : List Int) : Int := l.foldl (fun a b => bits .or .i64 a b) h
theorem orF_append (h : Int) (a b : List Int) : orF h (a ++ b) = orF (orF h a) b := List.foldl_append ..
theorem orF_one (h x : Int) : orF h [x] = bits .or .i64 h x := rfl
theorem orF_nil (h : Int) : orF h [] = h := rfl
theorem orF_ok : ∀ (l : List Int) (h : Int), 0 ≤ h ∧ h < 64 → (∀ z ∈ l, 0 ≤ z ∧ z < 64) → 0 ≤ orF h l ∧ orF h l < 64
  | [], h, hh, _ => hh
  | x :: l, h, hh, hl => orF_ok l _ (orS64 hh (hl x (List.mem_cons_self ..))) fun z hz => hl z (List.mem_cons_of_mem _ hz)
theorem orF_or : ∀ (l : List Int) (h : Int), 0 ≤ h ∧ h < 64 → (∀ z ∈ l, 0 ≤ z ∧ z < 64) → orF h l = bits .or .i64 h (orF 0 l)
  | [], h, hh, _ => (or_zero9 hh).2.symm
  | x :: l, h, hh, hl => by
    have hx := hl x (List.mem_cons_self ..)
    have hl' : ∀ z ∈ l, 0 ≤ z ∧ z < 64 := fun z hz => hl z (List.mem_cons_of_mem _ hz)
    show orF (bits .or .i64 h x) l = bits .or .i64 h (orF (bits .or .i64 0 x) l)
    rw [(or_zero9 hx).1, orF_or l _ (orS64 hh hx) hl', orF_or l x hx hl', or_assoc9 hh hx (orF_ok l 0 ⟨by decide, by decide⟩ hl')]
/-- the keys of some nodes of a world that belong to world i -/
noncomputable def keysJ9 (w : Wl) (i : Int) (j N k : Nat) : List Int := ((digsTo N k).filter fun x => decide ((wo w j).getD x.toNat 0 = i)).map fun x => (wm w j).keys.getD x.toNat 0
noncomputable def keysL (w : Wl) (i : Int) (T : List Int) : Nat → List Int
  | 0 => []
  | j + 1 => keysL w i T j ++ keysJ9 w i j (T.getD j 0).toNat 12
theorem keysJ9_set {w : Wl} (W : WlOK w) (i : Int) {j : Nat} (hj : j < w.mazes.length) (N k : Nat) : ∀ z ∈ keysJ9 w i j N k, 0 ≤ z ∧ z < 64 := fun z hz => by
  unfold keysJ9 at hz
  obtain ⟨x, _, rfl⟩ := List.mem_map.1 hz
  exact key_set (valid_of (W.world j hj).1) _
theorem keysJ9_len (w : Wl) (i : Int) (j N k : Nat) : (keysJ9 w i j N k).length ≤ k := by
  unfold keysJ9
  rw [List.length_map]
  exact Nat.le_trans (List.length_filter_le ..) (digsTo_len N k)
theorem keysL_set {w : Wl} (W : WlOK w) (i : Int) (T : List Int) : ∀ j, j ≤ w.mazes.length → ∀ z ∈ keysL w i T j, 0 ≤ z ∧ z < 64
  | 0, _, z, hz => by cases hz
  | j + 1, hj, z, hz => by
    unfold keysL at hz
    rcases List.mem_append.1 hz with h | h
    · exact keysL_set W i T j (by omega) z h
    · exact keysJ9_set W i (by omega) _ _ z h
theorem keysL_len (w : Wl) (i : Int) (T : List Int) : ∀ j, (keysL w i T j).length ≤ j * 12
  | 0 => Nat.zero_le _
  | j + 1 => by
    have h1 := keysL_len w i T j
    have h2 := keysJ9_len w i j (T.getD j 0).toNat 12
    unfold keysL
    rw [List.length_append]
    omega
theorem give_get {n : Nat} (rel : Bool) {m : Mz} (V : Valid m) {ow : List Int} (hol : (ow.length : Int) = m.size) (how : ∀ o ∈ ow, 0 ≤ o ∧ o < (n : Int)) (h : Int) {nx : List Int} (o : SetsOK n nx) {N : Nat} (hN : ∀ y : Nat, (y : Int) < m.size → digB N y = givesB rel m h y) {i : Nat} (_hi : i < n) : ∀ x : Nat, (x : Int) ≤ m.size →
    (giveTo rel m ow h nx x).getD i 0 = orF (nx.getD i 0) (((digsTo N x).filter fun x => decide (ow.getD x.toNat 0 = (i : Int))).map fun x => m.keys.getD x.toNat 0)
  | 0, _ => rfl
  | x + 1, hx => by
    have ih := give_get rel V hol how h o hN _hi x (by omega)
    have hok := (give_ok rel V ow h o x).1
    have hNx := hN x (by omega)
    have hmem : ow.getD x 0 ∈ ow := by
      rw [List.getD_eq_getElem?_getD, List.getElem?_eq_getElem (by omega)]
      exact List.getElem_mem _
    have hb := how _ hmem
    unfold giveTo
    cases hg : givesB rel m h x with
    | false =>
      rw [if_neg (by decide), digsTo_no (by rw [hNx]; exact hg)]
      exact ih
    | true =>
      rw [if_pos rfl, digsTo_yes (by rw [hNx]; exact hg), List.filter_append, List.map_append, orF_append, ← ih, getD_set9]
      by_cases he : ow.getD x 0 = (i : Int)
      · rw [if_pos (by rw [hok.1]; omega), List.filter_cons_of_pos (by simp only [Int.toNat_natCast]; exact decide_eq_true he), List.filter_nil]
        simp only [List.map_cons, List.map_nil, orF_one, Int.toNat_natCast]
        rw [show (ow.getD x 0).toNat = i by omega]
      · rw [if_neg (by omega), List.filter_cons_of_neg (by simp only [Int.toNat_natCast]; rw [decide_eq_false he]; decide), List.filter_nil]
        rfl
/-- all nodes, as a number -/
def allW (m : Mz) : Nat := 2 ^ m.size.toNat - 1
theorem digB_allW {m : Mz} (V : Valid m) (p : Nat) : digB (allW m) p = decide ((p : Int) < m.size) := by
  unfold allW
  rw [digB_testBit, Nat.testBit_two_pow_sub_one]
  have := V.size1
  rw [Bool.eq_iff_iff, decide_eq_true_iff, decide_eq_true_iff]
  omega
theorem size_pow {m : Mz} (V : Valid m) : 2 ^ m.size.toNat ≤ 4096 := by
  have h1 := V.size1
  have h2 := V.size12
  have := Nat.pow_le_pow_right (n := 2) (by decide) (show m.size.toNat ≤ 12 by omega)
  exact this
theorem digs_size {m : Mz} (V : Valid m) {N : Nat} (h : ∀ p, digB N p = true → (p : Int) < m.size) (hN : N < 4096) : digsTo N 12 = digsTo N m.size.toNat := by
  have h2 := V.size12
  have h1 := V.size1
  refine digsTo_eq ?_ (by omega)
  rcases Nat.eq_zero_or_pos (N / 2 ^ m.size.toNat) with e | e
  · exact e
  · exfalso
    have hlt : ¬ N < 2 ^ m.size.toNat := fun hl => by rw [Nat.div_eq_of_lt hl] at e; omega
    obtain ⟨p, hp, ht⟩ := Nat.exists_ge_and_testBit_of_ge_two_pow (Nat.not_lt.1 hlt)
    have := h p (by rw [digB_testBit]; exact ht)
    omega
noncomputable def reachN (w : Wl) (hv : List Int) (j : Nat) : Nat := mk (reachOf (wm w j) 0 (hv.getD j 0))
theorem reach_rng {m : Mz} (V : Valid m) (s : Int) (p : Nat) : digB (mk (reachOf m 0 s)) p = true ↔ (p : Int) ∈ reachOf m 0 s := digB_mk (fun _ hx => (reach_node V hx).1) p
theorem reachN_dig {w : Wl} (W : WlOK w) (hv : List Int) {j : Nat} (hj : j < w.mazes.length) (p : Nat) : digB (reachN w hv j) p = memB (reachOf (wm w j) 0 (hv.getD j 0)) (p : Int) := by
  rw [Bool.eq_iff_iff]
  unfold reachN memB
  rw [reach_rng (valid_of (W.world j hj).1), List.contains_iff_mem]
noncomputable def takenN (w : Wl) (rel : Bool) (hv : List Int) (j : Nat) : Nat := if rel && memB (reachOf (wm w j) 0 (hv.getD j 0)) ((wm w j).size - 1) then allW (wm w j) else reachN w hv j
noncomputable def takenL (w : Wl) (rel : Bool) (hv : List Int) : List Int := (List.range w.mazes.length).map fun j : Nat => ((takenN w rel hv j : Nat) : Int)
noncomputable def reachL (w : Wl) (hv : List Int) : List Int := (List.range w.mazes.length).map fun j : Nat => ((reachN w hv j : Nat) : Int)
theorem mk_lt9 {m : Mz} (V : Valid m) (s : Int) : mk (reachOf m 0 s) < 4096 := by
  have hp := size_pow V
  refine Nat.lt_of_lt_of_le ?_ hp
  refine Nat.lt_of_not_le fun h => ?_
  obtain ⟨p, hp, ht⟩ := Nat.exists_ge_and_testBit_of_ge_two_pow h
  have h1 := (reach_rng V s p).1 (by rw [digB_testBit]; exact ht)
  have h2 := reach_node V h1
  have := V.size1
  omega
theorem taken_lt {w : Wl} (W : WlOK w) (rel : Bool) (hv : List Int) {j : Nat} (hj : j < w.mazes.length) : takenN w rel hv j < 4096 := by
  unfold takenN
  have V := valid_of (W.world j hj).1
  split
  · have := size_pow V
    unfold allW
    have h2 : 0 < 2 ^ (wm w j).size.toNat := Nat.pow_pos (by decide)
    omega
  · exact mk_lt9 V _
theorem taken_dig {w : Wl} (W : WlOK w) (rel : Bool) (hv : List Int) {j : Nat} (hj : j < w.mazes.length) (y : Nat) : digB (takenN w rel hv j) y = (decide ((y : Int) < (wm w j).size) && givesB rel (wm w j) (hv.getD j 0) y) := by
  have V := valid_of (W.world j hj).1
  unfold takenN givesB
  cases hr : rel && memB (reachOf (wm w j) 0 (hv.getD j 0)) ((wm w j).size - 1) with
  | true => rw [if_pos rfl, Bool.or_true, Bool.and_true]; exact digB_allW V y
  | false =>
    rw [if_neg (by decide), Bool.or_false, reachN_dig W hv hj]
    cases hm : memB (reachOf (wm w j) 0 (hv.getD j 0)) (y : Int) with
    | false => rw [Bool.and_false]
    | true =>
      have := reach_node V (memB_true hm)
      rw [Bool.and_true]
      exact (decide_eq_true (by omega)).symm
theorem next_get {w : Wl} (W : WlOK w) (rel : Bool) {hv : List Int} (o : SetsOK w.mazes.length hv) {i : Nat} (hi : i < w.mazes.length) : ∀ j, j ≤ w.mazes.length → (nextTo w rel hv j).getD i 0 = orF (hv.getD i 0) (keysL w (i : Int) (takenL w rel hv) j)
  | 0, _ => rfl
  | j + 1, hj => by
    have ih := next_get W rel o hi j (by omega)
    obtain ⟨hm, hol, how⟩ := W.world j (by omega)
    have V := valid_of hm
    have hok := (next_ok W rel o j (by omega)).1
    have hT : ((takenL w rel hv).getD j 0).toNat = takenN w rel hv j := by
      unfold takenL
      rw [List.getD_eq_getElem?_getD, List.getElem?_map, List.getElem?_range (by omega)]
      simp
    show (giveTo rel (wm w j) (wo w j) (hv.getD j 0) (nextTo w rel hv j) (wm w j).size.toNat).getD i 0 = _
    rw [give_get rel V hol how _ hok (N := takenN w rel hv j) (fun y hy => by rw [taken_dig W rel hv (by omega), decide_eq_true hy, Bool.true_and]) hi _ (by have := V.size1; omega), ih]
    show _ = orF _ (keysL w (i : Int) (takenL w rel hv) j ++ keysJ9 w (i : Int) j ((takenL w rel hv).getD j 0).toNat 12)
    rw [orF_append, hT]
    unfold keysJ9
    rw [digs_size V (fun p hp => by
      rw [taken_dig W rel hv (by omega), Bool.and_eq_true, decide_eq_true_iff] at hp
      exact hp.1) (taken_lt W rel hv (by omega))]
/-- what the program has at the end of a round -/
noncomputable def behindL (w : Wl) (rel : Bool) (hv : List Int) : List Int := (List.range w.mazes.length).map fun i : Nat => bits .or .i64 (hv.getD i 0) (orF 0 (keysL w (i : Int) (takenL w rel hv) w.mazes.length))
theorem behind_next {w : Wl} (W : WlOK w) (rel : Bool) {hv : List Int} (o : SetsOK w.mazes.length hv) : behindL w rel hv = nextW w rel hv := by
  have hok := (next_ok W rel o w.mazes.length (Nat.le_refl _)).1
  have hl : (nextW w rel hv).length = w.mazes.length := hok.1
  unfold behindL
  refine List.ext_getElem (by rw [List.length_map, List.length_range, hl]) fun i h1 h2 => ?_
  have hi : i < w.mazes.length := by rw [← hl]; exact h2
  have hg : (nextW w rel hv).getD i 0 = orF (hv.getD i 0) (keysL w (i : Int) (takenL w rel hv) w.mazes.length) := next_get W rel o hi w.mazes.length (Nat.le_refl _)
  rw [List.getD_eq_getElem?_getD, List.getElem?_eq_getElem h2, Option.getD_some] at hg
  rw [List.getElem_map, List.getElem_range, hg, orF_or _ _ (o.2 i) (keysL_set W _ _ _ (Nat.le_refl _))]
end M
end Go.Proofs.Ytbcobheiofajeaa
