/-
  MATHEMATICS of the first plan, own to these proofs: acts can be undone, so what remains is found from the last room; the first act that leads one act nearer, again and again. No condition.
-/
import Derived.Test.YtdgfceiobpnchaaFewI
namespace Go.Proofs.Ytdgfceiobpnchaa
open Go.RowKit
namespace M
section
variable {α : Type} {N : α → List α} {W : α → Prop} {R : α → Option Nat} {S : α → Prop}
/-- in how many steps one wins -/
def Wins (N : α → List α) (W : α → Prop) (n : Nat) (s : α) : Prop := ∃ t, W t ∧ Wlk N [s] n t
theorem wins_zero {s : α} : Wins N W 0 s ↔ W s := by
  constructor
  · rintro ⟨t, ht, hw⟩
    rw [wlk_zero, List.mem_singleton] at hw
    subst hw
    exact ht
  · exact fun h => ⟨s, h, .zero (by simp)⟩
theorem wins_succ {n : Nat} {s : α} : Wins N W (n + 1) s ↔ ∃ u, u ∈ N s ∧ Wins N W n u := by
  constructor
  · rintro ⟨t, ht, hw⟩
    obtain ⟨u, hu, hw⟩ := wlk_first.1 hw
    exact ⟨u, hu, t, ht, hw⟩
  · rintro ⟨u, hu, t, ht, hw⟩
    exact ⟨t, ht, wlk_first.2 ⟨u, hu, hw⟩⟩
theorem rem_some {s : α} (hR : ∀ s, IsLst (fun n => Wins N W n s) (R s)) {k : Nat} : R s = some k ↔ Wins N W k s ∧ ∀ j, Wins N W j s → k ≤ j := by
  constructor
  · intro h
    have := hR s
    rw [h] at this
    exact this
  · rintro ⟨h1, h2⟩
    exact (hR s).unique (r' := some k) ⟨h1, h2⟩
theorem rem_le {s : α} (hR : ∀ s, IsLst (fun n => Wins N W n s) (R s)) {n : Nat} (h : Wins N W n s) : ∃ k, R s = some k ∧ k ≤ n := by
  have := hR s
  cases e : R s with
  | none => rw [e] at this; exact absurd h (this n)
  | some k => rw [e] at this; exact ⟨k, rfl, this.2 n h⟩
theorem rem_zero {s : α} (hR : ∀ s, IsLst (fun n => Wins N W n s) (R s)) : R s = some 0 ↔ W s := by
  rw [rem_some hR, wins_zero]
  exact ⟨fun h => h.1, fun h => ⟨h, fun _ _ => Nat.zero_le _⟩⟩
/-- some next state is one step nearer -/
theorem rem_down {s : α} (hR : ∀ s, IsLst (fun n => Wins N W n s) (R s)) {n : Nat} (h : R s = some (n + 1)) : ∃ u, u ∈ N s ∧ R u = some n := by
  obtain ⟨h1, h2⟩ := (rem_some hR).1 h
  obtain ⟨u, hu, hw⟩ := wins_succ.1 h1
  obtain ⟨k, hk, hkn⟩ := rem_le hR hw
  have := h2 (k + 1) (wins_succ.2 ⟨u, hu, ((rem_some hR).1 hk).1⟩)
  have e : k = n := by omega
  subst e
  exact ⟨u, hu, hk⟩
theorem rem_step {s u : α} (hR : ∀ s, IsLst (fun n => Wins N W n s) (R s)) {n : Nat} (hu : u ∈ N s) (h : R u = some n) : ∃ k, R s = some k ∧ k ≤ n + 1 :=
  rem_le hR (wins_succ.2 ⟨u, hu, ((rem_some hR).1 h).1⟩)
end
noncomputable def winO (m : Wk) (s : Vs) : Option Nat := minO (fun t => wonV m t = true) (dst (nextW m) [s])
theorem win_is (m : Wk) (s : Vs) : IsLst (fun n => Wins (nextW m) (fun t => wonV m t = true) n s) (winO m s) := by
  unfold winO
  rw [minO_dst]
  exact lst_is _
def wonsTo (m : Wk) (k : Nat) : List Vs := (List.range k).map fun j : Nat => ((m.size - 1, (j : Int)) : Vs)
theorem wonsTo_succ (m : Wk) (k : Nat) : wonsTo m (k + 1) = wonsTo m k ++ [(m.size - 1, (k : Int))] := by unfold wonsTo; rw [List.range_succ, List.map_append]; rfl
theorem wonsTo_len (m : Wk) (k : Nat) : (wonsTo m k).length = k := by unfold wonsTo; simp
theorem mem_wons {m : Wk} (V : WV m) {s : Vs} : s ∈ wonsTo m 64 ↔ VsOk m s ∧ wonV m s = true := by
  have v1 := V.size1
  unfold wonsTo wonV VsOk
  rw [List.mem_map]
  constructor
  · rintro ⟨j, hj, rfl⟩
    rw [List.mem_range] at hj
    exact ⟨⟨by show 0 ≤ m.size - 1; omega, by show m.size - 1 < m.size; omega, by show 0 ≤ (j : Int); omega, by show (j : Int) < 64; omega⟩, beq_iff_eq.2 rfl⟩
  · rintro ⟨⟨h1, h2, h3, h4⟩, h5⟩
    obtain ⟨x, l⟩ := s
    simp only at h1 h2 h3 h4
    have h5 : x = m.size - 1 := beq_iff_eq.1 h5
    refine ⟨l.toNat, List.mem_range.2 (by omega), ?_⟩
    rw [Int.toNat_of_nonneg h3, h5]
theorem wons_nodup (m : Wk) : (wonsTo m 64).Nodup := by
  unfold wonsTo
  rw [List.nodup_iff_pairwise_ne, List.pairwise_map]
  refine List.Pairwise.imp (fun {a b} hab e => hab ?_) (List.nodup_range (n := 64))
  have : ((a : Nat) : Int) = ((b : Nat) : Int) := congrArg (fun p : Vs => p.2) e
  omega
theorem wlk_backW {m : Wk} (V : WV m) : ∀ {n : Nat} {s : Vs}, Wlk (nextW m) (wonsTo m 64) n s ↔ VsOk m s ∧ Wins (nextW m) (fun t => wonV m t = true) n s
  | 0, s => by rw [wlk_zero, mem_wons V, wins_zero]
  | n + 1, s => by
    rw [wlk_succ, wins_succ]
    constructor
    · rintro ⟨u, hu, hs⟩
      obtain ⟨hm, hn⟩ := (wlk_backW V).1 hu
      exact ⟨nextW_ok V hm hs, u, nextW_back V hm hs, hn⟩
    · rintro ⟨hm, u, hn, hu⟩
      exact ⟨u, (wlk_backW V).2 ⟨nextW_ok V hm hn, hu⟩, nextW_back V hm hn⟩
noncomputable def remV (m : Wk) : Vs → Option Nat := dst (nextW m) (wonsTo m 64)
theorem remV_ok {m : Wk} (V : WV m) {s : Vs} (h : VsOk m s) : remV m s = winO m s := by
  refine (dst_is (nextW m) (wonsTo m 64) s).unique ((win_is m s).congr fun n => ?_)
  rw [wlk_backW V]
  exact ⟨fun hw => ⟨h, hw⟩, fun hw => hw.2⟩
theorem steps_rem {m : Wk} (V : WV m) : C.StepsOk (nextW m) (VsOk m) (wonsTo m 64) :=
  steps_of V (wons_nodup m) (fun t ht => ((mem_wons V).1 ht).1) (fun t ht u hu => nextW_ok V ht hu) (fun t _ => by have := nextW_len m t; omega)
/-- whether an act leads to where it takes n acts more -/
noncomputable def nearB (m : Wk) (s : Vs) (n : Nat) (a : Int) : Bool := decide (winO m (doA m s a) = some n)
noncomputable def nxI (m : Wk) (s : Vs) (n : Nat) : Nat := (actsL m s).findIdx (nearB m s n)
noncomputable def nxA (m : Wk) (s : Vs) (n : Nat) : Int := (actsL m s).getD (nxI m s n) 0
noncomputable def planL (m : Wk) : Nat → Vs → List Int
  | 0, _ => []
  | n + 1, s => nxA m s n :: planL m n (doA m s (nxA m s n))
theorem planL_len (m : Wk) : ∀ (n : Nat) (s : Vs), (planL m n s).length = n
  | 0, _ => rfl
  | n + 1, s => by
    show (nxA m s n :: planL m n _).length = _
    rw [List.length_cons, planL_len m n]
theorem nxI_lt {m : Wk} {s : Vs} {n : Nat} (h : winO m s = some (n + 1)) : nxI m s n < (actsL m s).length := by
  obtain ⟨u, hu, hw⟩ := rem_down (win_is m) h
  obtain ⟨a, ha, rfl⟩ := List.mem_map.1 hu
  exact List.findIdx_lt_length_of_exists ⟨a, ha, decide_eq_true hw⟩
theorem nxA_eq {m : Wk} {s : Vs} {n : Nat} (h : nxI m s n < (actsL m s).length) : nxA m s n = (actsL m s)[nxI m s n] := by
  unfold nxA
  rw [List.getD_eq_getElem?_getD, List.getElem?_eq_getElem h, Option.getD_some]
theorem nx_win {m : Wk} {s : Vs} {n : Nat} (h : nxI m s n < (actsL m s).length) : winO m (doA m s (nxA m s n)) = some n := by
  have := List.findIdx_getElem (p := nearB m s n) (w := h)
  rw [nxA_eq h]
  exact of_decide_eq_true this
theorem nx_before {m : Wk} {s : Vs} {n j : Nat} (h : j < nxI m s n) (hj : j < (actsL m s).length) : winO m (doA m s (actsL m s)[j]) ≠ some n := fun e => by
  have := List.not_of_lt_findIdx (p := nearB m s n) h
  rw [show nearB m s n (actsL m s)[j] = true from decide_eq_true e] at this
  cases this
/-- where it takes n + 1 acts, each act leads to where it can be done, and takes n at least -/
theorem next_can {m : Wk} (V : WV m) {s : Vs} (hs : VsOk m s) {n : Nat} (h : winO m s = some (n + 1)) {a : Int} (ha : a ∈ actsL m s) : ∃ k, winO m (doA m s a) = some k ∧ n ≤ k := by
  have hu : doA m s a ∈ nextW m s := List.mem_map.2 ⟨a, ha, rfl⟩
  obtain ⟨k, hk, _⟩ := rem_step (win_is m) (nextW_back V hs hu) h
  obtain ⟨i, hi, hik⟩ := rem_step (win_is m) hu hk
  rw [h] at hi
  injection hi with hi
  exact ⟨k, hk, by omega⟩
/-- the program's question is the same -/
theorem near_same {m : Wk} (V : WV m) {s : Vs} (hs : VsOk m s) {n : Nat} (h : winO m s = some (n + 1)) {a : Int} (ha : a ∈ actsL m s) : decide (((winO m (doA m s a)).getD 0 : Nat) < (winO m s).getD 0) = nearB m s n a := by
  obtain ⟨k, hk, hn⟩ := next_can V hs h ha
  unfold nearB
  rw [h, hk]
  simp only [Option.getD_some]
  rw [decide_eq_decide]
  constructor
  · intro hlt
    have : k = n := by omega
    rw [this]
  · intro e
    injection e with e
    omega
theorem won_zero {m : Wk} {s : Vs} : wonV m s = true ↔ winO m s = some 0 := (rem_zero (win_is m)).symm
noncomputable def planB (m : Wk) : Bool := (fewV m).isSome && decide ((fewV m).getD 0 ≤ 60)
noncomputable def planV (m : Wk) : List Int := if planB m then planL m ((fewV m).getD 0) (0, 0) else []
theorem plan_off {m : Wk} (h : planB m = false) : planV m = [] := by unfold planV; rw [h]; rfl
theorem plan_on {m : Wk} {n : Nat} (h : fewV m = some n) (hn : n ≤ 60) : planB m = true ∧ planV m = planL m n (0, 0) := by
  have hb : planB m = true := by unfold planB; rw [h]; exact decide_eq_true hn
  refine ⟨hb, ?_⟩
  unfold planV
  rw [hb, h]
  rfl
theorem planV_bd (m : Wk) : (planV m).length ≤ 1048576 := by
  unfold planV
  split
  · rename_i h
    rw [planL_len]
    unfold planB at h
    rw [Bool.and_eq_true] at h
    have := of_decide_eq_true h.2
    omega
  · simp
theorem few_works {m : Wk} {n : Nat} (h : fewV m = some n) : worksB m = true ∧ winO m (0, 0) = some n := by
  cases e : worksB m with
  | false => rw [fewV_off e] at h; cases h
  | true => rw [fewV_on e] at h; exact ⟨rfl, h⟩
end M
end Go.Proofs.Ytdgfceiobpnchaa
