/-
  MATHEMATICS of fillings: which lists are fillings for a set, the keys that a filling lays, the swap of two colours. No condition but those of each text.
-/
import Derived.Test.YtddpjjdncmokmaaWHClose
import Derived.Test.YtddpjjdncmokmaaWBDigitsI
import Derived.Test.YtddpjjdncmokmaaWGAsk
namespace Go.Proofs.Ytddpjjdncmokmaa
open Go.RowKit
namespace M
def manyC (s : Int) : Nat := (colours s).length
def nodesB (n : Int) (fs : List Int) : Bool := fs.all fun x => inB x 0 (n - 1)
def fillB (m : Mz) (s : Int) (fs : List Int) : Bool := nodesB m.size fs && decide (fs.length = manyC s)
def filB (m : Mz) (s : Int) (fs : List Int) : Bool := askB m s && fillB m s fs
theorem fil_yes {m : Mz} {s : Int} {fs : List Int} (h : filB m s fs = true) : askB m s = true ∧ (∀ x ∈ fs, 0 ≤ x ∧ x < m.size) ∧ fs.length = manyC s := by
  unfold filB fillB at h
  rw [Bool.and_eq_true, Bool.and_eq_true, decide_eq_true_iff] at h
  refine ⟨h.1, fun x hx => ?_, h.2.2⟩
  have := List.all_eq_true.1 h.2.1 x hx
  unfold inB at this
  rw [decide_eq_true_iff] at this
  omega
theorem node_in (n x : Int) : inB x 0 (n - 1) = nodeB n x := by
  unfold inB nodeB; rw [Bool.eq_iff_iff, decide_eq_true_iff, decide_eq_true_iff]; omega
theorem colours_eq {s : Int} (h : setB s = true) : colours s = digsTo s.toNat 6 := by unfold colours; rw [h]; rfl
theorem digs6_12 : ∀ s : Fin 64, digsTo s.val 12 = digsTo s.val 6 := by decide +kernel
theorem setB_iff {s : Int} : setB s = true ↔ 0 ≤ s ∧ s < 64 := by unfold setB; rw [decide_eq_true_iff]
theorem colours12 {s : Int} (h : setB s = true) : digsTo s.toNat 12 = colours s := by
  have h' := setB_iff.1 h
  rw [colours_eq h]
  exact digs6_12 ⟨s.toNat, by omega⟩
theorem many_fin : ∀ s : Fin 64, (digsTo s.val 6).length = cnt s := by decide +kernel
theorem many_cnt (s : Fin 64) : manyC (s.val : Int) = cnt s := by
  unfold manyC
  rw [colours_eq (setB_iff.2 (by omega)), Int.toNat_natCast, many_fin s]
theorem many_le (s : Int) : manyC s ≤ 6 := by
  unfold manyC colours
  split
  · unfold digsTo
    rw [List.length_map]
    exact Nat.le_trans (List.length_filter_le ..) (by simp)
  · simp
theorem mem_colours {s x : Int} (h : x ∈ colours s) : 0 ≤ x ∧ x < 6 := by
  unfold colours at h
  split at h
  · unfold digsTo at h
    obtain ⟨p, hp, rfl⟩ := List.mem_map.1 h
    have := List.mem_range.1 (List.mem_filter.1 hp).1
    omega
  · cases h
theorem colours_nodup (s : Int) : (colours s).Nodup := by
  unfold colours
  split
  · unfold digsTo
    rw [List.nodup_iff_pairwise_ne, List.pairwise_map]
    refine List.Pairwise.imp ?_ (List.Pairwise.filter _ List.nodup_range)
    intro a b h
    omega
  · exact List.nodup_nil
/-- the keys that the first k ones of a filling lay -/
def layS (n : Nat) (cs fs : List Int) : Nat → List Int
  | 0 => List.replicate n 0
  | k + 1 => (layS n cs fs k).set (fs.getD k 0).toNat (bits .or .i64 ((layS n cs fs k).getD (fs.getD k 0).toNat 0) (bitI (cs.getD k 0)))
def layV (m : Mz) (cs fs : List Int) : Mz := ⟨m.size, m.doors, layS m.keys.length cs fs fs.length⟩
theorem layS_len (n : Nat) (cs fs : List Int) : ∀ k, (layS n cs fs k).length = n
  | 0 => by unfold layS; rw [List.length_replicate]
  | k + 1 => by unfold layS; rw [List.length_set, layS_len n cs fs k]
theorem bit_fin : ∀ c : Fin 6, 0 ≤ bitI (c.val : Int) ∧ bitI (c.val : Int) < 64 := by decide +kernel
theorem bit_set {c : Int} (h0 : 0 ≤ c) (h6 : c < 6) : 0 ≤ bitI c ∧ bitI c < 64 := by
  have := bit_fin ⟨c.toNat, by omega⟩
  rwa [show ((c.toNat : Nat) : Int) = c from by omega] at this
theorem orS64 {s t : Int} (hs : 0 ≤ s ∧ s < 64) (ht : 0 ≤ t ∧ t < 64) : 0 ≤ bits .or .i64 s t ∧ bits .or .i64 s t < 64 := by
  obtain ⟨a, rfl⟩ : ∃ a : Nat, s = (a : Int) := ⟨s.toNat, by omega⟩
  obtain ⟨b, rfl⟩ : ∃ b : Nat, t = (b : Int) := ⟨t.toNat, by omega⟩
  rw [or_nat (by omega) (by omega)]
  have : a ||| b < 2 ^ 6 := Nat.or_lt_two_pow (by omega) (by omega)
  omega
theorem layS_set (n : Nat) (cs fs : List Int) : ∀ k, (∀ i, i < k → 0 ≤ cs.getD i 0 ∧ cs.getD i 0 < 6) → ∀ x ∈ layS n cs fs k, 0 ≤ x ∧ x < 64
  | 0, _, x, h => by unfold layS at h; rw [List.mem_replicate] at h; omega
  | k + 1, hc, x, h => by
    have ih := layS_set n cs fs k (fun i hi => hc i (by omega))
    unfold layS at h
    rcases List.mem_or_eq_of_mem_set h with h | rfl
    · exact ih x h
    · refine orS64 ?_ (bit_set (hc k (by omega)).1 (hc k (by omega)).2)
      rw [List.getD_eq_getElem?_getD]
      cases hg : (layS n cs fs k)[(fs.getD k 0).toNat]? with
      | none => simp
      | some z => exact ih z (List.mem_of_getElem? hg)
theorem layV_valid {m : Mz} (V : Valid m) {cs fs : List Int} (hl : fs.length ≤ cs.length) (hc : ∀ c ∈ cs, 0 ≤ c ∧ c < 6) : Valid (layV m cs fs) := V.part (List.Sublist.refl _) (layS_len ..) fun s h => layS_set _ _ _ _ (fun i hi => by
  rw [List.getD_eq_getElem?_getD, List.getElem?_eq_getElem (by omega)]
  exact hc _ (List.getElem_mem _)) s h
theorem layV_colours {m : Mz} {s : Int} {fs : List Int} (h : filB m s fs = true) : Valid (layV m (colours s) fs) :=
  layV_valid (ask_yes (fil_yes h).1).1 (Nat.le_of_eq (fil_yes h).2.2) fun _ hc => mem_colours hc
theorem layV_ask {m : Mz} {s : Int} {fs : List Int} (h : filB m s fs = true) : askB (layV m (colours s) fs) 0 = true := by
  unfold askB
  rw [of_valid (layV_colours h)]
  rfl
theorem ask0 : askB C.mz0 0 = false := by decide +kernel
/-- what is laid, or nothing -/
def laidV (m : Mz) (s : Int) (fs : List Int) : Mz := if filB m s fs then layV m (colours s) fs else C.mz0
theorem laidV_yes {m : Mz} {s : Int} {fs : List Int} (h : filB m s fs = true) : laidV m s fs = layV m (colours s) fs := by unfold laidV; rw [if_pos h]
theorem laidV_no {m : Mz} {s : Int} {fs : List Int} (h : filB m s fs = false) : laidV m s fs = C.mz0 := by unfold laidV; rw [h]; rfl
theorem laidV_ask (m : Mz) (s : Int) (fs : List Int) : askB (laidV m s fs) 0 = filB m s fs := by
  cases h : filB m s fs with
  | false => rw [laidV_no h, ask0]
  | true => rw [laidV_yes h, layV_ask h]
theorem laidV_len {m : Mz} (h1 : m.doors.length ≤ 1048576) (h2 : m.keys.length ≤ 1048576) (s : Int) (fs : List Int) : (laidV m s fs).doors.length ≤ 1048576 ∧ (laidV m s fs).keys.length ≤ 1048576 := by
  unfold laidV
  split
  · exact ⟨h1, by show (layS ..).length ≤ _; rw [layS_len]; exact h2⟩
  · exact ⟨by decide, by decide⟩
theorem laidV_bd {m : Mz} (s : Int) (fs : List Int) : (laidV m s fs).doors.length ≤ 1048576 ∧ (laidV m s fs).keys.length ≤ 1048576 := by
  unfold laidV
  split
  · rename_i h
    have V := (ask_yes (fil_yes h).1).1
    have h1 := V.few
    have h2 := V.keysLen
    have h3 := V.size12
    exact ⟨by show m.doors.length ≤ _; omega, by show (layS ..).length ≤ _; rw [layS_len]; omega⟩
  · exact ⟨by decide, by decide⟩
theorem less63_fin : ∀ s : Fin 64, lessS (s.val : Int) 63 = 0 := by decide +kernel
theorem noSet63 {m : Mz} (V : Valid m) : noSet m 63 = ⟨m.size, m.doors, layS m.keys.length [] [] 0⟩ := by
  unfold noSet layS
  congr 1
  refine List.eq_replicate_iff.2 ⟨by rw [List.length_map], fun b hb => ?_⟩
  obtain ⟨u, hu, rfl⟩ := List.mem_map.1 hb
  have := V.keyB hu
  have h := less63_fin ⟨u.toNat, by omega⟩
  rwa [show ((u.toNat : Nat) : Int) = u from by omega] at h
noncomputable def depR (m : Mz) (s : Int) (fs : List Int) : Int := winR (layV m (colours s) fs) 0
noncomputable def dep0 (m : Mz) (s : Int) (fs : List Int) : Int := ifAsk (laidV m s fs) 0 (winR (laidV m s fs) 0) 0
theorem depR_nonneg (m : Mz) (s : Int) (fs : List Int) : 0 ≤ depR m s fs := by unfold depR winR; omega
theorem dep0_yes {m : Mz} {s : Int} {fs : List Int} (h : filB m s fs = true) : dep0 m s fs = depR m s fs := by
  unfold dep0 depR
  rw [ifAsk_yes (by rw [laidV_ask]; exact h), laidV_yes h]
theorem dep0_no {m : Mz} {s : Int} {fs : List Int} (h : filB m s fs = false) : dep0 m s fs = 0 := by
  unfold dep0
  rw [ifAsk_no (by rw [laidV_ask]; exact h)]
/-- place of a number in a list -/
def placeL (l : List Int) (x : Int) : Nat := l.idxOf x
def swapV (s : Int) (fs : List Int) (a b : Int) : List Int := (fs.set (placeL (colours s) a) (fs.getD (placeL (colours s) b) 0)).set (placeL (colours s) b) (fs.getD (placeL (colours s) a) 0)
def swapB (m : Mz) (s : Int) (fs : List Int) (a b : Int) : Bool := filB m s fs && memB (colours s) a && memB (colours s) b && !(a == b)
theorem swapV_len (s : Int) (fs : List Int) (a b : Int) : (swapV s fs a b).length = fs.length := by unfold swapV; rw [List.length_set, List.length_set]
end M
end Go.Proofs.Ytddpjjdncmokmaa
