/-
  MATHEMATICS of the sets that win, own to these proofs: a maze of which only the keys of a set are left, that more colours win as well. No condition.
  MATHEMATICS of fillings: which lists are fillings for a set, the keys that a filling lays, the swap of two colours. No condition but those of each text.
  MATHEMATICS of the numbers of nodes below 4096, own to these proofs. No condition.
  MATHEMATICS of orders, own to these proofs: which nodes can be entered behind some nodes, told by a number's digits; the program's reckoning and the model's list tell the same; entry orders; the largest entry set. No condition.
  CONTRACTS of impl.Maze.stepFrom, keysAt, nextTo: the nodes one step further, the colours at some nodes, the nodes that can be entered next; what lay in memory stays. Condition: a valid maze, a number below 4096.
  CONTRACT of impl.Maze.spread: a number whose digits tell nodes, closed under the doors that are open; what lay in memory stays. Condition: a valid maze, a set of colours, a number below 4096.
  CONTRACT of impl.Maze.withoutColours: the maze without the keys of the colours of a set, in memory of its own; what lay in memory stays. No condition but that the maze reads so.
-/
import Derived.Test.YtbcobheiofajeaaWFReachS
import Derived.Test.YtbcobheiofajeaaWCOwnMaz2
import Derived.Test.YtbcobheiofajeaaWBReachMath
import Derived.Test.YtbcobheiofajeaaWEDoorsAt
import Derived.Test.YtbcobheiofajeaaSpecMaze
import Derived.Deep.RegionWith
import Derived.Deep.DeepCutAuto
import Derived.Deep.RegionHeld3
namespace Go.Proofs.Ytbcobheiofajeaa
open Go.RowKit
namespace M
/-- the maze with the keys of a set alone -/
def onlyS (m : Mz) (s : Int) : Mz := ⟨m.size, m.doors, m.keys.map fun k => bits .and .i64 k s⟩
def notS (s : Int) : Int := lessS 63 s
theorem notS_fin : ∀ s : Fin 64, notS (s.val : Int) = ((63 - s.val : Nat) : Int) := by decide +kernel
theorem notS_eq {s : Int} (hs : 0 ≤ s ∧ s < 64) : notS s = 63 - s := by
  have := notS_fin ⟨s.toNat, by omega⟩
  simp only [Int.toNat_of_nonneg hs.1] at this
  omega
theorem only_fin : ∀ k s : Fin 64, lessS (k.val : Int) (notS (s.val : Int)) = bits .and .i64 (k.val : Int) (s.val : Int) := by decide +kernel
theorem only_less {k s : Int} (hk : 0 ≤ k ∧ k < 64) (hs : 0 ≤ s ∧ s < 64) : lessS k (notS s) = bits .and .i64 k s := by
  have := only_fin ⟨k.toNat, by omega⟩ ⟨s.toNat, by omega⟩
  simp only [Int.toNat_of_nonneg hk.1, Int.toNat_of_nonneg hs.1] at this
  exact this
theorem noSet_only {m : Mz} (V : Valid m) {s : Int} (hs : 0 ≤ s ∧ s < 64) : noSet m (notS s) = onlyS m s := by
  unfold noSet onlyS
  congr 1
  exact List.map_congr_left fun k hk => only_less (V.keyB hk) hs
theorem only_valid {m : Mz} (V : Valid m) {s : Int} (hs : 0 ≤ s ∧ s < 64) : Valid (onlyS m s) := by
  rw [← noSet_only V hs]
  have := notS_eq hs
  exact noSet_valid V (by omega) (by omega)
theorem andSub_fin : ∀ k s t : Fin 64, subF s t = true → has2B (bits .and .i64 (k.val : Int) (t.val : Int)) (bits .and .i64 (k.val : Int) (s.val : Int)) = true := by
  intro k s t h
  unfold subF at h
  rw [beq_iff_eq] at h
  rw [and_nat k.isLt s.isLt, and_nat k.isLt t.isLt]
  have h1 : k.val &&& s.val < 64 := Nat.lt_of_le_of_lt Nat.and_le_left k.isLt
  have h2 : k.val &&& t.val < 64 := Nat.lt_of_le_of_lt Nat.and_le_left k.isLt
  have := (sub_nat h1 h2).2 (by
    refine Nat.eq_of_testBit_eq fun p => ?_
    have hp := congrArg (fun x => Nat.testBit x p) h
    simp only [Nat.testBit_and] at hp ⊢
    cases hk : k.val.testBit p <;> cases h3 : s.val.testBit p <;> cases h4 : t.val.testBit p <;> simp_all)
  exact this
theorem only_key (m : Mz) (s : Int) (h0 : bits .and .i64 0 s = 0) (k : Nat) : (onlyS m s).keys.getD k 0 = bits .and .i64 (m.keys.getD k 0) s := by
  unfold onlyS
  simp only [List.getD_eq_getElem?_getD, List.getElem?_map]
  cases m.keys[k]? with
  | none => simp [h0]
  | some v => rfl
theorem and0_fin : ∀ t : Fin 64, bits .and .i64 0 (t.val : Int) = 0 := by decide +kernel
theorem only_more {m : Mz} (V : Valid m) {s t : St6} (h : subF s t = true) : LessM (onlyS m (s.val : Int)) (onlyS m (t.val : Int)) :=
  ⟨rfl, fun _ hd => hd, fun k => by
    rw [only_key _ _ (and0_fin s), only_key _ _ (and0_fin t)]
    have hk := key_set V k
    have := andSub_fin ⟨(m.keys.getD k 0).toNat, by omega⟩ s t h
    simp only [Int.toNat_of_nonneg hk.1] at this
    exact this⟩
/-- whether a set wins -/
noncomputable def wB (m : Mz) (s : Int) : Bool := canB (onlyS m s) 0
noncomputable def wF (m : Mz) (s : St6) : Bool := wB m (s.val : Int)
theorem set6 (s : St6) : (0 : Int) ≤ (s.val : Int) ∧ (s.val : Int) < 64 := by omega
theorem wF_more {m : Mz} (V : Valid m) (s t : St6) (h : subF s t = true) (hw : wF m s = true) : wF m t = true := by
  unfold wF wB canB memB at *
  rw [List.contains_iff_mem] at *
  exact nodes_less (only_valid V (set6 s)) (only_valid V (set6 t)) (only_more V h) ⟨Int.le_refl _, by decide⟩ hw
/-- all colours but those of a set -/
def notF (s : St6) : St6 := ⟨63 - s.val, by omega⟩
theorem notF_val (s : St6) : ((notF s).val : Int) = 63 - (s.val : Int) := by show ((63 - s.val : Nat) : Int) = _; omega
theorem notF_sub : ∀ s t : St6, subF s t = true → subF (notF t) (notF s) = true := by decide +kernel
/-- whether a set bars -/
noncomputable def bF (m : Mz) (s : St6) : Bool := !wF m (notF s)
theorem bF_more {m : Mz} (V : Valid m) (s t : St6) (h : subF s t = true) (hw : bF m s = true) : bF m t = true := by
  unfold bF at *
  cases hc : wF m (notF t) with
  | false => rfl
  | true =>
    rw [wF_more V _ _ (notF_sub s t h) hc] at hw
    cases hw
/-- a list of sets, as numbers -/
def intsF (l : List St6) : List Int := l.map fun a => (a.val : Int)
theorem intsF_len (l : List St6) : (intsF l).length = l.length := by unfold intsF; rw [List.length_map]
theorem intsF_snoc (l : List St6) (a : St6) : intsF (l ++ [a]) = intsF l ++ [(a.val : Int)] := by unfold intsF; rw [List.map_append]; rfl
theorem intsF_at {l : List St6} {k : Nat} (h : k < l.length) : (intsF l)[k]'(by rw [intsF_len]; exact h) = ((l[k]).val : Int) := by unfold intsF; rw [List.getElem_map]
theorem mem_intsF {l : List St6} {x : Int} (h : x ∈ intsF l) : 0 ≤ x ∧ x < 64 := by
  unfold intsF at h
  obtain ⟨a, _, rfl⟩ := List.mem_map.1 h
  exact set6 a
theorem intsF_inj {a b : List St6} (h : intsF a = intsF b) : a = b := by
  unfold intsF at h
  exact List.map_inj_right (fun x y e => Fin.ext (by omega)) |>.1 h
/-- a list of sets, taken from numbers -/
def setsOf (l : List Int) : List St6 := l.map fun z => ⟨z.toNat % 64, Nat.mod_lt _ (by decide)⟩
theorem setsOf_len (l : List Int) : (setsOf l).length = l.length := by unfold setsOf; rw [List.length_map]
theorem intsF_setsOf {l : List Int} (h : ∀ z ∈ l, 0 ≤ z ∧ z < 64) : intsF (setsOf l) = l := by
  unfold intsF setsOf
  rw [List.map_map]
  conv => rhs; rw [← List.map_id l]
  refine List.map_congr_left fun z hz => ?_
  have := h z hz
  show ((z.toNat % 64 : Nat) : Int) = z
  omega
/-- the sets below k of a kind -/
def selTo (P : St6 → Bool) (k : Nat) : List St6 := (allN.take k).filter P
  where allN : List St6 := List.finRange 64
theorem selTo_zero (P : St6 → Bool) : selTo P 0 = [] := by unfold selTo; simp
theorem selTo_at {k : Nat} (h : k < 64) : selTo.allN[k]'(by unfold selTo.allN; rw [List.length_finRange]; exact h) = ⟨k, h⟩ := by unfold selTo.allN; rw [List.getElem_finRange]; rfl
theorem selTo_yes {P : St6 → Bool} {k : Nat} (h : k < 64) (hp : P ⟨k, h⟩ = true) : selTo P (k + 1) = selTo P k ++ [⟨k, h⟩] := by
  unfold selTo
  rw [List.take_succ_eq_append_getElem (by unfold selTo.allN; rw [List.length_finRange]; exact h), List.filter_append, selTo_at h, List.filter_cons_of_pos hp]
  rfl
theorem selTo_no {P : St6 → Bool} {k : Nat} (h : k < 64) (hp : P ⟨k, h⟩ = false) : selTo P (k + 1) = selTo P k := by
  unfold selTo
  rw [List.take_succ_eq_append_getElem (by unfold selTo.allN; rw [List.length_finRange]; exact h), List.filter_append, selTo_at h, List.filter_cons_of_neg (by rw [hp]; decide), List.filter_nil, List.append_nil]
theorem selTo_len (P : St6 → Bool) (k : Nat) : (selTo P k).length ≤ k := by
  unfold selTo
  have := List.length_filter_le P (selTo.allN.take k)
  rw [List.length_take] at this
  omega
def selF (P : St6 → Bool) : List St6 := selTo P 64
theorem mem_selF {P : St6 → Bool} {a : St6} : a ∈ selF P ↔ P a = true := by
  unfold selF selTo selTo.allN
  rw [List.take_of_length_le (by rw [List.length_finRange]; exact Nat.le_refl _), List.mem_filter]
  exact ⟨fun h => h.2, fun h => ⟨List.mem_finRange a, h⟩⟩
end M
end Go.Proofs.Ytbcobheiofajeaa
namespace Go.Proofs.Ytbcobheiofajeaa
open Go.RowKit
namespace M
def manyC (s : Int) : Nat := (colours s).length
def nodesB (n : Int) (fs : List Int) : Bool := fs.all fun x => inB x 0 (n - 1)
def fillB (m : Mz) (s : Int) (fs : List Int) : Bool := nodesB m.size fs && decide (fs.length = manyC s)
def filB (m : Mz) (s : Int) (fs : List Int) : Bool := askB m s && fillB m s fs
theorem fil_yes {m : Mz} {s : Int} {fs : List Int} (h : filB m s fs = true) : askB m s = true ∧ (∀ x ∈ fs, 0 ≤ x ∧ x < m.size) ∧ fs.length = manyC s := by
  unfold filB fillB at h
  rw [Bool.and_eq_true, Bool.and_eq_true, decide_eq_true_iff] at h
  refine ⟨h.1, fun x hx => ?_, h.2.2⟩
  have := List.all_eq_true.1 h.2.1 x hx
  unfold inB at this
  rw [decide_eq_true_iff] at this
  omega
theorem node_in (n x : Int) : inB x 0 (n - 1) = nodeB n x := by
  unfold inB nodeB; rw [Bool.eq_iff_iff, decide_eq_true_iff, decide_eq_true_iff]; omega
theorem colours_eq {s : Int} (h : setB s = true) : colours s = digsTo s.toNat 6 := by unfold colours; rw [h]; rfl
theorem digs6_12 : ∀ s : Fin 64, digsTo s.val 12 = digsTo s.val 6 := by decide +kernel
theorem setB_iff {s : Int} : setB s = true ↔ 0 ≤ s ∧ s < 64 := by unfold setB; rw [decide_eq_true_iff]
theorem colours12 {s : Int} (h : setB s = true) : digsTo s.toNat 12 = colours s := by
  have h' := setB_iff.1 h
  rw [colours_eq h]
  exact digs6_12 ⟨s.toNat, by omega⟩
theorem many_fin : ∀ s : Fin 64, (digsTo s.val 6).length = cnt s := by decide +kernel
theorem many_cnt (s : Fin 64) : manyC (s.val : Int) = cnt s := by
  unfold manyC
  rw [colours_eq (setB_iff.2 (by omega)), Int.toNat_natCast, many_fin s]
theorem many_le (s : Int) : manyC s ≤ 6 := by
  unfold manyC colours
  split
  · unfold digsTo
    rw [List.length_map]
    exact Nat.le_trans (List.length_filter_le ..) (by simp)
  · simp
theorem mem_colours {s x : Int} (h : x ∈ colours s) : 0 ≤ x ∧ x < 6 := by
  unfold colours at h
  split at h
  · unfold digsTo at h
    obtain ⟨p, hp, rfl⟩ := List.mem_map.1 h
    have := List.mem_range.1 (List.mem_filter.1 hp).1
    omega
  · cases h
theorem colours_nodup (s : Int) : (colours s).Nodup := by
  unfold colours
  split
  · unfold digsTo
    rw [List.nodup_iff_pairwise_ne, List.pairwise_map]
    refine List.Pairwise.imp ?_ (List.Pairwise.filter _ List.nodup_range)
    intro a b h
    omega
  · exact List.nodup_nil
/-- the keys that the first k ones of a filling lay -/
def layS (n : Nat) (cs fs : List Int) : Nat → List Int
  | 0 => List.replicate n 0
  | k + 1 => (layS n cs fs k).set (fs.getD k 0).toNat (bits .or .i64 ((layS n cs fs k).getD (fs.getD k 0).toNat 0) (bitI (cs.getD k 0)))
def layV (m : Mz) (cs fs : List Int) : Mz := ⟨m.size, m.doors, layS m.keys.length cs fs fs.length⟩
theorem layS_len (n : Nat) (cs fs : List Int) : ∀ k, (layS n cs fs k).length = n
  | 0 => by unfold layS; rw [List.length_replicate]
  | k + 1 => by unfold layS; rw [List.length_set, layS_len n cs fs k]
theorem bit_fin : ∀ c : Fin 6, 0 ≤ bitI (c.val : Int) ∧ bitI (c.val : Int) < 64 := by decide +kernel
theorem bit_set {c : Int} (h0 : 0 ≤ c) (h6 : c < 6) : 0 ≤ bitI c ∧ bitI c < 64 := by
  have := bit_fin ⟨c.toNat, by omega⟩
  rwa [show ((c.toNat : Nat) : Int) = c from by omega] at this
theorem orS64 {s t : Int} (hs : 0 ≤ s ∧ s < 64) (ht : 0 ≤ t ∧ t < 64) : 0 ≤ bits .or .i64 s t ∧ bits .or .i64 s t < 64 := by
  obtain ⟨a, rfl⟩ : ∃ a : Nat, s = (a : Int) := ⟨s.toNat, by omega⟩
  obtain ⟨b, rfl⟩ : ∃ b : Nat, t = (b : Int) := ⟨t.toNat, by omega⟩
  rw [or_nat (by omega) (by omega)]
  have : a ||| b < 2 ^ 6 := Nat.or_lt_two_pow (by omega) (by omega)
  omega
theorem layS_set (n : Nat) (cs fs : List Int) : ∀ k, (∀ i, i < k → 0 ≤ cs.getD i 0 ∧ cs.getD i 0 < 6) → ∀ x ∈ layS n cs fs k, 0 ≤ x ∧ x < 64
  | 0, _, x, h => by unfold layS at h; rw [List.mem_replicate] at h; omega
  | k + 1, hc, x, h => by
    have ih := layS_set n cs fs k (fun i hi => hc i (by omega))
    unfold layS at h
    rcases List.mem_or_eq_of_mem_set h with h | rfl
    · exact ih x h
    · refine orS64 ?_ (bit_set (hc k (by omega)).1 (hc k (by omega)).2)
      rw [List.getD_eq_getElem?_getD]
      cases hg : (layS n cs fs k)[(fs.getD k 0).toNat]? with
      | none => simp
      | some z => exact ih z (List.mem_of_getElem? hg)
theorem layV_valid {m : Mz} (V : Valid m) {cs fs : List Int} (hl : fs.length ≤ cs.length) (hc : ∀ c ∈ cs, 0 ≤ c ∧ c < 6) : Valid (layV m cs fs) := V.part (List.Sublist.refl _) (layS_len ..) fun s h => layS_set _ _ _ _ (fun i hi => by
  rw [List.getD_eq_getElem?_getD, List.getElem?_eq_getElem (by omega)]
  exact hc _ (List.getElem_mem _)) s h
theorem layV_colours {m : Mz} {s : Int} {fs : List Int} (h : filB m s fs = true) : Valid (layV m (colours s) fs) :=
  layV_valid (ask_yes (fil_yes h).1).1 (Nat.le_of_eq (fil_yes h).2.2) fun _ hc => mem_colours hc
theorem layV_ask {m : Mz} {s : Int} {fs : List Int} (h : filB m s fs = true) : askB (layV m (colours s) fs) 0 = true := by
  unfold askB
  rw [of_valid (layV_colours h)]
  rfl
theorem ask0 : askB C.mz0 0 = false := by decide +kernel
/-- what is laid, or nothing -/
def laidV (m : Mz) (s : Int) (fs : List Int) : Mz := if filB m s fs then layV m (colours s) fs else C.mz0
theorem laidV_yes {m : Mz} {s : Int} {fs : List Int} (h : filB m s fs = true) : laidV m s fs = layV m (colours s) fs := by unfold laidV; rw [if_pos h]
theorem laidV_no {m : Mz} {s : Int} {fs : List Int} (h : filB m s fs = false) : laidV m s fs = C.mz0 := by unfold laidV; rw [h]; rfl
theorem laidV_ask (m : Mz) (s : Int) (fs : List Int) : askB (laidV m s fs) 0 = filB m s fs := by
  cases h : filB m s fs with
  | false => rw [laidV_no h, ask0]
  | true => rw [laidV_yes h, layV_ask h]
theorem laidV_len {m : Mz} (h1 : m.doors.length ≤ 1048576) (h2 : m.keys.length ≤ 1048576) (s : Int) (fs : List Int) : (laidV m s fs).doors.length ≤ 1048576 ∧ (laidV m s fs).keys.length ≤ 1048576 := by
  unfold laidV
  split
  · exact ⟨h1, by show (layS ..).length ≤ _; rw [layS_len]; exact h2⟩
  · exact ⟨by decide, by decide⟩
theorem laidV_bd {m : Mz} (s : Int) (fs : List Int) : (laidV m s fs).doors.length ≤ 1048576 ∧ (laidV m s fs).keys.length ≤ 1048576 := by
  unfold laidV
  split
  · rename_i h
    have V := (ask_yes (fil_yes h).1).1
    have h1 := V.few
    have h2 := V.keysLen
    have h3 := V.size12
    exact ⟨by show m.doors.length ≤ _; omega, by show (layS ..).length ≤ _; rw [layS_len]; omega⟩
  · exact ⟨by decide, by decide⟩
theorem less63_fin : ∀ s : Fin 64, lessS (s.val : Int) 63 = 0 := by decide +kernel
theorem noSet63 {m : Mz} (V : Valid m) : noSet m 63 = ⟨m.size, m.doors, layS m.keys.length [] [] 0⟩ := by
  unfold noSet layS
  congr 1
  refine List.eq_replicate_iff.2 ⟨by rw [List.length_map], fun b hb => ?_⟩
  obtain ⟨u, hu, rfl⟩ := List.mem_map.1 hb
  have := V.keyB hu
  have h := less63_fin ⟨u.toNat, by omega⟩
  rwa [show ((u.toNat : Nat) : Int) = u from by omega] at h
noncomputable def depR (m : Mz) (s : Int) (fs : List Int) : Int := winR (layV m (colours s) fs) 0
noncomputable def dep0 (m : Mz) (s : Int) (fs : List Int) : Int := ifAsk (laidV m s fs) 0 (winR (laidV m s fs) 0) 0
theorem depR_nonneg (m : Mz) (s : Int) (fs : List Int) : 0 ≤ depR m s fs := by unfold depR winR; omega
theorem dep0_yes {m : Mz} {s : Int} {fs : List Int} (h : filB m s fs = true) : dep0 m s fs = depR m s fs := by
  unfold dep0 depR
  rw [ifAsk_yes (by rw [laidV_ask]; exact h), laidV_yes h]
theorem dep0_no {m : Mz} {s : Int} {fs : List Int} (h : filB m s fs = false) : dep0 m s fs = 0 := by
  unfold dep0
  rw [ifAsk_no (by rw [laidV_ask]; exact h)]
/-- place of a number in a list -/
def placeL (l : List Int) (x : Int) : Nat := l.idxOf x
def swapV (s : Int) (fs : List Int) (a b : Int) : List Int := (fs.set (placeL (colours s) a) (fs.getD (placeL (colours s) b) 0)).set (placeL (colours s) b) (fs.getD (placeL (colours s) a) 0)
def swapB (m : Mz) (s : Int) (fs : List Int) (a b : Int) : Bool := filB m s fs && memB (colours s) a && memB (colours s) b && !(a == b)
theorem swapV_len (s : Int) (fs : List Int) (a b : Int) : (swapV s fs a b).length = fs.length := by unfold swapV; rw [List.length_set, List.length_set]
end M
end Go.Proofs.Ytbcobheiofajeaa
namespace Go.Proofs.Ytbcobheiofajeaa
open Go.RowKit
namespace M
theorem and4 (a b : Nat) (ha : a < 4096) (hb : b < 4096) : bits .and .i64 (a : Int) (b : Int) = ((a &&& b : Nat) : Int) := (bits_nat .i64 62 (by decide) wraps_i64 a b (by omega) (by omega)).1
theorem or4 (a b : Nat) (ha : a < 4096) (hb : b < 4096) : bits .or .i64 (a : Int) (b : Int) = ((a ||| b : Nat) : Int) := (bits_nat .i64 62 (by decide) wraps_i64 a b (by omega) (by omega)).2
theorem pow12 {k : Nat} (h : k < 12) : 2 ^ k < 4096 := by
  have h12 : (2 : Nat) ^ 12 = 4096 := rfl
  rw [← h12]
  exact Nat.pow_lt_pow_of_lt (by decide) h
theorem wrap_pow {k : Nat} (h : k < 12) : wrap64 (2 ^ k) = ((2 ^ k : Nat) : Int) := by
  have := pow12 h
  have e : ((2 : Int) ^ k) = ((2 ^ k : Nat) : Int) := by simp
  rw [e]
  generalize 2 ^ k = n at this
  unfold wrap64
  omega
theorem endsI (d : Dr) (h1 : d.1 < 12) (h2 : d.2.1 < 12) : bits .or .i64 (wrap64 (2 ^ d.1.toNat)) (wrap64 (2 ^ d.2.1.toNat)) = ((endsN d : Nat) : Int) := by
  rw [wrap_pow (by omega), wrap_pow (by omega), or4 _ _ (pow12 (by omega)) (pow12 (by omega))]
  rfl
end M
end Go.Proofs.Ytbcobheiofajeaa
namespace Go.Proofs.Ytbcobheiofajeaa
open Go.RowKit
namespace M
theorem digB_ext {a b : Nat} (h : ∀ p, digB a p = digB b p) : a = b := Nat.eq_of_testBit_eq fun p => by rw [← digB_testBit, ← digB_testBit, h]
theorem digB_big {n p : Nat} (h : n < 4096) (hp : 12 ≤ p) : digB n p = false := digB_lt (k := 12) (Nat.div_eq_of_lt h) hp
theorem or_lt {a b : Nat} (ha : a < 4096) (hb : b < 4096) : a ||| b < 4096 := by
  have h12 : (2 : Nat) ^ 12 = 4096 := rfl
  rw [← h12] at *
  exact Nat.or_lt_two_pow ha hb
/-- the digits of the one that the other has not -/
def lessN (a b : Nat) : Nat := (BitVec.ofNat 64 a &&& ~~~BitVec.ofNat 64 b).toNat
theorem digB_less {a b : Nat} (ha : a < 4096) (_hb : b < 4096) (p : Nat) : digB (lessN a b) p = (digB a p && !digB b p) := by
  rw [digB_testBit, digB_testBit, digB_testBit]
  unfold lessN
  rw [BitVec.testBit_toNat, BitVec.getLsbD_and, BitVec.getLsbD_not, BitVec.getLsbD_ofNat, BitVec.getLsbD_ofNat]
  rcases Nat.lt_or_ge p 64 with h | h
  · simp [h]
  · have := digB_big ha (show 12 ≤ p by omega)
    rw [digB_testBit] at this
    simp [this]
theorem lessN_lt {a b : Nat} (ha : a < 4096) (hb : b < 4096) : lessN a b < 4096 := by
  refine Nat.lt_of_not_le fun hge => ?_
  have h12 : (2 : Nat) ^ 12 = 4096 := rfl
  rw [← h12] at hge
  obtain ⟨p, hp, ht⟩ := Nat.exists_ge_and_testBit_of_ge_two_pow hge
  rw [← digB_testBit, digB_less ha hb, digB_big ha hp] at ht
  cases ht
theorem less4 {a b : Nat} (ha : a < 4096) (hb : b < 4096) : bits .andNot .i64 (a : Int) (b : Int) = ((lessN a b : Nat) : Int) := by
  have hl := lessN_lt ha hb
  show IntKind.i64.wrap ((BitVec.ofInt 64 (a : Int) &&& ~~~BitVec.ofInt 64 (b : Int)).toNat : Int) = _
  rw [BitVec.ofInt_natCast, BitVec.ofInt_natCast]
  exact wraps_i64 _ (by omega) (by unfold lessN at hl; omega)
-- the next ones
def keysN (m : Mz) (n : Nat) : Int := gath m (digsTo n 12) 0
theorem keysN_set {m : Mz} (V : Valid m) (n : Nat) : 0 ≤ keysN m n ∧ keysN m n < 64 := (gath_set V _ 0 ⟨by decide, by decide⟩).1
/-- one door looked at from n -/
def farN (op : Dr → Bool) (n acc : Nat) (d : Dr) : Nat := if op d = true ∧ n &&& endsN d ≠ 0 then acc ||| endsN d else acc
def stepF (op : Dr → Bool) (n : Nat) (ds : List Dr) : Nat := ds.foldl (farN op n) n
theorem stepF_snoc (op : Dr → Bool) (n : Nat) (ds : List Dr) (d : Dr) : stepF op n (ds ++ [d]) = farN op n (stepF op n ds) d := by unfold stepF; rw [List.foldl_append]; rfl
theorem far_digB (op : Dr → Bool) (n : Nat) (p : Nat) : ∀ (ds : List Dr) (acc : Nat), digB (ds.foldl (farN op n) acc) p = true ↔ digB acc p = true ∨ ∃ d ∈ ds, op d = true ∧ n &&& endsN d ≠ 0 ∧ digB (endsN d) p = true
  | [], acc => by simp
  | d :: ds, acc => by
    rw [List.foldl_cons, far_digB op n p ds]
    unfold farN
    split
    · rename_i hc
      rw [digB_or, Bool.or_eq_true]
      constructor
      · rintro ((h | h) | ⟨e, he, h⟩)
        · exact .inl h
        · exact .inr ⟨d, List.mem_cons_self .., hc.1, hc.2, h⟩
        · exact .inr ⟨e, List.mem_cons_of_mem _ he, h⟩
      · rintro (h | ⟨e, he, h1, h2, h3⟩)
        · exact .inl (.inl h)
        · rcases List.mem_cons.1 he with rfl | he
          · exact .inl (.inr h3)
          · exact .inr ⟨e, he, h1, h2, h3⟩
    · rename_i hc
      constructor
      · rintro (h | ⟨e, he, h⟩)
        · exact .inl h
        · exact .inr ⟨e, List.mem_cons_of_mem _ he, h⟩
      · rintro (h | ⟨e, he, h1, h2, h3⟩)
        · exact .inl h
        · rcases List.mem_cons.1 he with rfl | he
          · exact absurd ⟨h1, h2⟩ hc
          · exact .inr ⟨e, he, h1, h2, h3⟩
theorem far_lt {op : Dr → Bool} {n acc : Nat} {d : Dr} (ha : acc < 4096) (h1 : d.1 < 12) (h2 : d.2.1 < 12) : farN op n acc d < 4096 := by
  unfold farN
  split
  · exact or_lt ha (endsN_lt h1 h2)
  · exact ha
theorem far_le (op : Dr → Bool) (n acc : Nat) (d : Dr) : acc ≤ farN op n acc d := by
  unfold farN
  split
  · exact Nat.left_le_or
  · exact Nat.le_refl _
theorem stepF_lt {op : Dr → Bool} {n : Nat} {ds : List Dr} (hn : n < 4096) (hv : ∀ d ∈ ds, d.1 < 12 ∧ d.2.1 < 12) : stepF op n ds < 4096 := by
  unfold stepF
  have : ∀ (ds : List Dr) (acc : Nat), acc < 4096 → (∀ d ∈ ds, d.1 < 12 ∧ d.2.1 < 12) → ds.foldl (farN op n) acc < 4096 := by
    intro ds
    induction ds with
    | nil => intro acc h _; exact h
    | cons d ds ih =>
      intro acc h hv
      have hd := hv d (List.mem_cons_self ..)
      exact ih _ (far_lt h hd.1 hd.2) fun e he => hv e (List.mem_cons_of_mem _ he)
  exact this ds n hn hv
/-- y can be entered behind the nodes of n -/
def nextB (m : Mz) (n y : Nat) : Bool := !digB n y && m.doors.any fun d => hasB (keysN m n) d.2.2 && ((d.1 == (y : Int) && digB n d.2.1.toNat) || (d.2.1 == (y : Int) && digB n d.1.toNat))
def nextL (m : Mz) (n : Nat) : List Int := ((List.range 12).filter (nextB m n)).map fun p : Nat => (p : Int)
def nextN (m : Mz) (n : Nat) : Nat := if n = 0 then 1 else mk (nextL m n)
theorem nextB_lt {m : Mz} (V : Valid m) {n y : Nat} (h : nextB m n y = true) : (y : Int) < m.size := by
  unfold nextB at h
  rw [Bool.and_eq_true, List.any_eq_true] at h
  obtain ⟨_, d, hd, h⟩ := h
  obtain ⟨k, hk, rfl⟩ := List.mem_iff_getElem.1 hd
  obtain ⟨a1, a2, a3, a4, _⟩ := V.door k hk
  rw [Bool.and_eq_true, Bool.or_eq_true, Bool.and_eq_true, Bool.and_eq_true, beq_iff_eq, beq_iff_eq] at h
  rcases h.2 with h | h
  · omega
  · omega
theorem mem_nextL {m : Mz} {n : Nat} {x : Int} : x ∈ nextL m n ↔ ∃ p : Nat, x = p ∧ p < 12 ∧ nextB m n p = true := by
  unfold nextL
  rw [List.mem_map]
  constructor
  · rintro ⟨p, hp, rfl⟩
    rw [List.mem_filter, List.mem_range] at hp
    exact ⟨p, rfl, hp.1, hp.2⟩
  · rintro ⟨p, rfl, h1, h2⟩
    exact ⟨p, by rw [List.mem_filter, List.mem_range]; exact ⟨h1, h2⟩, rfl⟩
theorem nextL_asc (m : Mz) (n : Nat) : Asc ltI (nextL m n) := by
  unfold nextL Asc
  rw [List.pairwise_map]
  refine (List.Pairwise.filter _ List.pairwise_lt_range).imp ?_
  intro a b hab
  unfold ltI
  rw [decide_eq_true_iff]
  omega
theorem nextL_len (m : Mz) (n : Nat) : (nextL m n).length ≤ 12 := by
  unfold nextL
  rw [List.length_map]
  refine Nat.le_trans (List.length_filter_le _ _) ?_
  simp
theorem nextN_lt (m : Mz) (n : Nat) : nextN m n < 4096 := by
  unfold nextN
  split
  · decide
  · exact mk_lt fun x hx => by obtain ⟨p, rfl, hp, _⟩ := mem_nextL.1 hx; omega
theorem digB_nextN {m : Mz} (V : Valid m) {n : Nat} (h0 : n ≠ 0) (p : Nat) : digB (nextN m n) p = nextB m n p := by
  unfold nextN
  rw [if_neg h0, Bool.eq_iff_iff, digB_mk (fun x hx => by obtain ⟨q, rfl, _⟩ := mem_nextL.1 hx; omega), mem_nextL]
  constructor
  · rintro ⟨q, hq, _, h⟩
    obtain rfl : p = q := by omega
    exact h
  · intro h
    have := nextB_lt V h
    have := V.size12
    exact ⟨p, rfl, by omega, h⟩
theorem digs_nextN {m : Mz} (V : Valid m) {n : Nat} (h0 : n ≠ 0) : digsTo (nextN m n) 12 = nextL m n :=
  (digsTo_asc _ 12).ext ordI (nextL_asc m n) fun x => by
    rw [mem_digsTo, mem_nextL]
    constructor
    · rintro ⟨p, h1, h2, h3⟩; exact ⟨p, h1, h2, by rw [← digB_nextN V h0]; exact h3⟩
    · rintro ⟨p, h1, h2, h3⟩; exact ⟨p, h1, h2, by rw [digB_nextN V h0]; exact h3⟩
/-- what the program reckons -/
theorem next_step {m : Mz} (V : Valid m) {n : Nat} (hn : n < 4096) (h0 : n ≠ 0) : lessN (stepF (openTo (keysN m n)) n m.doors) n = nextN m n := by
  have hv : ∀ d ∈ m.doors, d.1 < 12 ∧ d.2.1 < 12 := by
    intro d hd
    obtain ⟨k, hk, rfl⟩ := List.mem_iff_getElem.1 hd
    obtain ⟨a, b, c, e, _⟩ := V.door k hk
    have := V.size12
    omega
  refine digB_ext fun p => ?_
  rw [digB_less (stepF_lt hn hv) hn, digB_nextN V h0]
  unfold nextB
  rw [Bool.and_comm]
  cases hp : digB n p with
  | true => rfl
  | false =>
    rw [Bool.not_false, Bool.true_and, Bool.true_and, Bool.eq_iff_iff]
    unfold stepF
    rw [far_digB, List.any_eq_true]
    constructor
    · rintro (h | ⟨d, hd, h1, h2, h3⟩)
      · rw [hp] at h; cases h
      · obtain ⟨k, hk, rfl⟩ := List.mem_iff_getElem.1 hd
        obtain ⟨a1, a2, a3, a4, _⟩ := V.door k hk
        refine ⟨_, hd, ?_⟩
        rw [Bool.and_eq_true, Bool.or_eq_true, Bool.and_eq_true, Bool.and_eq_true, beq_iff_eq, beq_iff_eq]
        refine ⟨h1, ?_⟩
        have h4 : ¬ (digB n m.doors[k].1.toNat = false ∧ digB n m.doors[k].2.1.toNat = false) := fun h => h2 ((and_ends n _).2 h)
        rcases (digB_ends _ p).1 h3 with h5 | h5
        · refine .inl ⟨by omega, ?_⟩
          cases h6 : digB n m.doors[k].2.1.toNat with
          | true => rfl
          | false => exact absurd ⟨by rw [h5]; exact hp, h6⟩ h4
        · refine .inr ⟨by omega, ?_⟩
          cases h6 : digB n m.doors[k].1.toNat with
          | true => rfl
          | false => exact absurd ⟨h6, by rw [h5]; exact hp⟩ h4
    · rintro ⟨d, hd, h⟩
      rw [Bool.and_eq_true, Bool.or_eq_true, Bool.and_eq_true, Bool.and_eq_true, beq_iff_eq, beq_iff_eq] at h
      refine .inr ⟨d, hd, h.1, fun hz => ?_, ?_⟩
      · obtain ⟨h1, h2⟩ := (and_ends n d).1 hz
        rcases h.2 with ⟨_, h3⟩ | ⟨_, h3⟩
        · rw [h2] at h3; cases h3
        · rw [h1] at h3; cases h3
      · rw [digB_ends]
        rcases h.2 with ⟨h3, _⟩ | ⟨h3, _⟩
        · exact .inl (by omega)
        · exact .inr (by omega)
/-- what the model asks of each pair of nodes -/
theorem nextB_open {m : Mz} (V : Valid m) {n y : Nat} (hy : digB n y = false) : nextB m n y = true ↔ ∃ x : Nat, (x : Int) < m.size ∧ digB n x = true ∧ openB m.doors (x : Int) (y : Int) (keysN m n) = true := by
  unfold nextB openB
  rw [hy, Bool.not_false, Bool.true_and, List.any_eq_true]
  have hs := keysN_set V n
  constructor
  · rintro ⟨d, hd, h⟩
    obtain ⟨k, hk, rfl⟩ := List.mem_iff_getElem.1 hd
    obtain ⟨a1, a2, a3, a4, _, b, c⟩ := V.door k hk
    rw [Bool.and_eq_true, Bool.or_eq_true, Bool.and_eq_true, Bool.and_eq_true, beq_iff_eq, beq_iff_eq, has_same hs.1 hs.2 b c] at h
    rcases h.2 with ⟨h3, h4⟩ | ⟨h3, h4⟩
    · refine ⟨_, by omega, h4, ?_⟩
      rw [List.any_eq_true]
      refine ⟨_, hd, ?_⟩
      unfold joinsB
      rw [h.1, Bool.and_true, Bool.or_eq_true, Bool.and_eq_true, Bool.and_eq_true, beq_iff_eq, beq_iff_eq, beq_iff_eq, beq_iff_eq]
      exact .inr ⟨h3, by omega⟩
    · refine ⟨_, by omega, h4, ?_⟩
      rw [List.any_eq_true]
      refine ⟨_, hd, ?_⟩
      unfold joinsB
      rw [h.1, Bool.and_true, Bool.or_eq_true, Bool.and_eq_true, Bool.and_eq_true, beq_iff_eq, beq_iff_eq, beq_iff_eq, beq_iff_eq]
      exact .inl ⟨by omega, h3⟩
  · rintro ⟨x, hx, hd, h⟩
    rw [List.any_eq_true] at h
    obtain ⟨d, hm, h⟩ := h
    obtain ⟨k, hk, rfl⟩ := List.mem_iff_getElem.1 hm
    obtain ⟨a1, a2, a3, a4, _, b, c⟩ := V.door k hk
    refine ⟨_, hm, ?_⟩
    unfold joinsB at h
    rw [Bool.and_eq_true, Bool.or_eq_true, Bool.and_eq_true, Bool.and_eq_true, beq_iff_eq, beq_iff_eq, beq_iff_eq, beq_iff_eq, ← has_same hs.1 hs.2 b c] at h
    rw [Bool.and_eq_true, Bool.or_eq_true, Bool.and_eq_true, Bool.and_eq_true, beq_iff_eq, beq_iff_eq]
    refine ⟨h.2, ?_⟩
    rcases h.1 with ⟨h3, h4⟩ | ⟨h3, h4⟩
    · exact .inr ⟨h4, by rw [h3, Int.toNat_natCast]; exact hd⟩
    · exact .inl ⟨h3, by rw [h4, Int.toNat_natCast]; exact hd⟩
end M
end Go.Proofs.Ytbcobheiofajeaa
namespace Go.Proofs.Ytbcobheiofajeaa
open Go.RowKit
namespace M
theorem stepF_take {op : Dr → Bool} {n : Nat} {ds : List Dr} {k : Nat} (h : k < ds.length) : stepF op n (ds.take (k + 1)) = farN op n (stepF op n (ds.take k)) ds[k] := by rw [List.take_succ_eq_append_getElem h, stepF_snoc]
end M
namespace C
set_option maxHeartbeats 3200000
set_option maxRecDepth 20000
theorem stepFrom_any (w : World) (lo hi : Nat) (m : M.Mz) (a b : Option Addr) (c d : Nat) (h : MzIn lo hi w m a c b d) (hz : hi ≤ w.heap.size) (V : M.Valid m) (n : Nat) (hn4 : n < 4096) (set : Int) :
    Calls Try.prog 108 #[.agg #[.int .i64 m.size, .slice a m.doors.length c, .slice b m.keys.length d], .int .i64 (n : Int), .int .i64 set] w fun e w' => e = .returned (.int .i64 ((M.stepF (M.openTo set) n m.doors : Nat) : Int)) ∧ Below w.heap.size w w' := by
  have H := Lib.hid h
  have v30 := V.few
  have HV := Lib.hid V
  clear h V
  go_enter Try.func108, Try.ntmps108
  go_wp2_with fail
  refine wp_named ?_
  intro W1 hW1
  have HB1 := Lib.hid (show Below w.heap.size w W1 by rw [hW1]; exact below_alloc _ _)
  clear hW1
  have hz1 := HB1.out.size
  go_loopw [7, 9, 10, 15] (fun v _ _ i wr => ∃ (k : Nat), k ≤ m.doors.length ∧ i = .int .i64 k ∧ v = .int .i64 ((M.stepF (M.openTo set) n (m.doors.take k) : Nat) : Int) ∧ M.stepF (M.openTo set) n (m.doors.take k) < 4096 ∧ Below W1.heap.size W1 wr) (fun _ _ _ i _ => m.doors.length - (intOf i).toNat)
  case atStart => exact ⟨0, Nat.zero_le _, rfl, rfl, hn4, Below.refl _ _⟩
  case round =>
    obtain ⟨k, hk, rfl, rfl, hk4, hni⟩ := hrel
    have HI := Lib.hid hni
    have hzi := hni.size
    clear hni
    generalize hpe : M.stepF (M.openTo set) n (m.doors.take k) = p at *
    have HPE := Lib.hid hpe
    clear hpe
    by_cases hkl : k < m.doors.length
    · have hrow := H.out.doors.below (HB1.out.trans (HI.out.mono (by omega))) hz
      obtain ⟨db, off, rfl, _, hdb, hc0⟩ := hrow.at_ (k := k * 3) (by rw [M.encDs_len]; omega)
      have a0 := hc0 _ _ (M.encDs_at0 hkl)
      have a1 : wr.cell? ⟨db, off + k * 3 + 1, none⟩ = some (.int .i64 m.doors[k].2.1) := hc0 _ _ (M.encDs_at1 hkl)
      have a2 : wr.cell? ⟨db, off + k * 3 + 2, none⟩ = some (.int .i64 m.doors[k].2.2) := hc0 _ _ (M.encDs_at2 hkl)
      obtain ⟨d1, d2, d3, d4, d5, d6, d7⟩ := HV.out.door k hkl
      have hs12 := HV.out.size12
      clear hc0 hrow
      go_wp2_with fail
      refine wp_named ?_
      intro W2 hW2
      have hb2 : Below wr.heap.size wr W2 := by rw [hW2]; exact below_alloc _ _
      have hdb3 : Box3 W2 wr.heap.size 103 (.int .i64 m.doors[k].1) (.int .i64 m.doors[k].2.1) (.int .i64 m.doors[k].2.2) := by rw [hW2]; exact Box3.new _ _ _ _ rfl
      clear hW2 a0 a1 a2
      have HI2 := Lib.hid (HI.out.trans (hb2.mono hzi))
      have hdl := hdb3.lt
      have hz2 := hb2.size
      have HD3 := Lib.hid hdb3
      obtain ⟨e0, e1, e2⟩ := hdb3.cells
      have E0 := cell_grown hdl e0
      have E1 := cell_grown hdl e1
      have E2 := cell_grown hdl e2
      have mixed : Try.prog.follows .mixedOrders = true := by kernel_rfl
      have g1 : ¬ m.doors[k].1 < 0 := by omega
      have g2 : ¬ m.doors[k].2.1 < 0 := by omega
      have hends := M.endsN_lt (d := m.doors[k]) (by omega) (by omega)
      have hE := M.endsI m.doors[k] (by omega) (by omega)
      have hA := M.and4 n (M.endsN m.doors[k]) hn4 hends
      have hO := M.or4 p (M.endsN m.doors[k]) hk4 hends
      have HSU : Hid (M.stepF (M.openTo set) n (m.doors.take (k + 1)) = M.farN (M.openTo set) n p m.doors[k]) := Lib.hid (by rw [M.stepF_take hkl, HPE.out])
      have HLT : Hid (M.farN (M.openTo set) n p m.doors[k] < 4096) := Lib.hid (M.far_lt hk4 (by omega) (by omega))
      clear hb2 hdb3 e0 e1 e2 hends
      refine wp_region_quiet_grown (by assumption) (by kernel_rfl) ?_
      repeat (first | go_big_quiet_step (fail) | quiet_step (fail))
      refine wpQuiet_nil ?_
      intro _ hw'
      obtain ⟨⟨nq, osq⟩, hw''⟩ := hw'
      subst hw''
      go_wp2_with fail
      refine (hasAll_any _ _ _).mono ?_
      rintro e w5 ⟨rfl, rfl⟩
      have HB5 := Lib.hid (HI2.out.trans ((below_grown W2 nq osq).mono (by omega)))
      cases hop : M.hasB set m.doors[k].2.2 with
      | false =>
        have hst : M.farN (M.openTo set) n p m.doors[k] = p := by unfold M.farN; exact if_neg (fun h => by have h1 := h.1; unfold M.openTo at h1; simp only [hop] at h1; cases h1)
        have HST := Lib.hid hst
        clear hst hop
        go_wp2_with fail
        go_roundw
        case rel => exact ⟨k + 1, by omega, by go_num, by rw [HSU.out, HST.out], by rw [HSU.out]; exact HLT.out, HB5.out⟩
        case measure => simp [intOf]; omega
      | true =>
        rcases Decidable.em (n &&& M.endsN m.doors[k] = 0) with hz0 | hz0
        · have hst : M.farN (M.openTo set) n p m.doors[k] = p := by unfold M.farN; rw [if_neg (fun h => h.2 hz0)]
          have HST := Lib.hid hst
          rw [hz0] at hA
          clear hst hop hz0
          go_wp2_with fail
          go_roundw
          case rel => exact ⟨k + 1, by omega, by go_num, by rw [HSU.out, HST.out], by rw [HSU.out]; exact HLT.out, HB5.out⟩
          case measure => simp [intOf]; omega
        · have hst : M.farN (M.openTo set) n p m.doors[k] = p ||| M.endsN m.doors[k] := by unfold M.farN; rw [if_pos ⟨hop, hz0⟩]
          have HST := Lib.hid hst
          have hzi0 : ¬ ((n &&& M.endsN m.doors[k] : Nat) : Int) = 0 := by omega
          have hzb : (((n &&& M.endsN m.doors[k] : Nat) : Int) != 0) = true := by simpa using hz0
          clear hst hop
          go_wp2_with fail
          go_roundw
          case rel => exact ⟨k + 1, by omega, by go_num, by rw [HSU.out, HST.out], by rw [HSU.out]; exact HLT.out, HB5.out⟩
          case measure => simp [intOf]; omega
    · obtain rfl : k = m.doors.length := by omega
      have hpe := HPE.out
      rw [List.take_of_length_le (Nat.le_refl _)] at hpe
      have HF := Lib.hid hpe
      clear hpe
      go_wp2_with fail
      go_ret
      exact ⟨by rw [HF.out]; rfl, HB1.out.trans (HI.out.mono (by omega))⟩
end C
end Go.Proofs.Ytbcobheiofajeaa
namespace Go.Proofs.Ytbcobheiofajeaa
open Go.RowKit
namespace M
/-- a step from n onto what holds n is nothing or a look at a door -/
theorem far_step (op : Dr → Bool) {n acc : Nat} (h : ∀ p, digB n p = true → digB acc p = true) (d : Dr) : farN op n acc d = acc ∨ farN op n acc d = stepN op acc d := by
  unfold farN stepN
  split
  · rename_i hc
    refine .inr ?_
    rw [if_pos]
    refine ⟨hc.1, fun h0 => hc.2 ?_⟩
    obtain ⟨h1, h2⟩ := (and_ends acc d).1 h0
    refine (and_ends n d).2 ⟨?_, ?_⟩
    · cases e : digB n d.1.toNat with
      | false => rfl
      | true => rw [h _ e] at h1; cases h1
    · cases e : digB n d.2.1.toNat with
      | false => rfl
      | true => rw [h _ e] at h2; cases h2
  · exact .inl rfl
theorem far_holds {op : Dr → Bool} {n acc : Nat} (h : ∀ p, digB n p = true → digB acc p = true) (d : Dr) : ∀ p, digB n p = true → digB (farN op n acc d) p = true := fun p hp => by
  unfold farN
  split
  · rw [digB_or, h p hp]; rfl
  · exact h p hp
theorem foldF_keep {op : Dr → Bool} {n : Nat} {P : Nat → Prop} {ds : List Dr} (hP : ∀ n d, d ∈ ds → P n → P (stepN op n d)) : ∀ (l : List Dr), (∀ d ∈ l, d ∈ ds) → ∀ acc, P acc → (∀ p, digB n p = true → digB acc p = true) → P (l.foldl (farN op n) acc)
  | [], _, _, h, _ => h
  | d :: l, hl, acc, h, hs => by
    rw [List.foldl_cons]
    refine foldF_keep hP l (fun e he => hl e (List.mem_cons_of_mem _ he)) _ ?_ (far_holds hs d)
    rcases far_step op hs d with e | e
    · rw [e]; exact h
    · rw [e]; exact hP _ _ (hl d (List.mem_cons_self ..)) h
theorem stepF_keep {op : Dr → Bool} {n : Nat} {P : Nat → Prop} {ds : List Dr} (hP : ∀ n d, d ∈ ds → P n → P (stepN op n d)) (h : P n) : P (stepF op n ds) := foldF_keep hP ds (fun _ h => h) n h (fun _ h => h)
theorem foldF_le (op : Dr → Bool) (n : Nat) : ∀ (l : List Dr) (acc : Nat), acc ≤ l.foldl (farN op n) acc
  | [], _ => Nat.le_refl _
  | d :: l, acc => Nat.le_trans (far_le op n acc d) (foldF_le op n l _)
theorem stepF_le (op : Dr → Bool) (n : Nat) (ds : List Dr) : n ≤ stepF op n ds := foldF_le op n ds n
/-- where a step finds nothing more, a pass does not either -/
theorem stepF_pass {op : Dr → Bool} {n : Nat} : ∀ {ds : List Dr}, stepF op n ds = n → passN op n ds = n
  | [], _ => rfl
  | d :: ds, h => by
    have h1 := far_le op n n d
    have h2 : ds.foldl (farN op n) (farN op n n d) = n := h
    have h3 := foldF_le op n ds (farN op n n d)
    have e : farN op n n d = n := by omega
    have e2 : stepN op n d = n := by
      have : farN op n n d = stepN op n d := rfl
      rw [← this, e]
    rw [e] at h2
    show passN op (stepN op n d) ds = n
    rw [e2]
    exact stepF_pass h2
end M
namespace C
set_option maxHeartbeats 3200000
set_option maxRecDepth 20000
theorem spread_any (w : World) (lo hi : Nat) (m : M.Mz) (a b : Option Addr) (c d : Nat) (h : MzIn lo hi w m a c b d) (hz : hi ≤ w.heap.size) (V : M.Valid m) (n0 : Nat) (set : Int) (P : Nat → Prop) (h0 : P n0) (hP : ∀ n d, d ∈ m.doors → P n → P (M.stepN (fun e => M.hasB set e.2.2) n d)) (hlt : ∀ n, P n → n < 4096) :
    Calls Try.prog 78 #[.agg #[.int .i64 m.size, .slice a m.doors.length c, .slice b m.keys.length d], .int .i64 (n0 : Int), .int .i64 set] w fun e w' => ∃ n : Nat, e = .returned (.int .i64 (n : Int)) ∧ P n ∧ M.passN (fun e => M.hasB set e.2.2) n m.doors = n ∧ Below w.heap.size w w' := by
  have H := Lib.hid h
  have HP := Lib.hid (fun n (hn : P n) => M.stepF_keep (op := M.openTo set) (ds := m.doors) hP hn)
  have HLT := Lib.hid hlt
  have H0 := Lib.hid h0
  have HV := Lib.hid V
  clear h hP hlt h0 V
  go_enter Try.func78, Try.ntmps78
  go_wp2_with fail
  go_loopw [1, 7] (fun v _ wr => ∃ (n : Nat), v = .int .i64 (n : Int) ∧ P n ∧ Box3 wr w.heap.size 55 (.int .i64 m.size) (.slice a m.doors.length c) (.slice b m.keys.length d) ∧ Below w.heap.size w wr) (fun v _ _ => 4096 - (intOf v).toNat)
  case atStart => exact ⟨n0, rfl, H0.out, Box3.new _ _ _ _ rfl, below_alloc _ _⟩
  case round =>
    obtain ⟨n, rfl, hpn, hbox, hnx⟩ := hrel
    have HN := Lib.hid hnx
    have HBX := Lib.hid hbox
    have HPN := Lib.hid hpn
    have hzr := hnx.size
    have hbl := hbox.lt
    have hn4 := HLT.out _ hpn
    have HPS := Lib.hid (HP.out n hpn)
    have hps4 := HLT.out _ (HP.out n hpn)
    have hle := M.stepF_le (M.openTo set) n m.doors
    have HPA := Lib.hid (fun h => M.stepF_pass (op := M.openTo set) (n := n) (ds := m.doors) h)
    obtain ⟨x0, x1, x2⟩ := hbox.cells
    clear hpn hbox hnx
    go_wp2_with fail
    refine (stepFrom_any wr lo hi m a b c d (H.out.below HN.out hz) (by omega) HV.out n hn4 set).mono ?_
    rintro e w4 ⟨rfl, hb4⟩
    have HN4 := Lib.hid (HN.out.trans (hb4.mono hzr))
    have HB4 := Lib.hid (HBX.out.below hb4)
    clear hb4 x0 x1 x2
    rcases Decidable.em (M.stepF (M.openTo set) n m.doors = n) with he | he
    · have HF := Lib.hid (HPA.out he)
      rw [he]
      clear he
      go_wp2_with fail
      go_ret
      exact ⟨n, rfl, HPN.out, HF.out, HN4.out⟩
    · generalize M.stepF (M.openTo set) n m.doors = t at *
      have hb : ((t : Int) == (n : Int)) = false := by rw [beq_eq_false_iff_ne]; omega
      have hne : ¬ (t : Int) = (n : Int) := by omega
      go_wp2_with fail
      go_roundw
      case rel => exact ⟨t, rfl, HPS.out, HB4.out, HN4.out⟩
      case measure => simp [intOf]; omega
end C
end Go.Proofs.Ytbcobheiofajeaa
namespace Go.Proofs.Ytbcobheiofajeaa
open Go.RowKit
namespace C
set_option maxHeartbeats 1600000
set_option maxRecDepth 20000
structure CSt (w : World) (m : M.Mz) (a b : Option Addr) (c d L bg : Nat) (ca cb : Option Addr) (cc cd : Nat) (wr : World) (ks : List Int) : Prop where
  box : Box3 wr w.heap.size 55 (.int .i64 m.size) (.slice a m.doors.length c) (.slice b m.keys.length d)
  res : Box3 wr (w.heap.size + 1) 55 (.int .i64 0) (.slice none 0 0) (.slice none 0 0)
  out : Box3 wr bg 55 (.int .i64 m.size) (.slice ca m.doors.length cc) (.slice cb m.keys.length cd)
  own : MzOwn L bg wr ⟨m.size, m.doors, ks⟩ ca cc cb cd
  low : Below w.heap.size w wr
theorem CSt.later {w : World} {m : M.Mz} {a b : Option Addr} {c d L bg : Nat} {ca cb : Option Addr} {cc cd : Nat} {wr wr' : World} {ks : List Int} (h : CSt w m a b c d L bg ca cb cc cd wr ks) (hb : Below wr.heap.size wr wr') : CSt w m a b c d L bg ca cb cc cd wr' ks :=
  ⟨h.box.below hb, h.res.below hb, h.out.below hb, h.own.below hb (Nat.le_of_lt h.out.lt), h.low.trans (hb.mono h.low.size)⟩
theorem CSt.set {w : World} {m : M.Mz} {a b : Option Addr} {c d L bg : Nat} {ca : Option Addr} {cc cd g off : Nat} {wr : World} {ks : List Int} (h : CSt w m a b c d L bg ca (some ⟨g, off, none⟩) cc cd wr ks) (hL : w.heap.size + 1 < L) (hg1 : L ≤ g) (hg2 : g < bg) {k : Nat} (hk : k < ks.length) (v : Int) :
    CSt w m a b c d L bg ca (some ⟨g, off, none⟩) cc cd (wr.setCell ⟨g, off + k, none⟩ (.int .i64 v)) (ks.set k v) :=
  have t := Turned.setCell (lo := L) (hi := bg) wr g (off + k) (.int .i64 v) hg1 hg2
  ⟨h.box.turned t (.inl (by omega)), h.res.turned t (.inl (by omega)), h.out.turned t (.inr (Nat.le_refl _)), h.own.setKey rfl k hk v, h.low.setCell (p := ⟨g, off + k, none⟩) (by show w.heap.size ≤ g; omega) _⟩
theorem withoutColours_any (w : World) (lo hi : Nat) (m : M.Mz) (a b : Option Addr) (c d : Nat) (h : MzIn lo hi w m a c b d) (hz : hi ≤ w.heap.size) (h1 : m.doors.length ≤ 1048576) (h2 : m.keys.length ≤ 1048576) (t : Int) :
    Calls Try.prog 105 #[.agg #[.int .i64 m.size, .slice a m.doors.length c, .slice b m.keys.length d], .int .i64 t] w (MzPost w (M.noSet m t)) := by
  have H := Lib.hid h
  clear h
  go_enter Try.func105, Try.ntmps105
  go_wp2_with fail
  refine named ?_
  intro W hW
  have hb : Below w.heap.size w W := by rw [hW]; exact (below_alloc _ _).alloc (by simp) _
  have x1 : Box3 W w.heap.size 55 (.int .i64 m.size) (.slice a m.doors.length c) (.slice b m.keys.length d) := by rw [hW]; exact (Box3.new _ _ _ _ rfl).alloc _
  have y1 : Box3 W (w.heap.size + 1) 55 (.int .i64 0) (.slice none 0 0) (.slice none 0 0) := by rw [hW]; exact Box3.new _ _ _ _ (by simp)
  clear hW
  have hzw := hb.size
  have hbl := y1.lt
  refine (clone_any W lo hi m a b c d (H.out.below hb hz) (by omega) h1 h2).mono ?_
  rintro e w3 ⟨ca, cc, cb, cd, rfl, ho, hb3⟩
  have hz3w := hb3.size
  have ho3 := hb.trans (hb3.mono (by omega))
  go_wp2_with fail
  refine wp_named ?_
  intro W4 hW4
  have hb4 : Below w3.heap.size w3 W4 := by rw [hW4]; exact below_alloc _ _
  have t4 : Box3 W4 w3.heap.size 55 (.int .i64 m.size) (.slice ca m.doors.length cc) (.slice cb m.keys.length cd) := by rw [hW4]; exact Box3.new _ _ _ _ rfl
  have ST := Lib.hid (show CSt w m a b c d W.heap.size w3.heap.size ca cb cc cd W4 (M.repT (fun s => M.lessS s t) m.keys 0) from by
    rw [M.repT_zero]
    exact ⟨(x1.below hb3).below hb4, (y1.below hb3).below hb4, t4, ho.below hb4 (Nat.le_refl _), ho3.trans (hb4.mono ho3.size)⟩)
  have hz4 := hb4.size
  clear hW4 hb hb3 hb4 ho ho3 x1 y1 t4
  go_loopw [6, 12] (fun _ i wr => ∃ (k : Nat), k ≤ m.keys.length ∧ i = .int .i64 k ∧ CSt w m a b c d W.heap.size w3.heap.size ca cb cc cd wr (M.repT (fun s => M.lessS s t) m.keys k)) (fun _ i _ => m.keys.length - (intOf i).toNat)
  case atStart => exact ⟨0, Nat.zero_le _, rfl, ST.out⟩
  case round =>
    obtain ⟨k, hk, rfl, hst⟩ := hrel
    have SR := Lib.hid hst
    obtain ⟨o0, o1, o2⟩ := hst.out.cells
    have hol := hst.out.lt
    clear hst
    by_cases hkl' : k < m.keys.length
    · obtain ⟨g, off, hcb, hg1, hg2, hc0⟩ := SR.out.own.keys.row.at_ (k := k) (by rw [M.encIs_len]; show k < (M.repT _ m.keys k).length; rw [M.repT_len]; exact hkl')
      have cx : wr.cell? ⟨g, off + k, none⟩ = some (.int .i64 m.keys[k]) := hc0 _ _ (by show (M.encIs (M.repT _ m.keys k))[k]? = _; unfold M.encIs; rw [List.getElem?_map, M.repT_get hkl']; rfl)
      have fx : wr.frozen? ⟨g, off + k, none⟩ = false := SR.out.own.keys.free hcb (k := k) (by rw [M.encIs_len]; show k < (M.repT _ m.keys k).length; rw [M.repT_len]; exact hkl') _
      clear hc0
      subst hcb
      have hss := SR.out.set hbl hg1 hg2 (k := k) (by rw [M.repT_len]; exact hkl') (M.lessS m.keys[k] t)
      rw [show (M.repT (fun s => M.lessS s t) m.keys k).set k (M.lessS m.keys[k] t) = _ from M.repT_set (f := fun s => M.lessS s t) hkl'] at hss
      have SS := Lib.hid hss
      clear hss
      go_wp2_with fail
      go_roundw
      case rel => exact ⟨k + 1, by omega, by go_num, SS.out⟩
      case measure => simp [intOf]; omega
    · obtain rfl : k = m.keys.length := by omega
      have hyb := SR.out.res
      obtain ⟨k0, k1, k2⟩ := hyb.cells
      obtain ⟨f0, f1, f2⟩ := hyb.free
      obtain ⟨r0, r1, r2⟩ := (hyb.setAll (.int .i64 m.size) (.slice ca m.doors.length cc) (.slice cb m.keys.length cd)).cells
      have hzr := SR.out.out.lt
      go_wp2_with fail
      refine bodyPost_ret (v := .agg #[.int .i64 m.size, .slice ca m.doors.length cc, .slice cb m.keys.length cd]) (by simp [results, Try.results105, go_sem, r0, r1, r2]) rfl ?_
      have hown := SR.out.own
      rw [M.repT_all] at hown
      exact mz_endAt (m := M.noSet m t) SR.out.low hown (.inl hbl) (by omega) (by omega) (by omega) rfl (by simp [M.noSet])
end C
end Go.Proofs.Ytbcobheiofajeaa
