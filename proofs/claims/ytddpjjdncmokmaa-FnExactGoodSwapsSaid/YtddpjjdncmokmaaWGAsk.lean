/-
  CONTRACTS of spec.l3Ask and impl.Maze.goal, and words for what is asked of a valid maze and a set alone, own to these proofs; what lay in memory stays. No condition but that the maze reads so.
  MATHEMATICS of a maze with fewer doors or keys, own to these proofs: one has no more of it at last; a colour that no node has is not had. No condition.
  MATHEMATICS of the sets that win, own to these proofs: a maze of which only the keys of a set are left, that more colours win as well. No condition.
  CONTRACTS of impl.compareSets and of what it calls: bits.OnesCount at numbers below 64, cmp.Compare at ints, cmp.Or at two ints; the world is as it was but for a new list. Condition: sets of colours.
-/
import Derived.Test.YtddpjjdncmokmaaSpecMaze
import Derived.Test.YtddpjjdncmokmaaWEDoorsAt
import Derived.Test.YtddpjjdncmokmaaPutI
import Derived.Deep.RegionHeld3
import Derived.Test.YtddpjjdncmokmaaWBDigitsI
import Derived.Test.YtddpjjdncmokmaaWFPlay
import Derived.Test.YtddpjjdncmokmaaWAMem
import Derived.Sort.Grow
namespace Go.Proofs.Ytddpjjdncmokmaa
open Go.RowKit
namespace M
def askB (m : Mz) (s : Int) : Bool := mazeB m && setB s
theorem ask_yes {m : Mz} {s : Int} (h : askB m s = true) : Valid m ∧ 0 ≤ s ∧ s < 64 := by
  unfold askB at h
  rw [Bool.and_eq_true] at h
  refine ⟨valid_of h.1, ?_⟩
  have := h.2
  unfold setB at this
  exact decide_eq_true_iff.1 this
def ifAsk {α : Type} (m : Mz) (s : Int) (x d : α) : α := if askB m s then x else d
theorem ifAsk_yes {α : Type} {m : Mz} {s : Int} (h : askB m s = true) (x d : α) : ifAsk m s x d = x := by unfold ifAsk; rw [if_pos h]
theorem ifAsk_no {α : Type} {m : Mz} {s : Int} (h : askB m s = false) (x d : α) : ifAsk m s x d = d := by unfold ifAsk; rw [h]; rfl
noncomputable def roundsV (m : Mz) (s : Int) : List Int := ifAsk m s (setsTo m s (lastK m s)) []
noncomputable def gainN (m : Mz) (s : Int) : List Int := ifAsk m s (reachOf m 0 (finC m s)) []
noncomputable def entV (m : Mz) (s : Int) : List Int := ifAsk m s (nodeRounds m s (lastK m s + 1)) []
noncomputable def winR (m : Mz) (s : Int) : Int := (entTo m s (lastK m s + 1) (m.size - 1) : Nat)
noncomputable def canB (m : Mz) (s : Int) : Bool := memB (reachOf m 0 (finC m s)) (m.size - 1)
theorem roundsV_len (m : Mz) (s : Int) : (roundsV m s).length ≤ 1048576 := by
  unfold roundsV ifAsk
  split
  · have := lastK_le m s; rw [setsTo_len]; omega
  · simp
theorem gainN_len (m : Mz) (s : Int) : (gainN m s).length ≤ 1048576 := by
  unfold gainN ifAsk
  split
  · have := rchL_len m.doors (openTo (finC m s)) 0; unfold reachOf; omega
  · simp
theorem entV_len (m : Mz) (s : Int) : (entV m s).length ≤ 1048576 := by
  unfold entV
  cases h : askB m s with
  | false => rw [ifAsk_no h]; simp
  | true => rw [ifAsk_yes h, nodeRounds_len]; have := (ask_yes h).1.size12; omega
theorem win_can {m : Mz} {s : Int} (h : askB m s = true) : decide (0 < winR m s) = canB m s := by
  obtain ⟨V, h0⟩ := ask_yes h
  have hl := ent_last V h0 (m.size - 1)
  unfold canB
  rw [Bool.eq_iff_iff, decide_eq_true_iff]
  unfold memB
  rw [List.contains_iff_mem, ← hl]
  unfold winR
  omega
end M
namespace C
set_option maxHeartbeats 1600000
set_option maxRecDepth 20000
theorem goal_any (w : World) (m : M.Mz) (a b : Option Addr) (c d : Nat) (h1 : 1 ≤ m.size) (h2 : m.size ≤ 12) :
    Calls Try.prog 109 #[.agg #[.int .i64 m.size, .slice a m.doors.length c, .slice b m.keys.length d]] w fun e w' => e = .returned (.int .i64 (m.size - 1)) ∧ Below w.heap.size w w' := by
  go_enter Try.func109, Try.ntmps109
  go_wp2_with fail
  go_ret
  exact ⟨by first | rfl | (simp; omega), below_alloc _ _⟩
end C
end Go.Proofs.Ytddpjjdncmokmaa
namespace Go.Proofs.Ytddpjjdncmokmaa
open Go.RowKit
namespace M
/-- m' has no more than m -/
structure LessM (m' m : Mz) : Prop where
  size : m'.size = m.size
  doors : ∀ d ∈ m'.doors, d ∈ m.doors
  keys : ∀ k : Nat, SubS (m'.keys.getD k 0) (m.keys.getD k 0)
theorem Rch.more {ds ds' : List Dr} {op : Dr → Bool} {x y : Int} (hd : ∀ d ∈ ds, d ∈ ds') (h : Rch ds op x y) : Rch ds' op x y := by
  induction h with
  | refl => exact .refl
  | fwd h1 h2 _ ih => exact .fwd (hd _ h1) h2 ih
  | bwd h1 h2 _ ih => exact .bwd (hd _ h1) h2 ih
theorem less_reach {m' m : Mz} (V' : Valid m') (V : Valid m) (L : LessM m' m) {s t : Int} (hs : 0 ≤ s ∧ s < 64) (ht : 0 ≤ t ∧ t < 64) (h : SubS s t) {y : Int} (hy : y ∈ reachOf m' 0 s) : y ∈ reachOf m 0 t :=
  (mem_reach V t y).2 (Rch.mono (open_more V hs ht h) (Rch.more L.doors ((mem_reach V' s y).1 hy)))
theorem finC_set {m : Mz} (V : Valid m) {s : Int} (h : 0 ≤ s ∧ s < 64) : 0 ≤ finC m s ∧ finC m s < 64 := it_set V h _
theorem finC_fix {m : Mz} (V : Valid m) {s : Int} (h : 0 ≤ s ∧ s < 64) : nextC m (finC m s) = finC m s := (lastK_stop V h).1
theorem finC_from {m : Mz} (V : Valid m) {s : Int} (h : 0 ≤ s ∧ s < 64) : SubS s (finC m s) := by
  have := it_more V h 0 (lastK m s)
  rw [Nat.zero_add] at this
  exact this
theorem it_less {m' m : Mz} (V' : Valid m') (V : Valid m) (L : LessM m' m) {s : Int} (h : 0 ≤ s ∧ s < 64) : ∀ k, SubS (it m' s k) (finC m s)
  | 0 => finC_from V h
  | k + 1 => by
    have hf := finC_set V h
    have hk := it_set V' h k
    refine gath_least V' hf _ _ hk (it_less V' V L h k) fun x hx => ?_
    have hx' := less_reach V' V L hk hf (it_less V' V L h k) hx
    have h1 := gath_key V (reachOf m 0 (finC m s)) (finC m s) hf x hx'
    have h2 : gath m (reachOf m 0 (finC m s)) (finC m s) = finC m s := finC_fix V h
    rw [h2] at h1
    exact (L.keys x.toNat).trans (key_set V' _) (key_set V _) hf h1
theorem finC_less {m' m : Mz} (V' : Valid m') (V : Valid m) (L : LessM m' m) {s : Int} (h : 0 ≤ s ∧ s < 64) : SubS (finC m' s) (finC m s) := it_less V' V L h _
theorem nodes_less {m' m : Mz} (V' : Valid m') (V : Valid m) (L : LessM m' m) {s : Int} (h : 0 ≤ s ∧ s < 64) {y : Int} (hy : y ∈ reachOf m' 0 (finC m' s)) : y ∈ reachOf m 0 (finC m s) :=
  less_reach V' V L (finC_set V' h) (finC_set V h) (finC_less V' V L h) hy
theorem noNode_less (m : Mz) (V : Valid m) (x : Int) : LessM (noNode m x) m := ⟨rfl, fun _ hd => (List.mem_filter.1 hd).1, fun k => SubS.refl (key_set V k)⟩
theorem less_sub_fin : ∀ s t : Fin 64, has2B (s.val : Int) (lessS (s.val : Int) (t.val : Int)) = true := by decide +kernel
theorem less_sub {s t : Int} (hs : 0 ≤ s ∧ s < 64) (ht : 0 ≤ t ∧ t < 64) : SubS (lessS s t) s := by
  have := less_sub_fin ⟨s.toNat, by omega⟩ ⟨t.toNat, by omega⟩
  simp only [Int.toNat_of_nonneg hs.1, Int.toNat_of_nonneg ht.1] at this
  exact this
theorem noSet_key (m : Mz) (t : Int) (k : Nat) (h0 : lessS 0 t = 0) : (noSet m t).keys.getD k 0 = lessS (m.keys.getD k 0) t := by
  unfold noSet
  simp only [List.getD_eq_getElem?_getD, List.getElem?_map]
  cases m.keys[k]? with
  | none => simp [h0]
  | some v => rfl
theorem less0_fin : ∀ t : Fin 64, lessS 0 (t.val : Int) = 0 := by decide +kernel
theorem less0 {t : Int} (ht : 0 ≤ t ∧ t < 64) : lessS 0 t = 0 := by
  have := less0_fin ⟨t.toNat, by omega⟩
  simp only [Int.toNat_of_nonneg ht.1] at this
  exact this
theorem noSet_less {m : Mz} (V : Valid m) {t : Int} (ht : 0 ≤ t ∧ t < 64) : LessM (noSet m t) m := ⟨rfl, fun _ hd => hd, fun k => by rw [noSet_key m t k (less0 ht)]; exact less_sub (key_set V k) ht⟩
theorem noKeys_key (m : Mz) (x k : Nat) : (noKeys m x).keys.getD k 0 = if k = x then 0 else m.keys.getD k 0 := by
  unfold noKeys
  simp only [List.getD_eq_getElem?_getD, List.getElem?_set]
  by_cases e : x = k
  · subst e
    rw [if_pos rfl, if_pos rfl]
    split <;> rfl
  · rw [if_neg e, if_neg (fun e2 => e e2.symm)]
theorem sub0_fin : ∀ s : Fin 64, has2B (s.val : Int) 0 = true := by decide +kernel
theorem noKeys_less {m : Mz} (V : Valid m) (x : Nat) : LessM (noKeys m x) m := ⟨rfl, fun _ hd => hd, fun k => by
  rw [noKeys_key]
  split
  · have hk := key_set V k
    have := sub0_fin ⟨(m.keys.getD k 0).toNat, by omega⟩
    simp only [Int.toNat_of_nonneg hk.1] at this
    exact this
  · exact SubS.refl (key_set V k)⟩
/-- a colour that is nowhere is not had -/
def NoBit (c : Int) (s : Int) : Prop := bits .and .i64 s c = 0
theorem or_and_fin : ∀ s t : Fin 64, ∀ c : Fin 6, bits .and .i64 (s.val : Int) ((2 ^ c.val : Nat) : Int) = 0 → bits .and .i64 (t.val : Int) ((2 ^ c.val : Nat) : Int) = 0 → bits .and .i64 (bits .or .i64 (s.val : Int) (t.val : Int)) ((2 ^ c.val : Nat) : Int) = 0 := by
  intro s t c h1 h2
  have hp : 2 ^ c.val < 64 := by
    have : c.val < 6 := c.isLt
    rcases c with ⟨c, hc⟩
    simp only
    match c, hc with
    | 0, _ => decide
    | 1, _ => decide
    | 2, _ => decide
    | 3, _ => decide
    | 4, _ => decide
    | 5, _ => decide
  have ho := or_set (s := (s.val : Int)) (t := (t.val : Int)) (by omega) (by omega) (by omega) (by omega)
  rw [and_nat s.isLt hp] at h1
  rw [and_nat t.isLt hp] at h2
  rw [or_nat s.isLt t.isLt] at ho ⊢
  rw [and_nat (by omega) hp, Nat.and_or_distrib_right]
  have e1 : s.val &&& 2 ^ c.val = 0 := by omega
  have e2 : t.val &&& 2 ^ c.val = 0 := by omega
  rw [e1, e2]
  rfl
theorem NoBit.or {c : Nat} (hc : c < 6) {s t : Int} (hs : 0 ≤ s ∧ s < 64) (ht : 0 ≤ t ∧ t < 64) (h1 : NoBit ((2 ^ c : Nat) : Int) s) (h2 : NoBit ((2 ^ c : Nat) : Int) t) : NoBit ((2 ^ c : Nat) : Int) (bits .or .i64 s t) := by
  unfold NoBit at *
  have := or_and_fin ⟨s.toNat, by omega⟩ ⟨t.toNat, by omega⟩ ⟨c, hc⟩
  simp only [Int.toNat_of_nonneg hs.1, Int.toNat_of_nonneg ht.1] at this
  exact this h1 h2
theorem gath_no {m : Mz} (V : Valid m) {c : Nat} (hc : c < 6) (hk : ∀ k : Nat, NoBit ((2 ^ c : Nat) : Int) (m.keys.getD k 0)) : ∀ (l : List Int) (s : Int), 0 ≤ s ∧ s < 64 → NoBit ((2 ^ c : Nat) : Int) s → NoBit ((2 ^ c : Nat) : Int) (gath m l s)
  | [], _, _, h => h
  | _ :: l, _, hs, h => gath_no V hc hk l _ (or_set hs.1 hs.2 (key_set V _).1 (key_set V _).2) (NoBit.or hc hs (key_set V _) h (hk _))
theorem finC_no {m : Mz} (V : Valid m) {c : Nat} (hc : c < 6) (hk : ∀ k : Nat, NoBit ((2 ^ c : Nat) : Int) (m.keys.getD k 0)) : NoBit ((2 ^ c : Nat) : Int) (finC m 0) := by
  have h0 : (0 : Int) ≤ 0 ∧ (0 : Int) < 64 := by decide
  have : ∀ k, NoBit ((2 ^ c : Nat) : Int) (it m 0 k) := fun k => by
    induction k with
    | zero =>
      show bits .and .i64 0 ((2 ^ c : Nat) : Int) = 0
      match c, hc with
      | 0, _ => decide
      | 1, _ => decide
      | 2, _ => decide
      | 3, _ => decide
      | 4, _ => decide
      | 5, _ => decide
    | succ k ih => exact gath_no V hc hk _ _ (it_set V h0 k) ih
  exact this _
end M
end Go.Proofs.Ytddpjjdncmokmaa
namespace Go.Proofs.Ytddpjjdncmokmaa
open Go.RowKit
namespace M
/-- the maze with the keys of a set alone -/
def onlyS (m : Mz) (s : Int) : Mz := ⟨m.size, m.doors, m.keys.map fun k => bits .and .i64 k s⟩
def notS (s : Int) : Int := lessS 63 s
theorem notS_fin : ∀ s : Fin 64, notS (s.val : Int) = ((63 - s.val : Nat) : Int) := by decide +kernel
theorem notS_eq {s : Int} (hs : 0 ≤ s ∧ s < 64) : notS s = 63 - s := by
  have := notS_fin ⟨s.toNat, by omega⟩
  simp only [Int.toNat_of_nonneg hs.1] at this
  omega
theorem only_fin : ∀ k s : Fin 64, lessS (k.val : Int) (notS (s.val : Int)) = bits .and .i64 (k.val : Int) (s.val : Int) := by decide +kernel
theorem only_less {k s : Int} (hk : 0 ≤ k ∧ k < 64) (hs : 0 ≤ s ∧ s < 64) : lessS k (notS s) = bits .and .i64 k s := by
  have := only_fin ⟨k.toNat, by omega⟩ ⟨s.toNat, by omega⟩
  simp only [Int.toNat_of_nonneg hk.1, Int.toNat_of_nonneg hs.1] at this
  exact this
theorem noSet_only {m : Mz} (V : Valid m) {s : Int} (hs : 0 ≤ s ∧ s < 64) : noSet m (notS s) = onlyS m s := by
  unfold noSet onlyS
  congr 1
  exact List.map_congr_left fun k hk => only_less (V.keyB hk) hs
theorem only_valid {m : Mz} (V : Valid m) {s : Int} (hs : 0 ≤ s ∧ s < 64) : Valid (onlyS m s) := by
  rw [← noSet_only V hs]
  have := notS_eq hs
  exact noSet_valid V (by omega) (by omega)
theorem andSub_fin : ∀ k s t : Fin 64, subF s t = true → has2B (bits .and .i64 (k.val : Int) (t.val : Int)) (bits .and .i64 (k.val : Int) (s.val : Int)) = true := by
  intro k s t h
  unfold subF at h
  rw [beq_iff_eq] at h
  rw [and_nat k.isLt s.isLt, and_nat k.isLt t.isLt]
  have h1 : k.val &&& s.val < 64 := Nat.lt_of_le_of_lt Nat.and_le_left k.isLt
  have h2 : k.val &&& t.val < 64 := Nat.lt_of_le_of_lt Nat.and_le_left k.isLt
  have := (sub_nat h1 h2).2 (by
    refine Nat.eq_of_testBit_eq fun p => ?_
    have hp := congrArg (fun x => Nat.testBit x p) h
    simp only [Nat.testBit_and] at hp ⊢
    cases hk : k.val.testBit p <;> cases h3 : s.val.testBit p <;> cases h4 : t.val.testBit p <;> simp_all)
  exact this
theorem only_key (m : Mz) (s : Int) (h0 : bits .and .i64 0 s = 0) (k : Nat) : (onlyS m s).keys.getD k 0 = bits .and .i64 (m.keys.getD k 0) s := by
  unfold onlyS
  simp only [List.getD_eq_getElem?_getD, List.getElem?_map]
  cases m.keys[k]? with
  | none => simp [h0]
  | some v => rfl
theorem and0_fin : ∀ t : Fin 64, bits .and .i64 0 (t.val : Int) = 0 := by decide +kernel
theorem only_more {m : Mz} (V : Valid m) {s t : St6} (h : subF s t = true) : LessM (onlyS m (s.val : Int)) (onlyS m (t.val : Int)) :=
  ⟨rfl, fun _ hd => hd, fun k => by
    rw [only_key _ _ (and0_fin s), only_key _ _ (and0_fin t)]
    have hk := key_set V k
    have := andSub_fin ⟨(m.keys.getD k 0).toNat, by omega⟩ s t h
    simp only [Int.toNat_of_nonneg hk.1] at this
    exact this⟩
/-- whether a set wins -/
noncomputable def wB (m : Mz) (s : Int) : Bool := canB (onlyS m s) 0
noncomputable def wF (m : Mz) (s : St6) : Bool := wB m (s.val : Int)
theorem set6 (s : St6) : (0 : Int) ≤ (s.val : Int) ∧ (s.val : Int) < 64 := by omega
theorem wF_more {m : Mz} (V : Valid m) (s t : St6) (h : subF s t = true) (hw : wF m s = true) : wF m t = true := by
  unfold wF wB canB memB at *
  rw [List.contains_iff_mem] at *
  exact nodes_less (only_valid V (set6 s)) (only_valid V (set6 t)) (only_more V h) ⟨Int.le_refl _, by decide⟩ hw
/-- all colours but those of a set -/
def notF (s : St6) : St6 := ⟨63 - s.val, by omega⟩
theorem notF_val (s : St6) : ((notF s).val : Int) = 63 - (s.val : Int) := by show ((63 - s.val : Nat) : Int) = _; omega
theorem notF_sub : ∀ s t : St6, subF s t = true → subF (notF t) (notF s) = true := by decide +kernel
/-- whether a set bars -/
noncomputable def bF (m : Mz) (s : St6) : Bool := !wF m (notF s)
theorem bF_more {m : Mz} (V : Valid m) (s t : St6) (h : subF s t = true) (hw : bF m s = true) : bF m t = true := by
  unfold bF at *
  cases hc : wF m (notF t) with
  | false => rfl
  | true =>
    rw [wF_more V _ _ (notF_sub s t h) hc] at hw
    cases hw
/-- a list of sets, as numbers -/
def intsF (l : List St6) : List Int := l.map fun a => (a.val : Int)
theorem intsF_len (l : List St6) : (intsF l).length = l.length := by unfold intsF; rw [List.length_map]
theorem intsF_snoc (l : List St6) (a : St6) : intsF (l ++ [a]) = intsF l ++ [(a.val : Int)] := by unfold intsF; rw [List.map_append]; rfl
theorem intsF_at {l : List St6} {k : Nat} (h : k < l.length) : (intsF l)[k]'(by rw [intsF_len]; exact h) = ((l[k]).val : Int) := by unfold intsF; rw [List.getElem_map]
theorem mem_intsF {l : List St6} {x : Int} (h : x ∈ intsF l) : 0 ≤ x ∧ x < 64 := by
  unfold intsF at h
  obtain ⟨a, _, rfl⟩ := List.mem_map.1 h
  exact set6 a
theorem intsF_inj {a b : List St6} (h : intsF a = intsF b) : a = b := by
  unfold intsF at h
  exact List.map_inj_right (fun x y e => Fin.ext (by omega)) |>.1 h
/-- a list of sets, taken from numbers -/
def setsOf (l : List Int) : List St6 := l.map fun z => ⟨z.toNat % 64, Nat.mod_lt _ (by decide)⟩
theorem setsOf_len (l : List Int) : (setsOf l).length = l.length := by unfold setsOf; rw [List.length_map]
theorem intsF_setsOf {l : List Int} (h : ∀ z ∈ l, 0 ≤ z ∧ z < 64) : intsF (setsOf l) = l := by
  unfold intsF setsOf
  rw [List.map_map]
  conv => rhs; rw [← List.map_id l]
  refine List.map_congr_left fun z hz => ?_
  have := h z hz
  show ((z.toNat % 64 : Nat) : Int) = z
  omega
/-- the sets below k of a kind -/
def selTo (P : St6 → Bool) (k : Nat) : List St6 := (allN.take k).filter P
  where allN : List St6 := List.finRange 64
theorem selTo_zero (P : St6 → Bool) : selTo P 0 = [] := by unfold selTo; simp
theorem selTo_at {k : Nat} (h : k < 64) : selTo.allN[k]'(by unfold selTo.allN; rw [List.length_finRange]; exact h) = ⟨k, h⟩ := by unfold selTo.allN; rw [List.getElem_finRange]; rfl
theorem selTo_yes {P : St6 → Bool} {k : Nat} (h : k < 64) (hp : P ⟨k, h⟩ = true) : selTo P (k + 1) = selTo P k ++ [⟨k, h⟩] := by
  unfold selTo
  rw [List.take_succ_eq_append_getElem (by unfold selTo.allN; rw [List.length_finRange]; exact h), List.filter_append, selTo_at h, List.filter_cons_of_pos hp]
  rfl
theorem selTo_no {P : St6 → Bool} {k : Nat} (h : k < 64) (hp : P ⟨k, h⟩ = false) : selTo P (k + 1) = selTo P k := by
  unfold selTo
  rw [List.take_succ_eq_append_getElem (by unfold selTo.allN; rw [List.length_finRange]; exact h), List.filter_append, selTo_at h, List.filter_cons_of_neg (by rw [hp]; decide), List.filter_nil, List.append_nil]
theorem selTo_len (P : St6 → Bool) (k : Nat) : (selTo P k).length ≤ k := by
  unfold selTo
  have := List.length_filter_le P (selTo.allN.take k)
  rw [List.length_take] at this
  omega
def selF (P : St6 → Bool) : List St6 := selTo P 64
theorem mem_selF {P : St6 → Bool} {a : St6} : a ∈ selF P ↔ P a = true := by
  unfold selF selTo selTo.allN
  rw [List.take_of_length_le (by rw [List.length_finRange]; exact Nat.le_refl _), List.mem_filter]
  exact ⟨fun h => h.2, fun h => ⟨List.mem_finRange a, h⟩⟩
end M
end Go.Proofs.Ytddpjjdncmokmaa
namespace Go.Proofs.Ytddpjjdncmokmaa
open Go.RowKit
namespace M

def cmpS (a b : St6) : Int := if cmpI (cnt a) (cnt b) = 0 then cmpI a.val b.val else cmpI (cnt a) (cnt b)
theorem cmpS_lt (a b : St6) : decide (cmpS a b < 0) = ltS a b := by
  unfold cmpS cmpI ltS
  rw [Bool.eq_iff_iff, decide_eq_true_iff, decide_eq_true_iff]
  split <;> split <;> (try split) <;> (try split) <;> omega
end M
namespace C
set_option maxHeartbeats 1600000
set_option maxRecDepth 20000
theorem isNaN_any (x : Int) (w : World) : Calls Try.prog 157 #[.int .i64 x] w fun e w' => e = .returned (.bool false) ∧ w = w' := by
  go_enter Try.func157, Try.ntmps157
  go_wp2_with fail
  go_ret
  exact ⟨by simp, rfl⟩
theorem compareI_any (x y : Int) (w : World) : Calls Try.prog 144 #[.int .i64 x, .int .i64 y] w fun e w' => e = .returned (.int .i64 (M.cmpI x y)) ∧ w = w' := by
  rcases Int.lt_trichotomy x y with h | h | h
  · have e : M.cmpI x y = -1 := by unfold M.cmpI; rw [if_pos h]
    rw [e]
    clear e
    go_enter Try.func144, Try.ntmps144
    go_wp2_with (go_at_call 157; refine (isNaN_any _ _).mono ?_; rintro e w1 ⟨rfl, rfl⟩)
    go_ret
    exact ⟨rfl, rfl⟩
  · subst h
    have e : M.cmpI x x = 0 := by unfold M.cmpI; rw [if_neg (by omega), if_neg (by omega)]
    rw [e]
    clear e
    go_enter Try.func144, Try.ntmps144
    go_wp2_with (go_at_call 157; refine (isNaN_any _ _).mono ?_; rintro e w1 ⟨rfl, rfl⟩)
    go_ret
    exact ⟨rfl, rfl⟩
  · have e : M.cmpI x y = 1 := by unfold M.cmpI; rw [if_neg (by omega), if_pos h]
    have h2 : ¬ x < y := by omega
    rw [e]
    clear e
    go_enter Try.func144, Try.ntmps144
    go_wp2_with (go_at_call 157; refine (isNaN_any _ _).mono ?_; rintro e w1 ⟨rfl, rfl⟩)
    go_ret
    exact ⟨rfl, rfl⟩
theorem ones64_any (n : M.St6) (w : World) : Calls Try.prog 127 #[.int .u64 (n.val : Int)] w fun e w' => e = .returned (.int .i64 (M.cnt n : Nat)) ∧ w = w' := by
  go_enter Try.func127, Try.ntmps127
  go_wp2_with fail
  go_ret
  refine ⟨congrArg (fun z => Ending.returned (Value.int .i64 z)) ?_, rfl⟩
  clear w
  revert n
  decide +kernel
theorem ones_any (n : M.St6) (w : World) : Calls Try.prog 103 #[.int .u64 (n.val : Int)] w fun e w' => e = .returned (.int .i64 (M.cnt n : Nat)) ∧ w = w' := by
  go_enter Try.func103, Try.ntmps103
  go_wp2_with fail
  refine (ones64_any _ _).mono ?_
  rintro e w1 ⟨rfl, rfl⟩
  go_wp2_with fail
  go_ret
  exact ⟨rfl, rfl⟩
end C
end Go.Proofs.Ytddpjjdncmokmaa
