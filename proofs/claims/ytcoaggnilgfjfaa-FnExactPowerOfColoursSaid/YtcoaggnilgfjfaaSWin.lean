/-
  MATHEMATICS of mazes without a part, own to these proofs: without the doors at a node, without a colour, without the keys at a node: a valid maze stays one. No condition.
  MATHEMATICS of a maze with fewer doors or keys, own to these proofs: one has no more of it at last; a colour that no node has is not had. No condition.
  MATHEMATICS of clutters, own to these proofs: the least ones of some sets of colours, as the program keeps them of a sorted list and as the model picks them. No condition.
  MATHEMATICS of the sets that win, own to these proofs: a maze of which only the keys of a set are left, that more colours win as well. No condition.
  CONTRACT of impl.Maze.withoutColours: the maze without the keys of the colours of a set, in memory of its own; what lay in memory stays. No condition but that the maze reads so.
  CONTRACTS of impl.Maze.wins, impl.Maze.bars and impl.setsWith: whether a set wins or bars; the sets of which a test is true, in ascending order, in memory of the call's own; what lay in memory stays. Condition: a valid maze, a set of colours; a test that answers and leaves memory as it is.
  CONTRACTS of spec.l6Wins and spec.l6Bars: for each set whether it wins or bars, in a new list; what lay in memory stays. Condition: a valid maze that reads so.
  MATHEMATICS: a set of colours told by a number, own to these proofs. No condition.
-/
import Derived.Test.YtcoaggnilgfjfaaSBase
import Derived.Test.YtcoaggnilgfjfaaSReach
import Derived.Test.YtcoaggnilgfjfaaSOwn
import Derived.Test.YtcoaggnilgfjfaaSValid
import Derived.Deep.RegionHeld3
import Derived.Test.YtcoaggnilgfjfaaSP3
import Derived.Test.YtcoaggnilgfjfaaSRnd
namespace Go.Proofs.Ytcoaggnilgfjfaa
open Go.RowKit
namespace M
theorem Valid.doorB {m : Mz} (V : Valid m) {d : Dr} (h : d ∈ m.doors) : 0 ≤ d.1 ∧ d.1 < m.size ∧ 0 ≤ d.2.1 ∧ d.2.1 < m.size ∧ d.1 < d.2.1 ∧ 0 ≤ d.2.2 ∧ d.2.2 < 64 := by
  obtain ⟨k, hk, rfl⟩ := List.mem_iff_getElem.1 h
  exact V.door k hk
theorem Valid.keyB {m : Mz} (V : Valid m) {s : Int} (h : s ∈ m.keys) : 0 ≤ s ∧ s < 64 := by
  obtain ⟨k, hk, rfl⟩ := List.mem_iff_getElem.1 h
  exact V.key k hk
/-- a maze of some of the doors, in their order, and other keys -/
theorem Valid.part {m : Mz} (V : Valid m) {ds : List Dr} {ks : List Int} (h1 : ds.Sublist m.doors) (h2 : ks.length = m.keys.length) (h3 : ∀ s ∈ ks, 0 ≤ s ∧ s < 64) : Valid ⟨m.size, ds, ks⟩ where
  size1 := V.size1
  size12 := V.size12
  few := Nat.le_trans h1.length_le V.few
  keysLen := by show ((ks.length : Nat) : Int) = m.size; rw [h2]; exact V.keysLen
  door := fun _ hk => V.doorB (h1.subset (List.getElem_mem hk))
  sorted := (show Asc ltD ds from List.Pairwise.sublist h1 V.asc).sorted
  key := fun _ hk => h3 _ (List.getElem_mem hk)
def atB (d : Dr) (x : Int) : Bool := decide (d.1 = x ∨ d.2.1 = x)
def noNode (m : Mz) (x : Int) : Mz := ⟨m.size, m.doors.filter fun d => !atB d x, m.keys⟩
theorem noNode_valid {m : Mz} (V : Valid m) (x : Int) : Valid (noNode m x) := V.part List.filter_sublist rfl fun _ h => V.keyB h
def lessS (s : Int) (t : Int) : Int := bits .andNot .i64 s t
theorem less_fin : ∀ s t : Fin 64, 0 ≤ lessS (s.val : Int) (t.val : Int) ∧ lessS (s.val : Int) (t.val : Int) < 64 := by decide +kernel
theorem less_set {s t : Int} (h0 : 0 ≤ s) (h1 : s < 64) (h2 : 0 ≤ t) (h3 : t < 64) : 0 ≤ lessS s t ∧ lessS s t < 64 := by
  have := less_fin ⟨s.toNat, by omega⟩ ⟨t.toNat, by omega⟩
  simp only at this
  rwa [Int.toNat_of_nonneg h0, Int.toNat_of_nonneg h2] at this
def noSet (m : Mz) (t : Int) : Mz := ⟨m.size, m.doors, m.keys.map fun s => lessS s t⟩
theorem noSet_valid {m : Mz} (V : Valid m) {t : Int} (h2 : 0 ≤ t) (h3 : t < 64) : Valid (noSet m t) := V.part (List.Sublist.refl _) (by simp) fun s h => by
  obtain ⟨u, hu, rfl⟩ := List.mem_map.1 h
  have := V.keyB hu
  exact less_set this.1 this.2 h2 h3
def noKeys (m : Mz) (x : Nat) : Mz := ⟨m.size, m.doors, m.keys.set x 0⟩
theorem noKeys_valid {m : Mz} (V : Valid m) (x : Nat) : Valid (noKeys m x) := V.part (List.Sublist.refl _) (by simp) fun s h => by
  rcases List.mem_or_eq_of_mem_set h with h | rfl
  · exact V.keyB h
  · exact ⟨by decide, by decide⟩
def noDoor (m : Mz) (k : Nat) : Mz := ⟨m.size, m.doors.take k ++ m.doors.drop (k + 1), m.keys⟩
theorem noDoor_valid {m : Mz} (V : Valid m) (k : Nat) : Valid (noDoor m k) := V.part (by rw [← List.eraseIdx_eq_take_drop_succ]; exact List.eraseIdx_sublist ..) rfl fun _ h => V.keyB h
/-- the first k doors without those at a node -/
theorem noNode_take_yes {l : List Dr} {x : Int} {k : Nat} (hk : k < l.length) (h : atB l[k] x = false) : (l.take (k + 1)).filter (fun d => !atB d x) = (l.take k).filter (fun d => !atB d x) ++ [l[k]] := by
  rw [List.take_succ_eq_append_getElem hk, List.filter_append, List.filter_cons_of_pos (p := fun d => !atB d x) (by show (!atB l[k] x) = true; rw [h]; rfl)]
  rfl
theorem noNode_take_no {l : List Dr} {x : Int} {k : Nat} (hk : k < l.length) (h : atB l[k] x = true) : (l.take (k + 1)).filter (fun d => !atB d x) = (l.take k).filter (fun d => !atB d x) := by
  rw [List.take_succ_eq_append_getElem hk, List.filter_append, List.filter_cons_of_neg (p := fun d => !atB d x) (by show ¬ (!atB l[k] x) = true; rw [h]; decide)]
  simp
end M
end Go.Proofs.Ytcoaggnilgfjfaa
namespace Go.Proofs.Ytcoaggnilgfjfaa
open Go.RowKit
namespace M
/-- m' has no more than m -/
structure LessM (m' m : Mz) : Prop where
  size : m'.size = m.size
  doors : ∀ d ∈ m'.doors, d ∈ m.doors
  keys : ∀ k : Nat, SubS (m'.keys.getD k 0) (m.keys.getD k 0)
theorem Rch.more {ds ds' : List Dr} {op : Dr → Bool} {x y : Int} (hd : ∀ d ∈ ds, d ∈ ds') (h : Rch ds op x y) : Rch ds' op x y := by
  induction h with
  | refl => exact .refl
  | fwd h1 h2 _ ih => exact .fwd (hd _ h1) h2 ih
  | bwd h1 h2 _ ih => exact .bwd (hd _ h1) h2 ih
theorem less_reach {m' m : Mz} (V' : Valid m') (V : Valid m) (L : LessM m' m) {s t : Int} (hs : 0 ≤ s ∧ s < 64) (ht : 0 ≤ t ∧ t < 64) (h : SubS s t) {y : Int} (hy : y ∈ reachOf m' 0 s) : y ∈ reachOf m 0 t :=
  (mem_reach V t y).2 (Rch.mono (open_more V hs ht h) (Rch.more L.doors ((mem_reach V' s y).1 hy)))
theorem finC_set {m : Mz} (V : Valid m) {s : Int} (h : 0 ≤ s ∧ s < 64) : 0 ≤ finC m s ∧ finC m s < 64 := it_set V h _
theorem finC_fix {m : Mz} (V : Valid m) {s : Int} (h : 0 ≤ s ∧ s < 64) : nextC m (finC m s) = finC m s := (lastK_stop V h).1
theorem finC_from {m : Mz} (V : Valid m) {s : Int} (h : 0 ≤ s ∧ s < 64) : SubS s (finC m s) := by
  have := it_more V h 0 (lastK m s)
  rw [Nat.zero_add] at this
  exact this
theorem it_less {m' m : Mz} (V' : Valid m') (V : Valid m) (L : LessM m' m) {s : Int} (h : 0 ≤ s ∧ s < 64) : ∀ k, SubS (it m' s k) (finC m s)
  | 0 => finC_from V h
  | k + 1 => by
    have hf := finC_set V h
    have hk := it_set V' h k
    refine gath_least V' hf _ _ hk (it_less V' V L h k) fun x hx => ?_
    have hx' := less_reach V' V L hk hf (it_less V' V L h k) hx
    have h1 := gath_key V (reachOf m 0 (finC m s)) (finC m s) hf x hx'
    have h2 : gath m (reachOf m 0 (finC m s)) (finC m s) = finC m s := finC_fix V h
    rw [h2] at h1
    exact (L.keys x.toNat).trans (key_set V' _) (key_set V _) hf h1
theorem finC_less {m' m : Mz} (V' : Valid m') (V : Valid m) (L : LessM m' m) {s : Int} (h : 0 ≤ s ∧ s < 64) : SubS (finC m' s) (finC m s) := it_less V' V L h _
theorem nodes_less {m' m : Mz} (V' : Valid m') (V : Valid m) (L : LessM m' m) {s : Int} (h : 0 ≤ s ∧ s < 64) {y : Int} (hy : y ∈ reachOf m' 0 (finC m' s)) : y ∈ reachOf m 0 (finC m s) :=
  less_reach V' V L (finC_set V' h) (finC_set V h) (finC_less V' V L h) hy
theorem noNode_less (m : Mz) (V : Valid m) (x : Int) : LessM (noNode m x) m := ⟨rfl, fun _ hd => (List.mem_filter.1 hd).1, fun k => SubS.refl (key_set V k)⟩
theorem less_sub_fin : ∀ s t : Fin 64, has2B (s.val : Int) (lessS (s.val : Int) (t.val : Int)) = true := by decide +kernel
theorem less_sub {s t : Int} (hs : 0 ≤ s ∧ s < 64) (ht : 0 ≤ t ∧ t < 64) : SubS (lessS s t) s := by
  have := less_sub_fin ⟨s.toNat, by omega⟩ ⟨t.toNat, by omega⟩
  simp only [Int.toNat_of_nonneg hs.1, Int.toNat_of_nonneg ht.1] at this
  exact this
theorem noSet_key (m : Mz) (t : Int) (k : Nat) (h0 : lessS 0 t = 0) : (noSet m t).keys.getD k 0 = lessS (m.keys.getD k 0) t := by
  unfold noSet
  simp only [List.getD_eq_getElem?_getD, List.getElem?_map]
  cases m.keys[k]? with
  | none => simp [h0]
  | some v => rfl
theorem less0_fin : ∀ t : Fin 64, lessS 0 (t.val : Int) = 0 := by decide +kernel
theorem less0 {t : Int} (ht : 0 ≤ t ∧ t < 64) : lessS 0 t = 0 := by
  have := less0_fin ⟨t.toNat, by omega⟩
  simp only [Int.toNat_of_nonneg ht.1] at this
  exact this
theorem noSet_less {m : Mz} (V : Valid m) {t : Int} (ht : 0 ≤ t ∧ t < 64) : LessM (noSet m t) m := ⟨rfl, fun _ hd => hd, fun k => by rw [noSet_key m t k (less0 ht)]; exact less_sub (key_set V k) ht⟩
theorem noKeys_key (m : Mz) (x k : Nat) : (noKeys m x).keys.getD k 0 = if k = x then 0 else m.keys.getD k 0 := by
  unfold noKeys
  simp only [List.getD_eq_getElem?_getD, List.getElem?_set]
  by_cases e : x = k
  · subst e
    rw [if_pos rfl, if_pos rfl]
    split <;> rfl
  · rw [if_neg e, if_neg (fun e2 => e e2.symm)]
theorem sub0_fin : ∀ s : Fin 64, has2B (s.val : Int) 0 = true := by decide +kernel
theorem noKeys_less {m : Mz} (V : Valid m) (x : Nat) : LessM (noKeys m x) m := ⟨rfl, fun _ hd => hd, fun k => by
  rw [noKeys_key]
  split
  · have hk := key_set V k
    have := sub0_fin ⟨(m.keys.getD k 0).toNat, by omega⟩
    simp only [Int.toNat_of_nonneg hk.1] at this
    exact this
  · exact SubS.refl (key_set V k)⟩
/-- a colour that is nowhere is not had -/
def NoBit (c : Int) (s : Int) : Prop := bits .and .i64 s c = 0
theorem or_and_fin : ∀ s t : Fin 64, ∀ c : Fin 6, bits .and .i64 (s.val : Int) ((2 ^ c.val : Nat) : Int) = 0 → bits .and .i64 (t.val : Int) ((2 ^ c.val : Nat) : Int) = 0 → bits .and .i64 (bits .or .i64 (s.val : Int) (t.val : Int)) ((2 ^ c.val : Nat) : Int) = 0 := by
  intro s t c h1 h2
  have hp : 2 ^ c.val < 64 := by
    have : c.val < 6 := c.isLt
    rcases c with ⟨c, hc⟩
    simp only
    match c, hc with
    | 0, _ => decide
    | 1, _ => decide
    | 2, _ => decide
    | 3, _ => decide
    | 4, _ => decide
    | 5, _ => decide
  have ho := or_set (s := (s.val : Int)) (t := (t.val : Int)) (by omega) (by omega) (by omega) (by omega)
  rw [and_nat s.isLt hp] at h1
  rw [and_nat t.isLt hp] at h2
  rw [or_nat s.isLt t.isLt] at ho ⊢
  rw [and_nat (by omega) hp, Nat.and_or_distrib_right]
  have e1 : s.val &&& 2 ^ c.val = 0 := by omega
  have e2 : t.val &&& 2 ^ c.val = 0 := by omega
  rw [e1, e2]
  rfl
theorem NoBit.or {c : Nat} (hc : c < 6) {s t : Int} (hs : 0 ≤ s ∧ s < 64) (ht : 0 ≤ t ∧ t < 64) (h1 : NoBit ((2 ^ c : Nat) : Int) s) (h2 : NoBit ((2 ^ c : Nat) : Int) t) : NoBit ((2 ^ c : Nat) : Int) (bits .or .i64 s t) := by
  unfold NoBit at *
  have := or_and_fin ⟨s.toNat, by omega⟩ ⟨t.toNat, by omega⟩ ⟨c, hc⟩
  simp only [Int.toNat_of_nonneg hs.1, Int.toNat_of_nonneg ht.1] at this
  exact this h1 h2
theorem gath_no {m : Mz} (V : Valid m) {c : Nat} (hc : c < 6) (hk : ∀ k : Nat, NoBit ((2 ^ c : Nat) : Int) (m.keys.getD k 0)) : ∀ (l : List Int) (s : Int), 0 ≤ s ∧ s < 64 → NoBit ((2 ^ c : Nat) : Int) s → NoBit ((2 ^ c : Nat) : Int) (gath m l s)
  | [], _, _, h => h
  | _ :: l, _, hs, h => gath_no V hc hk l _ (or_set hs.1 hs.2 (key_set V _).1 (key_set V _).2) (NoBit.or hc hs (key_set V _) h (hk _))
theorem finC_no {m : Mz} (V : Valid m) {c : Nat} (hc : c < 6) (hk : ∀ k : Nat, NoBit ((2 ^ c : Nat) : Int) (m.keys.getD k 0)) : NoBit ((2 ^ c : Nat) : Int) (finC m 0) := by
  have h0 : (0 : Int) ≤ 0 ∧ (0 : Int) < 64 := by decide
  have : ∀ k, NoBit ((2 ^ c : Nat) : Int) (it m 0 k) := fun k => by
    induction k with
    | zero =>
      show bits .and .i64 0 ((2 ^ c : Nat) : Int) = 0
      match c, hc with
      | 0, _ => decide
      | 1, _ => decide
      | 2, _ => decide
      | 3, _ => decide
      | 4, _ => decide
      | 5, _ => decide
    | succ k ih => exact gath_no V hc hk _ _ (it_set V h0 k) ih
  exact this _
end M
end Go.Proofs.Ytcoaggnilgfjfaa
namespace Go.Proofs.Ytcoaggnilgfjfaa
open Go.RowKit
namespace M
-- sets of colours
abbrev St6 := Fin 64
def cnt (a : St6) : Nat := (List.range 6).countP fun c => a.val.testBit c
def subF (a b : St6) : Bool := b.val &&& a.val == a.val
def ltS (a b : St6) : Bool := decide (cnt a < cnt b ∨ cnt a = cnt b ∧ a.val < b.val)
theorem subF_refl (a : St6) : subF a a = true := by unfold subF; rw [Nat.and_self, beq_self_eq_true]
theorem subF_trans {a b c : St6} (h1 : subF a b = true) (h2 : subF b c = true) : subF a c = true := by
  unfold subF at *
  rw [beq_iff_eq] at *
  rw [← h1, ← Nat.and_assoc, h2]
theorem subF_antisymm {a b : St6} (h1 : subF a b = true) (h2 : subF b a = true) : a = b := by
  unfold subF at *
  rw [beq_iff_eq] at *
  exact Fin.ext (by rw [← h1, Nat.and_comm, h2])
theorem sub_lt_fin : ∀ a b : St6, subF a b = true → a = b ∨ ltS a b = true := by decide +kernel
theorem ordS : Ord ltS := ⟨fun a => by simp [ltS], fun h1 h2 => by unfold ltS at *; simp only [decide_eq_true_eq] at *; omega, fun h1 h2 => by
  unfold ltS at *; simp only [decide_eq_false_iff_not] at *; exact Fin.ext (by omega)⟩
/-- the least ones of some sets -/
def Least (P : St6 → Prop) (s : St6) : Prop := P s ∧ ∀ t, P t → subF t s = true → t = s
theorem snoc_ind {α : Type} {p : List α → Prop} (h0 : p []) (h1 : ∀ l x, p l → p (l ++ [x])) (l : List α) : p l := by
  have : ∀ r : List α, p r.reverse := fun r => by
    induction r with
    | nil => exact h0
    | cons x r ih => rw [List.reverse_cons]; exact h1 _ _ ih
  have h := this l.reverse
  rwa [List.reverse_reverse] at h
/-- what the program keeps of a sorted list -/
def keep1 (cl : List St6) (s : St6) : List St6 := if cl.any (fun t => subF t s) then cl else cl ++ [s]
def keepAll (l : List St6) : List St6 := l.foldl keep1 []
theorem keepAll_snoc (l : List St6) (s : St6) : keepAll (l ++ [s]) = keep1 (keepAll l) s := by unfold keepAll; rw [List.foldl_append]; rfl
theorem keepAll_take {l : List St6} {k : Nat} (h : k < l.length) : keepAll (l.take (k + 1)) = keep1 (keepAll (l.take k)) l[k] := by rw [List.take_succ_eq_append_getElem h, keepAll_snoc]
structure KeepOk (l cl : List St6) : Prop where
  asc : Asc ltS cl
  mem : ∀ x ∈ cl, x ∈ l
  all : ∀ x ∈ l, ∃ y ∈ cl, subF y x = true
  anti : ∀ x ∈ cl, ∀ y ∈ cl, subF x y = true → x = y
def leS (a b : St6) : Bool := !ltS b a
theorem keep_ok : ∀ (l : List St6), (l.Pairwise fun a b => leS a b = true) → KeepOk l (keepAll l) := by
  intro l
  induction l using snoc_ind with
  | h0 => exact fun _ => ⟨Asc.nil, fun x hx => (by cases hx), fun x hx => (by cases hx), fun x hx => (by cases hx)⟩
  | h1 l s ih =>
    intro hs
    rw [List.pairwise_append] at hs
    have K := ih hs.1
    have hle : ∀ x ∈ l, leS x s = true := fun x hx => hs.2.2 x hx s (List.mem_singleton.2 rfl)
    rw [keepAll_snoc]
    unfold keep1
    split
    · rename_i ha
      obtain ⟨y, hy, hys⟩ := List.any_eq_true.1 ha
      refine ⟨K.asc, fun x hx => List.mem_append_left _ (K.mem x hx), fun x hx => ?_, K.anti⟩
      rcases List.mem_append.1 hx with h | h
      · exact K.all x h
      · rw [List.mem_singleton] at h; subst h; exact ⟨y, hy, hys⟩
    · rename_i ha
      have hno : ∀ y ∈ keepAll l, subF y s = false := fun y hy => by
        rw [Bool.eq_false_iff]; exact fun h => ha (List.any_eq_true.2 ⟨y, hy, h⟩)
      have hlt : ∀ y ∈ keepAll l, ltS y s = true := fun y hy => by
        have h1 := hle y (K.mem y hy)
        unfold leS at h1
        rw [Bool.not_eq_true'] at h1
        cases h : ltS y s with
        | true => rfl
        | false =>
          have := ordS.tri h h1
          subst this
          have := hno y hy
          rw [subF_refl] at this
          cases this
      refine ⟨?_, fun x hx => ?_, fun x hx => ?_, fun x hx y hy hxy => ?_⟩
      · unfold Asc
        rw [List.pairwise_append]
        exact ⟨K.asc, List.pairwise_singleton _ _, fun x hx y hy => by rw [List.mem_singleton] at hy; subst hy; exact hlt x hx⟩
      · rcases List.mem_append.1 hx with h | h
        · exact List.mem_append_left _ (K.mem x h)
        · exact List.mem_append_right _ h
      · rcases List.mem_append.1 hx with h | h
        · obtain ⟨y, h1, h2⟩ := K.all x h
          exact ⟨y, List.mem_append_left _ h1, h2⟩
        · rw [List.mem_singleton] at h; subst h
          exact ⟨x, List.mem_append_right _ (List.mem_singleton.2 rfl), subF_refl x⟩
      · rcases List.mem_append.1 hx with h | h <;> rcases List.mem_append.1 hy with h' | h'
        · exact K.anti x h y h' hxy
        · rw [List.mem_singleton] at h'; subst h'
          rw [hno x h] at hxy; cases hxy
        · rw [List.mem_singleton] at h; subst h
          rcases sub_lt_fin _ _ hxy with e | e
          · exact e
          · have := ordS.trans e (hlt y h')
            rw [ordS.irrefl] at this; cases this
        · rw [List.mem_singleton] at h h'; rw [h, h']
theorem keep_mem {l : List St6} {cl : List St6} (K : KeepOk l cl) (x : St6) : x ∈ cl ↔ Least (· ∈ l) x := by
  constructor
  · intro hx
    refine ⟨K.mem x hx, fun t ht hs => ?_⟩
    obtain ⟨y, hy, hyt⟩ := K.all t ht
    have := K.anti y hy x hx (subF_trans hyt hs)
    subst this
    exact subF_antisymm hs hyt
  · rintro ⟨hx, hm⟩
    obtain ⟨y, hy, hyx⟩ := K.all x hx
    have := hm y (K.mem y hy) hyx
    subst this
    exact hy
def srtS (l : List St6) : List St6 := l.mergeSort leS
theorem leS_trans (a b c : St6) (h1 : leS a b = true) (h2 : leS b c = true) : leS a c = true := by
  unfold leS ltS at *; simp only [Bool.not_eq_true', decide_eq_false_iff_not] at *; omega
theorem leS_total (a b : St6) : (leS a b || leS b a) = true := by
  unfold leS ltS; rw [Bool.or_eq_true]; simp only [Bool.not_eq_true', decide_eq_false_iff_not]; omega
theorem srtS_perm (l : List St6) : (srtS l).Perm l := List.mergeSort_perm l leS
theorem srtS_sorted (l : List St6) : (srtS l).Pairwise fun a b => leS a b = true := List.pairwise_mergeSort leS_trans leS_total l
/-- the clutter of a list of sets -/
def cluF (l : List St6) : List St6 := keepAll (srtS l)
theorem cluF_ok (l : List St6) : KeepOk (srtS l) (cluF l) := keep_ok _ (srtS_sorted l)
theorem mem_cluF {l : List St6} {x : St6} : x ∈ cluF l ↔ Least (· ∈ l) x := by
  rw [keep_mem (cluF_ok l)]
  unfold Least
  simp only [(srtS_perm l).mem_iff]
theorem cluF_asc (l : List St6) : Asc ltS (cluF l) := (cluF_ok l).asc
/-- all sets in the order of a clutter -/
def allS : List St6 := (List.range 7).flatMap fun n => (List.finRange 64).filter fun a => cnt a == n
theorem allS_asc : Asc ltS allS := by
  have h : allS.Pairwise (fun a b => ltS a b = true) := by decide +kernel
  exact h
theorem mem_allS : ∀ a : St6, a ∈ allS := by decide +kernel
/-- what the model keeps -/
def bit6 (c : Nat) (a : St6) : St6 := ⟨a.val ^^^ (if c < 6 then 1 <<< c else 0), by
  have ha : a.val < 2 ^ 6 := a.isLt
  show _ < 2 ^ 6
  refine Nat.xor_lt_two_pow ha ?_
  split
  · rename_i h
    rw [Nat.one_shiftLeft]
    exact Nat.pow_lt_pow_right (by decide) h
  · decide⟩
def leastB (P : St6 → Bool) (a : St6) : Bool := P a && (List.range 6).all fun c => !(a.val.testBit c && P (bit6 c a))
def leastF (P : St6 → Bool) : List St6 := allS.filter (leastB P)
theorem less_bit : ∀ a t : St6, subF t a = true → t = a ∨ ∃ c : Fin 6, a.val.testBit c.val = true ∧ subF t (bit6 c.val a) = true := by decide +kernel
theorem bit_less : ∀ a : St6, ∀ c : Fin 6, a.val.testBit c.val = true → subF (bit6 c.val a) a = true ∧ bit6 c.val a ≠ a := by decide +kernel
theorem leastB_iff {P : St6 → Bool} (hP : ∀ a b, subF a b = true → P a = true → P b = true) (a : St6) : leastB P a = true ↔ Least (fun t => P t = true) a := by
  unfold leastB Least
  rw [Bool.and_eq_true, List.all_eq_true]
  constructor
  · rintro ⟨h1, h2⟩
    refine ⟨h1, fun t ht hs => ?_⟩
    rcases less_bit a t hs with e | ⟨c, hc, hsc⟩
    · exact e
    · have h3 := h2 c.val (List.mem_range.2 c.isLt)
      rw [hc, hP _ _ hsc ht] at h3
      simp at h3
  · rintro ⟨h1, h2⟩
    refine ⟨h1, fun c hc => ?_⟩
    rw [List.mem_range] at hc
    cases hb : a.val.testBit c with
    | false => rfl
    | true =>
      cases hp : P (bit6 c a) with
      | false => rfl
      | true =>
        obtain ⟨h3, h4⟩ := bit_less a ⟨c, hc⟩ hb
        exact absurd (h2 _ hp h3) h4
/-- both keep the same -/
theorem least_same {P : St6 → Bool} (hP : ∀ a b, subF a b = true → P a = true → P b = true) {l : List St6} (hl : ∀ a, Least (fun t => P t = true) a ↔ Least (· ∈ l) a) : leastF P = cluF l := by
  refine Asc.ext ordS (List.Pairwise.sublist List.filter_sublist allS_asc) (cluF_asc l) fun x => ?_
  rw [mem_cluF, ← hl, ← leastB_iff hP]
  unfold leastF
  rw [List.mem_filter]
  exact ⟨fun h => h.2, fun h => ⟨mem_allS x, h⟩⟩
/-- of a list that has just the sets of a kind -/
theorem least_all {P : St6 → Bool} (hP : ∀ a b, subF a b = true → P a = true → P b = true) {l : List St6} (hl : ∀ a, a ∈ l ↔ P a = true) : leastF P = cluF l :=
  least_same hP fun a => by unfold Least; simp only [hl]
/-- of any list -/
def hasOneB (l : List St6) (a : St6) : Bool := l.any fun t => subF t a
theorem hasOne_up (l : List St6) (a b : St6) (h : subF a b = true) (ha : hasOneB l a = true) : hasOneB l b = true := by
  obtain ⟨t, ht, hs⟩ := List.any_eq_true.1 ha
  exact List.any_eq_true.2 ⟨t, ht, subF_trans hs h⟩
theorem least_list (l : List St6) : leastF (hasOneB l) = cluF l :=
  least_same (hasOne_up l) fun a => by
    unfold Least
    constructor
    · rintro ⟨h1, h2⟩
      obtain ⟨t, ht, hs⟩ := List.any_eq_true.1 h1
      have : t = a := h2 t (List.any_eq_true.2 ⟨t, ht, subF_refl t⟩) hs
      subst this
      exact ⟨ht, fun u hu hs => h2 u (List.any_eq_true.2 ⟨u, hu, subF_refl u⟩) hs⟩
    · rintro ⟨h1, h2⟩
      refine ⟨List.any_eq_true.2 ⟨a, h1, subF_refl a⟩, fun t ht hs => ?_⟩
      obtain ⟨u, hu, hus⟩ := List.any_eq_true.1 ht
      have := h2 u hu (subF_trans hus hs)
      subst this
      exact subF_antisymm hs hus
/-- when a list is its own clutter -/
theorem cluF_self {l : List St6} : cluF l = l ↔ Asc ltS l ∧ ∀ x ∈ l, ∀ y ∈ l, subF x y = true → x = y := by
  constructor
  · intro h
    rw [← h]
    refine ⟨cluF_asc l, (cluF_ok l).anti⟩
  · rintro ⟨h1, h2⟩
    refine Asc.ext ordS (cluF_asc l) h1 fun x => ?_
    rw [mem_cluF]
    exact ⟨fun h => h.1, fun h => ⟨h, fun t ht hs => h2 t ht x h hs⟩⟩
end M
end Go.Proofs.Ytcoaggnilgfjfaa
namespace Go.Proofs.Ytcoaggnilgfjfaa
open Go.RowKit
namespace M
/-- the maze with the keys of a set alone -/
def onlyS (m : Mz) (s : Int) : Mz := ⟨m.size, m.doors, m.keys.map fun k => bits .and .i64 k s⟩
def notS (s : Int) : Int := lessS 63 s
theorem notS_fin : ∀ s : Fin 64, notS (s.val : Int) = ((63 - s.val : Nat) : Int) := by decide +kernel
theorem notS_eq {s : Int} (hs : 0 ≤ s ∧ s < 64) : notS s = 63 - s := by
  have := notS_fin ⟨s.toNat, by omega⟩
  simp only [Int.toNat_of_nonneg hs.1] at this
  omega
theorem only_fin : ∀ k s : Fin 64, lessS (k.val : Int) (notS (s.val : Int)) = bits .and .i64 (k.val : Int) (s.val : Int) := by decide +kernel
theorem only_less {k s : Int} (hk : 0 ≤ k ∧ k < 64) (hs : 0 ≤ s ∧ s < 64) : lessS k (notS s) = bits .and .i64 k s := by
  have := only_fin ⟨k.toNat, by omega⟩ ⟨s.toNat, by omega⟩
  simp only [Int.toNat_of_nonneg hk.1, Int.toNat_of_nonneg hs.1] at this
  exact this
theorem noSet_only {m : Mz} (V : Valid m) {s : Int} (hs : 0 ≤ s ∧ s < 64) : noSet m (notS s) = onlyS m s := by
  unfold noSet onlyS
  congr 1
  exact List.map_congr_left fun k hk => only_less (V.keyB hk) hs
theorem only_valid {m : Mz} (V : Valid m) {s : Int} (hs : 0 ≤ s ∧ s < 64) : Valid (onlyS m s) := by
  rw [← noSet_only V hs]
  have := notS_eq hs
  exact noSet_valid V (by omega) (by omega)
theorem andSub_fin : ∀ k s t : Fin 64, subF s t = true → has2B (bits .and .i64 (k.val : Int) (t.val : Int)) (bits .and .i64 (k.val : Int) (s.val : Int)) = true := by
  intro k s t h
  unfold subF at h
  rw [beq_iff_eq] at h
  rw [and_nat k.isLt s.isLt, and_nat k.isLt t.isLt]
  have h1 : k.val &&& s.val < 64 := Nat.lt_of_le_of_lt Nat.and_le_left k.isLt
  have h2 : k.val &&& t.val < 64 := Nat.lt_of_le_of_lt Nat.and_le_left k.isLt
  have := (sub_nat h1 h2).2 (by
    refine Nat.eq_of_testBit_eq fun p => ?_
    have hp := congrArg (fun x => Nat.testBit x p) h
    simp only [Nat.testBit_and] at hp ⊢
    cases hk : k.val.testBit p <;> cases h3 : s.val.testBit p <;> cases h4 : t.val.testBit p <;> simp_all)
  exact this
theorem only_key (m : Mz) (s : Int) (h0 : bits .and .i64 0 s = 0) (k : Nat) : (onlyS m s).keys.getD k 0 = bits .and .i64 (m.keys.getD k 0) s := by
  unfold onlyS
  simp only [List.getD_eq_getElem?_getD, List.getElem?_map]
  cases m.keys[k]? with
  | none => simp [h0]
  | some v => rfl
theorem and0_fin : ∀ t : Fin 64, bits .and .i64 0 (t.val : Int) = 0 := by decide +kernel
theorem only_more {m : Mz} (V : Valid m) {s t : St6} (h : subF s t = true) : LessM (onlyS m (s.val : Int)) (onlyS m (t.val : Int)) :=
  ⟨rfl, fun _ hd => hd, fun k => by
    rw [only_key _ _ (and0_fin s), only_key _ _ (and0_fin t)]
    have hk := key_set V k
    have := andSub_fin ⟨(m.keys.getD k 0).toNat, by omega⟩ s t h
    simp only [Int.toNat_of_nonneg hk.1] at this
    exact this⟩
/-- whether a set wins -/
noncomputable def wB (m : Mz) (s : Int) : Bool := canB (onlyS m s) 0
noncomputable def wF (m : Mz) (s : St6) : Bool := wB m (s.val : Int)
theorem set6 (s : St6) : (0 : Int) ≤ (s.val : Int) ∧ (s.val : Int) < 64 := by omega
theorem wF_more {m : Mz} (V : Valid m) (s t : St6) (h : subF s t = true) (hw : wF m s = true) : wF m t = true := by
  unfold wF wB canB memB at *
  rw [List.contains_iff_mem] at *
  exact nodes_less (only_valid V (set6 s)) (only_valid V (set6 t)) (only_more V h) ⟨Int.le_refl _, by decide⟩ hw
/-- all colours but those of a set -/
def notF (s : St6) : St6 := ⟨63 - s.val, by omega⟩
theorem notF_val (s : St6) : ((notF s).val : Int) = 63 - (s.val : Int) := by show ((63 - s.val : Nat) : Int) = _; omega
theorem notF_sub : ∀ s t : St6, subF s t = true → subF (notF t) (notF s) = true := by decide +kernel
/-- whether a set bars -/
noncomputable def bF (m : Mz) (s : St6) : Bool := !wF m (notF s)
theorem bF_more {m : Mz} (V : Valid m) (s t : St6) (h : subF s t = true) (hw : bF m s = true) : bF m t = true := by
  unfold bF at *
  cases hc : wF m (notF t) with
  | false => rfl
  | true =>
    rw [wF_more V _ _ (notF_sub s t h) hc] at hw
    cases hw
/-- a list of sets, as numbers -/
def intsF (l : List St6) : List Int := l.map fun a => (a.val : Int)
theorem intsF_len (l : List St6) : (intsF l).length = l.length := by unfold intsF; rw [List.length_map]
theorem intsF_snoc (l : List St6) (a : St6) : intsF (l ++ [a]) = intsF l ++ [(a.val : Int)] := by unfold intsF; rw [List.map_append]; rfl
theorem intsF_at {l : List St6} {k : Nat} (h : k < l.length) : (intsF l)[k]'(by rw [intsF_len]; exact h) = ((l[k]).val : Int) := by unfold intsF; rw [List.getElem_map]
theorem mem_intsF {l : List St6} {x : Int} (h : x ∈ intsF l) : 0 ≤ x ∧ x < 64 := by
  unfold intsF at h
  obtain ⟨a, _, rfl⟩ := List.mem_map.1 h
  exact set6 a
theorem intsF_inj {a b : List St6} (h : intsF a = intsF b) : a = b := by
  unfold intsF at h
  exact List.map_inj_right (fun x y e => Fin.ext (by omega)) |>.1 h
/-- a list of sets, taken from numbers -/
def setsOf (l : List Int) : List St6 := l.map fun z => ⟨z.toNat % 64, Nat.mod_lt _ (by decide)⟩
theorem setsOf_len (l : List Int) : (setsOf l).length = l.length := by unfold setsOf; rw [List.length_map]
theorem intsF_setsOf {l : List Int} (h : ∀ z ∈ l, 0 ≤ z ∧ z < 64) : intsF (setsOf l) = l := by
  unfold intsF setsOf
  rw [List.map_map]
  conv => rhs; rw [← List.map_id l]
  refine List.map_congr_left fun z hz => ?_
  have := h z hz
  show ((z.toNat % 64 : Nat) : Int) = z
  omega
/-- the sets below k of a kind -/
def selTo (P : St6 → Bool) (k : Nat) : List St6 := (allN.take k).filter P
  where allN : List St6 := List.finRange 64
theorem selTo_zero (P : St6 → Bool) : selTo P 0 = [] := by unfold selTo; simp
theorem selTo_at {k : Nat} (h : k < 64) : selTo.allN[k]'(by unfold selTo.allN; rw [List.length_finRange]; exact h) = ⟨k, h⟩ := by unfold selTo.allN; rw [List.getElem_finRange]; rfl
theorem selTo_yes {P : St6 → Bool} {k : Nat} (h : k < 64) (hp : P ⟨k, h⟩ = true) : selTo P (k + 1) = selTo P k ++ [⟨k, h⟩] := by
  unfold selTo
  rw [List.take_succ_eq_append_getElem (by unfold selTo.allN; rw [List.length_finRange]; exact h), List.filter_append, selTo_at h, List.filter_cons_of_pos hp]
  rfl
theorem selTo_no {P : St6 → Bool} {k : Nat} (h : k < 64) (hp : P ⟨k, h⟩ = false) : selTo P (k + 1) = selTo P k := by
  unfold selTo
  rw [List.take_succ_eq_append_getElem (by unfold selTo.allN; rw [List.length_finRange]; exact h), List.filter_append, selTo_at h, List.filter_cons_of_neg (by rw [hp]; decide), List.filter_nil, List.append_nil]
theorem selTo_len (P : St6 → Bool) (k : Nat) : (selTo P k).length ≤ k := by
  unfold selTo
  have := List.length_filter_le P (selTo.allN.take k)
  rw [List.length_take] at this
  omega
def selF (P : St6 → Bool) : List St6 := selTo P 64
theorem mem_selF {P : St6 → Bool} {a : St6} : a ∈ selF P ↔ P a = true := by
  unfold selF selTo selTo.allN
  rw [List.take_of_length_le (by rw [List.length_finRange]; exact Nat.le_refl _), List.mem_filter]
  exact ⟨fun h => h.2, fun h => ⟨List.mem_finRange a, h⟩⟩
end M
end Go.Proofs.Ytcoaggnilgfjfaa
namespace Go.Proofs.Ytcoaggnilgfjfaa
open Go.RowKit
namespace C
set_option maxHeartbeats 1600000
set_option maxRecDepth 20000
structure CSt (w : World) (m : M.Mz) (a b : Option Addr) (c d L bg : Nat) (ca cb : Option Addr) (cc cd : Nat) (wr : World) (ks : List Int) : Prop where
  box : Box3 wr w.heap.size 29 (.int .i64 m.size) (.slice a m.doors.length c) (.slice b m.keys.length d)
  res : Box3 wr (w.heap.size + 1) 29 (.int .i64 0) (.slice none 0 0) (.slice none 0 0)
  out : Box3 wr bg 29 (.int .i64 m.size) (.slice ca m.doors.length cc) (.slice cb m.keys.length cd)
  own : MzOwn L bg wr ⟨m.size, m.doors, ks⟩ ca cc cb cd
  low : Below w.heap.size w wr
theorem CSt.later {w : World} {m : M.Mz} {a b : Option Addr} {c d L bg : Nat} {ca cb : Option Addr} {cc cd : Nat} {wr wr' : World} {ks : List Int} (h : CSt w m a b c d L bg ca cb cc cd wr ks) (hb : Below wr.heap.size wr wr') : CSt w m a b c d L bg ca cb cc cd wr' ks :=
  ⟨h.box.below hb, h.res.below hb, h.out.below hb, h.own.below hb (Nat.le_of_lt h.out.lt), h.low.trans (hb.mono h.low.size)⟩
theorem CSt.set {w : World} {m : M.Mz} {a b : Option Addr} {c d L bg : Nat} {ca : Option Addr} {cc cd g off : Nat} {wr : World} {ks : List Int} (h : CSt w m a b c d L bg ca (some ⟨g, off, none⟩) cc cd wr ks) (hL : w.heap.size + 1 < L) (hg1 : L ≤ g) (hg2 : g < bg) {k : Nat} (hk : k < ks.length) (v : Int) :
    CSt w m a b c d L bg ca (some ⟨g, off, none⟩) cc cd (wr.setCell ⟨g, off + k, none⟩ (.int .i64 v)) (ks.set k v) :=
  have t := Turned.setCell (lo := L) (hi := bg) wr g (off + k) (.int .i64 v) hg1 hg2
  ⟨h.box.turned t (.inl (by omega)), h.res.turned t (.inl (by omega)), h.out.turned t (.inr (Nat.le_refl _)), h.own.setKey rfl k hk v, h.low.setCell (p := ⟨g, off + k, none⟩) (by show w.heap.size ≤ g; omega) _⟩
theorem withoutColours_any (w : World) (lo hi : Nat) (m : M.Mz) (a b : Option Addr) (c d : Nat) (h : MzIn lo hi w m a c b d) (hz : hi ≤ w.heap.size) (h1 : m.doors.length ≤ 1048576) (h2 : m.keys.length ≤ 1048576) (t : Int) :
    Calls Try.prog 94 #[.agg #[.int .i64 m.size, .slice a m.doors.length c, .slice b m.keys.length d], .int .i64 t] w (MzPost w (M.noSet m t)) := by
  have H := Lib.hid h
  clear h
  go_enter Try.func94, Try.ntmps94
  go_wp2_with fail
  refine named ?_
  intro W hW
  have hb : Below w.heap.size w W := by rw [hW]; exact (below_alloc _ _).alloc (by simp) _
  have x1 : Box3 W w.heap.size 29 (.int .i64 m.size) (.slice a m.doors.length c) (.slice b m.keys.length d) := by rw [hW]; exact (Box3.new _ _ _ _ rfl).alloc _
  have y1 : Box3 W (w.heap.size + 1) 29 (.int .i64 0) (.slice none 0 0) (.slice none 0 0) := by rw [hW]; exact Box3.new _ _ _ _ (by simp)
  clear hW
  have hzw := hb.size
  have hbl := y1.lt
  refine (clone_any W lo hi m a b c d (H.out.below hb hz) (by omega) h1 h2).mono ?_
  rintro e w3 ⟨ca, cc, cb, cd, rfl, ho, hb3⟩
  have hz3w := hb3.size
  have ho3 := hb.trans (hb3.mono (by omega))
  go_wp2_with fail
  refine wp_named ?_
  intro W4 hW4
  have hb4 : Below w3.heap.size w3 W4 := by rw [hW4]; exact below_alloc _ _
  have t4 : Box3 W4 w3.heap.size 29 (.int .i64 m.size) (.slice ca m.doors.length cc) (.slice cb m.keys.length cd) := by rw [hW4]; exact Box3.new _ _ _ _ rfl
  have ST := Lib.hid (show CSt w m a b c d W.heap.size w3.heap.size ca cb cc cd W4 (M.repT (fun s => M.lessS s t) m.keys 0) from by
    rw [M.repT_zero]
    exact ⟨(x1.below hb3).below hb4, (y1.below hb3).below hb4, t4, ho.below hb4 (Nat.le_refl _), ho3.trans (hb4.mono ho3.size)⟩)
  have hz4 := hb4.size
  clear hW4 hb hb3 hb4 ho ho3 x1 y1 t4
  go_loopw [6, 12] (fun _ i wr => ∃ (k : Nat), k ≤ m.keys.length ∧ i = .int .i64 k ∧ CSt w m a b c d W.heap.size w3.heap.size ca cb cc cd wr (M.repT (fun s => M.lessS s t) m.keys k)) (fun _ i _ => m.keys.length - (intOf i).toNat)
  case atStart => exact ⟨0, Nat.zero_le _, rfl, ST.out⟩
  case round =>
    obtain ⟨k, hk, rfl, hst⟩ := hrel
    have SR := Lib.hid hst
    obtain ⟨o0, o1, o2⟩ := hst.out.cells
    have hol := hst.out.lt
    clear hst
    by_cases hkl' : k < m.keys.length
    · obtain ⟨g, off, hcb, hg1, hg2, hc0⟩ := SR.out.own.keys.row.at_ (k := k) (by rw [M.encIs_len]; show k < (M.repT _ m.keys k).length; rw [M.repT_len]; exact hkl')
      have cx : wr.cell? ⟨g, off + k, none⟩ = some (.int .i64 m.keys[k]) := hc0 _ _ (by show (M.encIs (M.repT _ m.keys k))[k]? = _; unfold M.encIs; rw [List.getElem?_map, M.repT_get hkl']; rfl)
      have fx : wr.frozen? ⟨g, off + k, none⟩ = false := SR.out.own.keys.free hcb (k := k) (by rw [M.encIs_len]; show k < (M.repT _ m.keys k).length; rw [M.repT_len]; exact hkl') _
      clear hc0
      subst hcb
      have hss := SR.out.set hbl hg1 hg2 (k := k) (by rw [M.repT_len]; exact hkl') (M.lessS m.keys[k] t)
      rw [show (M.repT (fun s => M.lessS s t) m.keys k).set k (M.lessS m.keys[k] t) = _ from M.repT_set (f := fun s => M.lessS s t) hkl'] at hss
      have SS := Lib.hid hss
      clear hss
      go_wp2_with fail
      go_roundw
      case rel => exact ⟨k + 1, by omega, by go_num, SS.out⟩
      case measure => simp [intOf]; omega
    · obtain rfl : k = m.keys.length := by omega
      have hyb := SR.out.res
      obtain ⟨k0, k1, k2⟩ := hyb.cells
      obtain ⟨f0, f1, f2⟩ := hyb.free
      obtain ⟨r0, r1, r2⟩ := (hyb.setAll (.int .i64 m.size) (.slice ca m.doors.length cc) (.slice cb m.keys.length cd)).cells
      have hzr := SR.out.out.lt
      go_wp2_with fail
      refine bodyPost_ret (v := .agg #[.int .i64 m.size, .slice ca m.doors.length cc, .slice cb m.keys.length cd]) (by simp [results, Try.results94, go_sem, r0, r1, r2]) rfl ?_
      have hown := SR.out.own
      rw [M.repT_all] at hown
      exact mz_endAt (m := M.noSet m t) SR.out.low hown (.inl hbl) (by omega) (by omega) (by omega) rfl (by simp [M.noSet])
end C
end Go.Proofs.Ytcoaggnilgfjfaa
namespace Go.Proofs.Ytcoaggnilgfjfaa
open Go.RowKit
namespace C
set_option maxHeartbeats 1600000
set_option maxRecDepth 20000
theorem wins6_any (w : World) (lo hi : Nat) (m : M.Mz) (a b : Option Addr) (c d : Nat) (h : MzIn lo hi w m a c b d) (hz : hi ≤ w.heap.size) (V : M.Valid m) (s : M.St6) :
    Calls Try.prog 61 #[.agg #[.int .i64 m.size, .slice a m.doors.length c, .slice b m.keys.length d], .int .i64 (s.val : Int)] w (BoolPost w (M.wF m s)) := by
  have H := Lib.hid h
  have v30 := V.few
  have vk := V.keysLen
  have v12 := V.size12
  have hs := M.set6 s
  have HWO := Lib.hid (fun (W' : World) (hq : Below w.heap.size w W') => show Calls Try.prog 94 #[.agg #[.int .i64 m.size, .slice a m.doors.length c, .slice b m.keys.length d], .int .i64 (bits .andNot .i64 63 (s.val : Int))] W' (MzPost W' (M.onlyS m (s.val : Int))) from by
    rw [← M.noSet_only V hs]
    exact withoutColours_any W' lo hi m a b c d (H.out.below hq hz) (by have := hq.size; omega) (by omega) (by omega) _)
  have HAS : Hid ((M.askB (M.onlyS m (s.val : Int)) 0 && M.canB (M.onlyS m (s.val : Int)) 0) = M.wF m s) := Lib.hid (by
    have : M.askB (M.onlyS m (s.val : Int)) 0 = true := by unfold M.askB; rw [M.of_valid (M.only_valid V hs)]; rfl
    rw [this]; rfl)
  have hl1 : (M.onlyS m (s.val : Int)).doors.length ≤ 1048576 := by show m.doors.length ≤ _; omega
  have hl2 : (M.onlyS m (s.val : Int)).keys.length ≤ 1048576 := by show (m.keys.map _).length ≤ _; rw [List.length_map]; omega
  clear h V hs
  generalize hmo : M.onlyS m (s.val : Int) = mo at *
  clear hmo
  go_enter Try.func61, Try.ntmps61
  go_wp2_with fail
  refine named ?_
  intro W hW
  have hb : Below w.heap.size w W := by rw [hW]; exact below_alloc _ _
  clear hW
  have hzw := hb.size
  refine (HWO.out W hb).mono ?_
  rintro e w1 ⟨ca, cc, cb, cd, rfl, ho, hb1⟩
  have HB1 := Lib.hid (hb.trans (hb1.mono hzw))
  have HO := Lib.hid ho
  have hz1 := hb1.size
  clear hb hb1 ho
  go_wp2_with fail
  refine (canBeWon_any w1 _ _ mo ca cb cc cd HO.out.mz (Nat.le_refl _) hl1 hl2 0 (by omega) (by omega)).mono ?_
  rintro e w2 ⟨rfl, hb2⟩
  rw [HAS.out]
  go_wp2_with fail
  go_ret
  exact ⟨rfl, HB1.out.trans (hb2.mono (by omega))⟩
theorem bars6_any (w : World) (lo hi : Nat) (m : M.Mz) (a b : Option Addr) (c d : Nat) (h : MzIn lo hi w m a c b d) (hz : hi ≤ w.heap.size) (V : M.Valid m) (s : M.St6) :
    Calls Try.prog 67 #[.agg #[.int .i64 m.size, .slice a m.doors.length c, .slice b m.keys.length d], .int .i64 (s.val : Int)] w (BoolPost w (M.bF m s)) := by
  have H := Lib.hid h
  have HWI := Lib.hid (fun (W' : World) (hq : Below w.heap.size w W') => show Calls Try.prog 61 #[.agg #[.int .i64 m.size, .slice a m.doors.length c, .slice b m.keys.length d], .int .i64 (bits .andNot .i64 63 (s.val : Int))] W' (BoolPost W' (M.wF m (M.notF s))) from by
    have e : bits .andNot .i64 63 (s.val : Int) = ((M.notF s).val : Int) := by rw [M.notF_val]; exact M.notS_eq (M.set6 s)
    rw [e]
    exact wins6_any W' lo hi m a b c d (H.out.below hq hz) (by have := hq.size; omega) V _)
  have HBF : Hid ((!M.wF m (M.notF s)) = M.bF m s) := Lib.hid rfl
  clear h V
  generalize M.wF m (M.notF s) = q at *
  go_enter Try.func67, Try.ntmps67
  go_wp2_with fail
  refine named ?_
  intro W hW
  have hb : Below w.heap.size w W := by rw [hW]; exact below_alloc _ _
  clear hW
  have hzw := hb.size
  refine (HWI.out W hb).mono ?_
  rintro e w1 ⟨rfl, hb1⟩
  go_wp2_with fail
  go_ret
  exact ⟨by rw [← HBF.out]; rfl, hb.trans (hb1.mono hzw)⟩
/-- what is asked of a test of sets -/
def TestOk (g : Nat) (pre lb : Array Value) (p : M.St6 → Bool) (w : World) : Prop :=
  ∀ W (s : M.St6), Below w.heap.size w W → Calls Try.prog g (pre ++ #[.int .i64 (s.val : Int)] ++ lb) W (BoolPost W (p s))
theorem setsWith_any (g : Nat) (pre lb : Array Value) (p : M.St6 → Bool) (eg : ∀ args w, (callFunc g args).run Try.prog w = .ok (.enter g args) w) (w : World) (hp : TestOk g pre lb p w) :
    Calls Try.prog 64 #[.func (.func g) pre lb] w (IntsPost w (M.intsF (M.selF p))) := by
  obtain ⟨ii0, hi0, hz0, hzz1, hz2⟩ := info_parts infoI
  have HP := Lib.hid hp
  clear hp
  go_enter Try.func64, Try.ntmps64
  go_wp2_with fail
  refine wp_named ?_
  intro W2 hW2
  have hb2 : Below w.heap.size w W2 := by rw [hW2]; exact below_alloc _ _
  have o2 : W2.ownsRow w.heap.size 3 1 (.slice (some ⟨w.heap.size, 0, none⟩) 0 0) 0 (M.encIs (M.intsF (M.selTo p 0))) := by rw [hW2, M.selTo_zero]; exact ownsRow_empty _ _ _ _ (by omega)
  have ST := Lib.hid (show W2.ownsRow w.heap.size 3 1 (.slice (some ⟨w.heap.size, 0, none⟩) 0 0) (M.selTo p 0).length (M.encIs (M.intsF (M.selTo p 0))) ∧ Below w.heap.size w W2 from ⟨by rw [M.selTo_zero] at o2 ⊢; exact o2, hb2⟩)
  clear hW2 hb2 o2
  go_loopw [3, 4, 6] (fun v3 _ v6 wr => ∃ (k : Nat), k ≤ 64 ∧ v6 = .int .i64 k ∧ wr.ownsRow w.heap.size 3 1 v3 (M.selTo p k).length (M.encIs (M.intsF (M.selTo p k))) ∧ Below w.heap.size w wr) (fun _ _ v6 _ => 64 - (intOf v6).toNat)
  case atStart => exact ⟨0, Nat.zero_le _, rfl, ST.out.1, ST.out.2⟩
  case round =>
    obtain ⟨k, hk, rfl, hso, hlow⟩ := hrel
    obtain ⟨la, lc, hv, hl1, hl2, _⟩ := own_slice hso
    subst hv
    have SO := Lib.hid hso
    have LO := Lib.hid hlow
    have hzr := hlow.size
    have hll := M.selTo_len p k
    clear hso hlow
    by_cases hkl : k < 64
    · have CP := Lib.hid (HP.out wr ⟨k, hkl⟩ LO.out)
      have HY := Lib.hid (fun (h : p ⟨k, hkl⟩ = true) => M.selTo_yes hkl h)
      have HN := Lib.hid (fun (h : p ⟨k, hkl⟩ = false) => M.selTo_no hkl h)
      cases hq : p ⟨k, hkl⟩ with
      | false =>
        rw [hq] at CP
        have HNO := Lib.hid (HN.out hq)
        clear hq
        go_wp2_with (go_at_fn g; refine (CP.out).mono ?_; rintro e w4 ⟨rfl, hb4⟩)
        go_roundw
        case rel => exact ⟨k + 1, by omega, by go_num, by rw [HNO.out]; exact own_below SO.out hb4, LO.out.trans (hb4.mono hzr)⟩
        case measure => simp [intOf]; omega
      | true =>
        rw [hq] at CP
        have HYE := Lib.hid (HY.out hq)
        clear hq
        go_wp2_with (first
          | (go_at_fn g; refine (CP.out).mono ?_; rintro e w4 ⟨rfl, hb4⟩; have SO4 := Lib.hid (own_below SO.out hb4); have LO4 := Lib.hid (LO.out.trans (hb4.mono hzr)); have hz4 := hb4.size)
          | (at_builtin; refine wpList_append_own _ rfl _ _ 23 rfl w.heap.size 3 ii0 (.int .i64 0) 1 8 Try.underlying23 hi0 hz0 hzz1 hz2 rfl (by decide) _ _ _ rfl (SO4.out.alloc _) ⟨w4.heap.size, 0, none⟩ 1 1 [.int .i64 (k : Int)] rfl rfl (cell_one_new _ _ _) (fun x hx => by simp at hx; subst hx; rfl) (by unfold maxLen; omega) (by omega) (by simp; omega) ?_; intro v' w3 hown' hgrow3 hnil3))
        go_roundw
        case rel =>
          refine ⟨k + 1, by omega, by go_num, ?_, (LO4.out.alloc (by omega) _).grown hgrow3 (by simp; omega) (own_base SO4.out)⟩
          rw [HYE.out, M.intsF_snoc, M.encIs_append, List.length_append]
          exact hown'
        case measure => simp [intOf]; omega
    · obtain rfl : k = 64 := by omega
      go_wp2_with fail
      go_ret
      refine ints_end (l := M.intsF (M.selF p)) ?_ LO.out
      rw [M.intsF_len]
      exact SO.out
end C
end Go.Proofs.Ytcoaggnilgfjfaa
namespace Go.Proofs.Ytcoaggnilgfjfaa
open Go.RowKit
namespace M
def encBs (l : List Bool) : List Value := l.map Value.bool
theorem encBs_len (l : List Bool) : (encBs l).length = l.length := by simp [encBs]
theorem encBs_append (a b : List Bool) : encBs (a ++ b) = encBs a ++ encBs b := by simp [encBs]
/-- of each set below k whether it is of a kind -/
def boolsTo (P : St6 → Bool) (k : Nat) : List Bool := (selTo.allN.take k).map P
theorem boolsTo_zero (P : St6 → Bool) : boolsTo P 0 = [] := by unfold boolsTo; simp
theorem allN_len : selTo.allN.length = 64 := by unfold selTo.allN; rw [List.length_finRange]
theorem boolsTo_succ (P : St6 → Bool) {k : Nat} (h : k < 64) : boolsTo P (k + 1) = boolsTo P k ++ [P ⟨k, h⟩] := by
  unfold boolsTo
  rw [List.take_succ_eq_append_getElem (by rw [allN_len]; exact h), List.map_append, selTo_at h]
  rfl
theorem boolsTo_len (P : St6 → Bool) {k : Nat} (h : k ≤ 64) : (boolsTo P k).length = k := by unfold boolsTo; rw [List.length_map, List.length_take, allN_len]; omega
def boolsF (P : St6 → Bool) : List Bool := boolsTo P 64
theorem boolsF_len (P : St6 → Bool) : (boolsF P).length = 64 := boolsTo_len P (Nat.le_refl _)
theorem boolsF_at (P : St6 → Bool) (s : St6) : (encBs (boolsF P))[s.val]? = some (.bool (P s)) := by
  unfold boolsF boolsTo encBs
  rw [List.take_of_length_le (by rw [allN_len]; exact Nat.le_refl _), List.getElem?_map, List.getElem?_map, List.getElem?_eq_getElem (by rw [allN_len]; exact s.isLt), selTo_at s.isLt]
  rfl
end M
namespace C
theorem infoB : (Try.prog.info? 4).map (fun i => (i.zero, i.size, i.bytes)) = some (some (.bool false), 1, 1) := by kernel_rfl
/-- a list of bools handed back in memory of the call's own -/
def BlsPost (w : World) (l : List Bool) (e : Ending) (w' : World) : Prop :=
  ∃ a c, e = .returned (.slice a l.length c) ∧ OwnAt w.heap.size w'.heap.size w' 4 a (M.encBs l) ∧ l.length ≤ c ∧ c ≤ 9223372036854775807 ∧ Below w.heap.size w w'
theorem bls_end {w w' : World} {l : List Bool} {v : Value} (h : w'.ownsRow w.heap.size 4 1 v l.length (M.encBs l)) (hb : Below w.heap.size w w') : BlsPost w l (.returned v) w' := by
  obtain ⟨a, c, rfl, h1, h2, h3⟩ := own_slice h
  exact ⟨a, c, rfl, h3, h1, h2, hb⟩
structure KSt (w1 : World) (B0 : Nat) (m : M.Mz) (a b : Option Addr) (c d L bg : Nat) (ca cb : Option Addr) (cc cd : Nat) (wr : World) (ks : List Int) : Prop where
  box : Box3 wr B0 29 (.int .i64 m.size) (.slice a m.doors.length c) (.slice b m.keys.length d)
  out : Box3 wr bg 29 (.int .i64 m.size) (.slice ca m.doors.length cc) (.slice cb m.keys.length cd)
  own : MzOwn L bg wr ⟨m.size, m.doors, ks⟩ ca cc cb cd
  low : Below w1.heap.size w1 wr
theorem KSt.later {w1 : World} {B0 : Nat} {m : M.Mz} {a b : Option Addr} {c d L bg : Nat} {ca cb : Option Addr} {cc cd : Nat} {wr wr' : World} {ks : List Int} (h : KSt w1 B0 m a b c d L bg ca cb cc cd wr ks) (hb : Below wr.heap.size wr wr') : KSt w1 B0 m a b c d L bg ca cb cc cd wr' ks :=
  ⟨h.box.below hb, h.out.below hb, h.own.below hb (Nat.le_of_lt h.out.lt), h.low.trans (hb.mono h.low.size)⟩
theorem KSt.set {w1 : World} {B0 : Nat} {m : M.Mz} {a b : Option Addr} {c d L bg : Nat} {ca : Option Addr} {cc cd g off : Nat} {wr : World} {ks : List Int} (h : KSt w1 B0 m a b c d L bg ca (some ⟨g, off, none⟩) cc cd wr ks) (hL : B0 < L) (hL2 : w1.heap.size ≤ L) (hg1 : L ≤ g) (hg2 : g < bg) {k : Nat} (hk : k < ks.length) (v : Int) :
    KSt w1 B0 m a b c d L bg ca (some ⟨g, off, none⟩) cc cd (wr.setCell ⟨g, off + k, none⟩ (.int .i64 v)) (ks.set k v) :=
  have t := Turned.setCell (lo := L) (hi := bg) wr g (off + k) (.int .i64 v) hg1 hg2
  ⟨h.box.turned t (.inl (by omega)), h.out.turned t (.inr (Nat.le_refl _)), h.own.setKey rfl k hk v, h.low.setCell (p := ⟨g, off + k, none⟩) (by show w1.heap.size ≤ g; omega) _⟩
set_option maxHeartbeats 3200000
set_option maxRecDepth 20000
theorem l6Wins_any (w : World) (lo hi : Nat) (m : M.Mz) (a b : Option Addr) (c d : Nat) (h : MzIn lo hi w m a c b d) (hz : hi ≤ w.heap.size) (V : M.Valid m) :
    Calls Try.prog 57 #[.agg #[.int .i64 m.size, .slice a m.doors.length c, .slice b m.keys.length d]] w (BlsPost w (M.boolsF (M.wF m))) := by
  obtain ⟨ii0, hi0, hz0, hzz1, hz2⟩ := info_parts infoB
  have H := Lib.hid h
  have HVA := Lib.hid V
  have v30 := V.few
  have vk := V.keysLen
  have v12 := V.size12
  have v1 := V.size1
  clear h V
  go_enter Try.func57, Try.ntmps57
  go_wp2_with fail
  refine wp_named ?_
  intro W2 hW2
  have hb2 : Below w.heap.size w W2 := by rw [hW2]; exact (below_alloc _ _).alloc (by simp) _
  have x2 : Box3 W2 w.heap.size 29 (.int .i64 m.size) (.slice a m.doors.length c) (.slice b m.keys.length d) := by rw [hW2]; exact (Box3.new _ _ _ _ rfl).alloc _
  have o2 : W2.ownsRow w.heap.size 4 1 (.slice (some ⟨w.heap.size + 1, 0, none⟩) 0 0) 0 (M.encBs (M.boolsTo (M.wF m) 0)) := by rw [hW2, M.boolsTo_zero]; exact (by simpa [M.encBs] using ownsRow_empty (w.alloc _) w.heap.size 4 1 (by simp))
  have ST := Lib.hid (show W2.ownsRow w.heap.size 4 1 (.slice (some ⟨w.heap.size + 1, 0, none⟩) 0 0) 0 (M.encBs (M.boolsTo (M.wF m) 0)) ∧ Box3 W2 w.heap.size 29 (.int .i64 m.size) (.slice a m.doors.length c) (.slice b m.keys.length d) ∧ Below w.heap.size w W2 from ⟨o2, x2, hb2⟩)
  clear hW2 hb2 x2 o2
  go_loopw [3, 4, 5, 6, 7, 8] (fun v3 v4 _ _ _ _ wr => ∃ (k : Nat), k ≤ 64 ∧ v4 = .int .i64 k ∧ wr.ownsRow w.heap.size 4 1 v3 k (M.encBs (M.boolsTo (M.wF m) k)) ∧ Box3 wr w.heap.size 29 (.int .i64 m.size) (.slice a m.doors.length c) (.slice b m.keys.length d) ∧ Below w.heap.size w wr) (fun _ v4 _ _ _ _ _ => 64 - (intOf v4).toNat)
  case atStart => exact ⟨0, Nat.zero_le _, rfl, ST.out.1, ST.out.2.1, ST.out.2.2⟩
  case round =>
    obtain ⟨wo, hwo⟩ : ∃ x, x = wr := ⟨_, rfl⟩
    subst hwo
    obtain ⟨k, hk, rfl, hso, hx, hlow⟩ := hrel
    obtain ⟨la, lc, hv, hl1, hl2, _⟩ := own_slice hso
    subst hv
    have SO := Lib.hid hso
    have X7 := Lib.hid hx
    have LO := Lib.hid hlow
    have hzr := hlow.size
    have hxl := hx.lt
    obtain ⟨c0, c1, c2⟩ := hx.cells
    clear hso hx hlow
    by_cases hkl : k < 64
    · have HBS := Lib.hid (M.boolsTo_succ (M.wF m) hkl)
      have hs64 : (0 : Int) ≤ (k : Int) ∧ (k : Int) < 64 := by omega
      have HON := Lib.hid (M.only_valid HVA.out hs64)
      have HWF : Hid (M.memB (M.reachOf (M.onlyS m (k : Int)) 0 (M.finC (M.onlyS m (k : Int)) 0)) (m.size - 1) = M.wF m ⟨k, hkl⟩) := Lib.hid rfl
      go_wp2_with fail
      refine (l2Own_any wo lo hi m a b c d (H.out.below LO.out hz) (by omega) (by omega) (by omega)).mono ?_
      rintro e w3 ⟨ca, cc, cb, cd, rfl, ho, hb3⟩
      have hz3w := hb3.size
      go_wp2_with fail
      refine wp_named ?_
      intro W4 hW4
      have hb4 : Below w3.heap.size w3 W4 := by rw [hW4]; exact below_alloc _ _
      have t4 : Box3 W4 w3.heap.size 29 (.int .i64 m.size) (.slice ca m.doors.length cc) (.slice cb m.keys.length cd) := by rw [hW4]; exact Box3.new _ _ _ _ rfl
      have STK := Lib.hid (show KSt wo w.heap.size m a b c d wo.heap.size w3.heap.size ca cb cc cd W4 (M.repT (fun x => bits .and .i64 x (k : Int)) m.keys 0) from by
        rw [M.repT_zero]
        exact ⟨(X7.out.below hb3).below hb4, t4, ho.below hb4 (Nat.le_refl _), hb3.trans (hb4.mono hz3w)⟩)
      have hz4 := hb4.size
      clear hW4 hb3 hb4 ho t4 c0 c1 c2
      go_loopw [6] (fun i wr => ∃ (j : Nat), j ≤ m.keys.length ∧ i = .int .i64 j ∧ KSt wo w.heap.size m a b c d wo.heap.size w3.heap.size ca cb cc cd wr (M.repT (fun x => bits .and .i64 x (k : Int)) m.keys j)) (fun i _ => m.keys.length - (intOf i).toNat)
      case atStart => exact ⟨0, Nat.zero_le _, rfl, STK.out⟩
      case round =>
        obtain ⟨j, hj, rfl, hst⟩ := hrel
        have SR := Lib.hid hst
        obtain ⟨b0, b1, b2⟩ := hst.box.cells
        obtain ⟨o0, o1, o2⟩ := hst.out.cells
        have hbl := hst.out.lt
        clear hst
        by_cases hjl : j < m.keys.length
        · obtain ⟨g, off, hcb, hg1, hg2, hc0⟩ := SR.out.own.keys.row.at_ (k := j) (by rw [M.encIs_len]; show j < (M.repT _ m.keys j).length; rw [M.repT_len]; exact hjl)
          have cx : wr.cell? ⟨g, off + j, none⟩ = some (.int .i64 m.keys[j]) := hc0 _ _ (by show (M.encIs (M.repT _ m.keys j))[j]? = _; unfold M.encIs; rw [List.getElem?_map, M.repT_get hjl]; rfl)
          have fx : wr.frozen? ⟨g, off + j, none⟩ = false := SR.out.own.keys.free hcb (k := j) (by rw [M.encIs_len]; show j < (M.repT _ m.keys j).length; rw [M.repT_len]; exact hjl) _
          obtain ⟨ib, ioff, hib, _, hib2, hic⟩ := H.out.keys.at_ (k := j) (by rw [M.encIs_len]; exact hjl)
          subst hib
          have HLW := Lib.hid (LO.out.trans (SR.out.low.mono hzr))
          have kx : wr.cell? ⟨ib, ioff + j, none⟩ = some (.int .i64 m.keys[j]) := (HLW.out.cell (p := ⟨ib, ioff + j, none⟩) (show ib < w.heap.size by omega)).trans (hic _ _ (M.encIs_at hjl))
          have hjd : j < d := by have := H.out.d1; omega
          clear hc0 hic
          subst hcb
          have hss := SR.out.set (v := bits .and .i64 m.keys[j] (k : Int)) hxl (Nat.le_refl _) hg1 hg2 (k := j) (by rw [M.repT_len]; exact hjl)
          rw [show (M.repT (fun x => bits .and .i64 x (k : Int)) m.keys j).set j (bits .and .i64 m.keys[j] (k : Int)) = _ from M.repT_set (f := fun x => bits .and .i64 x (k : Int)) hjl] at hss
          have SS := Lib.hid hss
          obtain ⟨b0', b1', b2'⟩ := hss.box.cells
          obtain ⟨o0', o1', o2'⟩ := hss.out.cells
          have HLS := Lib.hid (LO.out.trans (hss.low.mono hzr))
          clear hss
          have kxs : (wr.setCell ⟨g, off + j, none⟩ (.int .i64 (bits .and .i64 m.keys[j] (k : Int)))).cell? ⟨ib, ioff + j, none⟩ = some (.int .i64 m.keys[j]) := (HLS.out.cell (p := ⟨ib, ioff + j, none⟩) (show ib < w.heap.size by omega)).trans ((HLW.out.cell (p := ⟨ib, ioff + j, none⟩) (show ib < w.heap.size by omega)).symm.trans kx)
          go_wp2_with fail
          go_region_held3 (fun wq => wq.cell? ⟨w.heap.size, 2, none⟩ = some (.slice (some ⟨ib, ioff, none⟩) m.keys.length d) ∧ wq.cell? ⟨w3.heap.size, 2, none⟩ = some (.slice (some ⟨g, off, none⟩) m.keys.length cd) ∧ wq.cell? ⟨ib, ioff + j, none⟩ = some (.int .i64 m.keys[j])) (first | exact ⟨b2, o2, kx⟩ | exact ⟨b2', o2', kxs⟩ | go_keep) (fail)
          go_wp2_with fail
          go_roundw
          case rel => exact ⟨j + 1, by omega, by go_num, SS.out.later (below_drawn _ _)⟩
          case measure => simp [intOf]; omega
        · obtain rfl : j = m.keys.length := by omega
          have hown := SR.out.own
          rw [M.repT_all] at hown
          have HMO := Lib.hid (show MzIn wo.heap.size w3.heap.size wr (M.onlyS m (k : Int)) ca cc cb cd from hown.mz)
          have hkeq : (M.onlyS m (k : Int)).keys.length = m.keys.length := by unfold M.onlyS; rw [List.length_map]
          have HCL := Lib.hid (close_any wr wo.heap.size w3.heap.size (M.onlyS m (k : Int)) ca cb cc cd HMO.out (by omega) HON.out 0 (by omega) (by omega))
          rw [show (M.onlyS m (k : Int)).size = m.size from rfl, show (M.onlyS m (k : Int)).doors = m.doors from rfl, hkeq] at HCL
          have hrl := M.rchL_len (M.onlyS m (k : Int)).doors (M.openTo (M.finC (M.onlyS m (k : Int)) 0)) 0
          have hlen : (M.reachOf (M.onlyS m (k : Int)) 0 (M.finC (M.onlyS m (k : Int)) 0)).length ≤ 1048576 := by unfold M.reachOf; omega
          clear hown hkeq hrl
          generalize M.reachOf (M.onlyS m (k : Int)) 0 (M.finC (M.onlyS m (k : Int)) 0) = L at *
          generalize M.finC (M.onlyS m (k : Int)) 0 = fc at *
          go_wp2_with fail
          refine HCL.out.mono ?_
          rintro e w5 ⟨ra, rc, rfl, hr, hr1, hr2, hb5⟩
          have HR := Lib.hid hr
          have hb05 := SR.out.low.trans (hb5.mono SR.out.low.size)
          have SO5 := Lib.hid (own_below SO.out hb05)
          have X5 := Lib.hid (X7.out.below hb05)
          have LO5 := Lib.hid (LO.out.trans (hb05.mono hzr))
          have hz5 := hb05.size
          have HNE := Lib.hid (own_ne_box SO5.out X5.out (by decide))
          clear hr hb5 hb05 b0 b1 b2 o0 o1 o2
          obtain ⟨c0, c1, c2⟩ := X5.out.cells
          generalize hwf : M.wF m ⟨k, hkl⟩ = q at *
          clear hwf
          go_wp2_with (first
            | (go_at_call 88; refine (l1Has_any w5 _ _ ra rc L (m.size - 1) HR.out.row hlen).mono ?_; rintro e w6 ⟨rfl, rfl⟩; rw [HWF.out])
            | (at_builtin; refine wpList_append_own _ rfl _ _ 51 rfl w.heap.size 4 ii0 (.bool false) 1 1 Try.underlying51 hi0 hz0 hzz1 hz2 rfl (by decide) _ _ _ rfl (SO5.out.alloc _) ⟨w5.heap.size, 0, none⟩ 1 1 [.bool q] rfl rfl (cell_one_new _ _ _) (fun x hx => by simp at hx; subst hx; rfl) (by unfold maxLen; omega) (by omega) (by simp; omega) ?_; intro v' w7 hown' hgrow3 hnil3))
          go_roundw
          case rel =>
            refine ⟨k + 1, by omega, by go_num, ?_, (X5.out.alloc _).grown hgrow3 HNE.out, (LO5.out.alloc (by omega) _).grown hgrow3 (by simp; omega) (own_base SO5.out)⟩
            rw [HBS.out, M.encBs_append]
            exact hown'
          case measure => simp [intOf]; omega
    · obtain rfl : k = 64 := by omega
      go_wp2_with fail
      go_ret
      refine bls_end (l := M.boolsF (M.wF m)) ?_ LO.out
      rw [M.boolsF_len]
      exact SO.out
theorem l6Bars_any (w : World) (lo hi : Nat) (m : M.Mz) (a b : Option Addr) (c d : Nat) (h : MzIn lo hi w m a c b d) (hz : hi ≤ w.heap.size) (V : M.Valid m) :
    Calls Try.prog 66 #[.agg #[.int .i64 m.size, .slice a m.doors.length c, .slice b m.keys.length d]] w (BlsPost w (M.boolsF (M.bF m))) := by
  obtain ⟨ii0, hi0, hz0, hzz1, hz2⟩ := info_parts infoB
  have H := Lib.hid h
  have HWI := Lib.hid (fun (W' : World) (hq : Below w.heap.size w W') => l6Wins_any W' lo hi m a b c d (H.out.below hq hz) (by have := hq.size; omega) V)
  clear h V
  have HBA := Lib.hid (fun s : M.St6 => M.boolsF_at (M.wF m) s)
  have HBL := Lib.hid (M.boolsF_len (M.wF m))
  generalize M.boolsF (M.wF m) = R at *
  go_enter Try.func66, Try.ntmps66
  go_wp2_with fail
  refine named ?_
  intro W hW
  have hb : Below w.heap.size w W := by rw [hW]; exact (below_alloc _ _).alloc (by simp) _
  have o2 : W.ownsRow w.heap.size 4 1 (.slice (some ⟨w.heap.size + 1, 0, none⟩) 0 0) 0 (M.encBs (M.boolsTo (M.bF m) 0)) := by rw [hW, M.boolsTo_zero]; exact (by simpa [M.encBs] using ownsRow_empty (w.alloc _) w.heap.size 4 1 (by simp))
  clear hW
  refine (HWI.out W hb).mono ?_
  rintro e w2 ⟨ra, rc, rfl, hr, hr1, hr2, hb2⟩
  rw [HBL.out] at hr1 ⊢
  have HR := Lib.hid hr
  have hgW : w.heap.size + 1 < W.heap.size := (o2.lt (w.heap.size + 1) rfl).2
  have ST := Lib.hid (show OwnQ w.heap.size w2 4 1 (.slice (some ⟨w.heap.size + 1, 0, none⟩) 0 0) 0 (M.encBs (M.boolsTo (M.bF m) 0)) ∧ Below w.heap.size w w2 from ⟨OwnQ.of_own (own_below o2 hb2), hb.trans (hb2.mono hb.size)⟩)
  have hzW := hb.size
  have hz2' := hb2.size
  clear hr hb hb2 o2
  go_wp2_with fail
  go_loopw [3, 5] (fun v3 v5 wr => ∃ (k : Nat), k ≤ 64 ∧ v5 = .int .i64 k ∧ OwnQ w.heap.size wr 4 1 v3 k (M.encBs (M.boolsTo (M.bF m) k)) ∧ (∀ z, v3.ownBlock = some z → z < W.heap.size ∨ w2.heap.size ≤ z) ∧ Below w.heap.size w wr ∧ OwnAt W.heap.size w2.heap.size wr 4 ra (M.encBs R) ∧ w2.heap.size ≤ wr.heap.size) (fun _ v5 _ => 64 - (intOf v5).toNat)
  case atStart => exact ⟨0, Nat.zero_le _, rfl, ST.out.1, fun z hz => by (have : w.heap.size + 1 = z := by simpa [Value.ownBlock] using hz); omega, ST.out.2, HR.out, Nat.le_refl _⟩
  case round =>
    obtain ⟨k, hk, rfl, hso, hnb, hlow, hrow, hsz⟩ := hrel
    obtain ⟨la, lc, hv, hl1, hl2⟩ := hso.shape
    have NB := Lib.hid hnb
    have hbs := Lib.hid hso.base
    clear hnb
    subst hv
    have SO := Lib.hid hso
    have LO := Lib.hid hlow
    have RO := Lib.hid hrow
    have hzr := hlow.size
    clear hso hlow hrow
    by_cases hkl : k < 64
    · have HBS := Lib.hid (M.boolsTo_succ (M.bF m) hkl)
      have hat := HBA.out (M.notF ⟨k, hkl⟩)
      have hjl : (M.notF ⟨k, hkl⟩).val < (M.encBs R).length := by rw [M.encBs_len, HBL.out]; exact (M.notF ⟨k, hkl⟩).isLt
      obtain ⟨rb, off, hra, hr3, hr4, hc0⟩ := RO.out.row.at_ hjl
      have c0 := hc0 _ _ hat
      have hj : (63 : Int) - (k : Int) = ((63 - k : Nat) : Int) := by omega
      have hj64 : 63 - k < 64 := by omega
      have hbq : M.bF m ⟨k, hkl⟩ = !M.wF m (M.notF ⟨k, hkl⟩) := rfl
      have HBS2 : Hid (M.boolsTo (M.bF m) (k + 1) = M.boolsTo (M.bF m) k ++ [!M.wF m (M.notF ⟨k, hkl⟩)]) := Lib.hid (by rw [HBS.out, hbq])
      rw [show (M.notF ⟨k, hkl⟩).val = 63 - k from rfl] at c0
      have HAL := Lib.hid hra
      subst hra
      clear hc0 hat hjl hbq HBS
      generalize M.wF m (M.notF ⟨k, hkl⟩) = q at *
      generalize 63 - k = j at *
      go_wp2_with (at_builtin; refine wpList_append_q rfl _ _ 51 rfl w.heap.size 4 ii0 (.bool false) 1 1 Try.underlying51 hi0 hz0 hzz1 hz2 rfl _ _ _ rfl (SO.out.below (below_alloc _ _)) ⟨wr.heap.size, 0, none⟩ 1 [.bool (!q)] rfl rfl (cell_one_new _ _ _) (fun x hx => by simp at hx; subst hx; rfl) (by unfold maxLen; omega) (by omega) (by simp; omega) ?_; intro v' w7 hown' hgrow3 hnil3)
      go_roundw
      case rel =>
        refine ⟨k + 1, by omega, by go_num, ?_, ?_, (LO.out.alloc (by omega) _).grown hgrow3 (by simp; omega) (fun z hz => (hbs.out z hz).1), ?_, by have := hgrow3.size; simp at this; omega⟩
        · rw [HBS2.out, M.encBs_append]
          exact hown'
        · intro z hz
          rcases hnil3 with e | e
          · rw [e] at hz; exact NB.out z hz
          · rw [e] at hz
            injection hz with hz
            have : wr.heap.size + 1 = z := by simpa using hz
            omega
        · exact (RO.out.below (below_alloc _ _) hsz).grownRow hgrow3 (by simp; omega) NB.out
      case measure => simp [intOf]; omega
    · obtain rfl : k = 64 := by omega
      go_wp2_with fail
      go_ret
      have ho := SO.out.own rfl
      exact ⟨la, lc, by rw [M.boolsF_len]; rfl, ho, by rw [M.boolsF_len]; exact hl1, by unfold maxLen at hl2; omega, LO.out⟩
end C
end Go.Proofs.Ytcoaggnilgfjfaa
namespace Go.Proofs.Ytcoaggnilgfjfaa
open Go.RowKit
namespace M
def st6 (s : Int) : St6 := ⟨s.toNat % 64, Nat.mod_lt _ (by decide)⟩
theorem st6_val {s : Int} (h : 0 ≤ s ∧ s < 64) : ((st6 s).val : Int) = s := by show ((s.toNat % 64 : Nat) : Int) = s; omega
end M
namespace C
set_option maxHeartbeats 3200000
set_option maxRecDepth 20000
end C
end Go.Proofs.Ytcoaggnilgfjfaa
