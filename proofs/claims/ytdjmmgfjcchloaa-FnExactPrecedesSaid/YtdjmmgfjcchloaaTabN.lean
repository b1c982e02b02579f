/-
  MATHEMATICS of the table of orders, own to these proofs: for each set of nodes the number of entry orders that have just these; and a list of many zeros that the call makes. No condition.
-/
import Derived.Test.YtdjmmgfjcchloaaOrdMath3
import Derived.Laws.MakeOwn
import Derived.OwnWalk
namespace Go.Proofs.Ytdjmmgfjcchloaa
open Go.RowKit
namespace M
/-- one more node x behind the nodes of c -/
def addT (c : Nat) (T : List Int) (x : Int) : List Int := T.set (c ||| 2 ^ x.toNat) (wrap64 (T.getD (c ||| 2 ^ x.toNat) 0 + T.getD c 0))
def nxs (m : Mz) (c : Nat) : List Int := digsTo (nextN m c) 12
def inT (m : Mz) (c : Nat) (T : List Int) (k : Nat) : List Int := ((nxs m c).take k).foldl (addT c) T
def startT (N : Nat) : List Int := (List.replicate N 0).set 1 1
def tabT (m : Mz) (N : Nat) : Nat → List Int
  | 0 => startT N
  | c + 1 => inT m c (tabT m N c) (nxs m c).length
theorem addT_len (c : Nat) (T : List Int) (x : Int) : (addT c T x).length = T.length := by unfold addT; rw [List.length_set]
theorem foldT_len (c : Nat) : ∀ (l : List Int) (T : List Int), (l.foldl (addT c) T).length = T.length
  | [], _ => rfl
  | x :: l, T => by rw [List.foldl_cons, foldT_len c l, addT_len]
theorem inT_len (m : Mz) (c : Nat) (T : List Int) (k : Nat) : (inT m c T k).length = T.length := foldT_len c _ _
theorem inT_zero (m : Mz) (c : Nat) (T : List Int) : inT m c T 0 = T := rfl
theorem inT_succ {m : Mz} {c k : Nat} (T : List Int) (h : k < (nxs m c).length) : inT m c T (k + 1) = addT c (inT m c T k) (nxs m c)[k] := by
  unfold inT
  rw [List.take_succ_eq_append_getElem h, List.foldl_append]
  rfl
theorem tabT_len (m : Mz) (N : Nat) : ∀ c, (tabT m N c).length = N
  | 0 => by unfold tabT startT; rw [List.length_set, List.length_replicate]
  | c + 1 => by unfold tabT; rw [inT_len, tabT_len m N c]
theorem digB_two {c s : Nat} (h : c < 2 ^ s) {p : Nat} (hp : digB c p = true) : p < s := by
  rcases Nat.lt_or_ge p s with h1 | h1
  · exact h1
  · rw [digB_lt (k := s) (Nat.div_eq_of_lt h) h1] at hp
    cases hp
/-- a next node of c -/
theorem nxs_at {m : Mz} (V : Valid m) {c k : Nat} (hc : c < 2 ^ m.size.toNat) (h : k < (nxs m c).length) : ∃ p : Nat, (nxs m c)[k] = (p : Int) ∧ (p : Int) < m.size ∧ c ||| 2 ^ p < 2 ^ m.size.toNat ∧ c ≠ c ||| 2 ^ p := by
  obtain ⟨p, h1, h2, h3⟩ := mem_digsTo.1 (List.getElem_mem h)
  have hps : (p : Int) < m.size := by
    by_cases h0 : c = 0
    · subst h0
      have e0 : nextN m 0 = 2 ^ 0 := rfl
      rw [e0, digB_pow, decide_eq_true_iff] at h3
      have := V.size1
      omega
    · rw [digB_nextN V h0] at h3
      exact nextB_lt V h3
  refine ⟨p, h1, hps, Nat.or_lt_two_pow hc (Nat.pow_lt_pow_of_lt (by decide) (by omega)), ?_⟩
  have := or_new (next_new V h3)
  omega
theorem wrap64_id {x : Int} (h : -9223372036854775808 ≤ x ∧ x ≤ 9223372036854775807) : wrap64 x = x := by unfold wrap64; omega
theorem tabT_one (m : Mz) {N : Nat} (hN : 2 ≤ N) : tabT m N 1 = tabT m N 0 := by
  have e : nxs m 0 = [0] := by show digsTo (nextN m 0) 12 = [0]; rw [show nextN m 0 = 1 from rfl]; decide
  show ((nxs m 0).take (nxs m 0).length).foldl (addT 0) (startT N) = startT N
  rw [e]
  have h1 : (startT N).getD 1 0 = 1 := by unfold startT; rw [List.getD_eq_getElem?_getD, List.getElem?_set_self (by rw [List.length_replicate]; omega)]; rfl
  have h0 : (startT N).getD 0 0 = 0 := by unfold startT; rw [List.getD_eq_getElem?_getD, List.getElem?_set_ne (by decide)]; cases N with | zero => omega | succ n => rfl
  show (startT N).set 1 (wrap64 ((startT N).getD 1 0 + (startT N).getD 0 0)) = startT N
  rw [h1, h0]
  show ((List.replicate N (0 : Int)).set 1 1).set 1 (wrap64 (1 + 0)) = (List.replicate N 0).set 1 1
  rw [List.set_set, show wrap64 (1 + 0) = 1 from wrap64_id (by decide)]
def InR (T : List Int) : Prop := ∀ x ∈ T, -9223372036854775808 ≤ x ∧ x ≤ 9223372036854775807
theorem wrap64_in (x : Int) : -9223372036854775808 ≤ wrap64 x ∧ wrap64 x ≤ 9223372036854775807 := by unfold wrap64; omega
theorem InR.add {T : List Int} (h : InR T) (c : Nat) (x : Int) : InR (addT c T x) := fun y hy => by
  unfold addT at hy
  rcases List.mem_or_eq_of_mem_set hy with hy | rfl
  · exact h y hy
  · exact wrap64_in _
theorem foldT_in (c : Nat) : ∀ (l : List Int) (T : List Int), InR T → InR (l.foldl (addT c) T)
  | [], _, h => h
  | x :: l, _, h => foldT_in c l _ (h.add c x)
theorem tabT_in (m : Mz) (N : Nat) : ∀ c, InR (tabT m N c)
  | 0 => fun y hy => by
    unfold tabT startT at hy
    rcases List.mem_or_eq_of_mem_set hy with hy | rfl
    · rw [List.mem_replicate] at hy
      omega
    · decide
  | c + 1 => foldT_in c _ _ (tabT_in m N c)
theorem getD_in {T : List Int} (h : InR T) (k : Nat) : -9223372036854775808 ≤ T.getD k 0 ∧ T.getD k 0 ≤ 9223372036854775807 := by
  rw [List.getD_eq_getElem?_getD]
  rcases Nat.lt_or_ge k T.length with hk | hk
  · rw [List.getElem?_eq_getElem hk]
    exact h _ (List.getElem_mem hk)
  · rw [List.getElem?_eq_none hk]
    decide
/-- where no order has just these, nothing is added -/
theorem addT_none {c : Nat} {T : List Int} (h : InR T) (h0 : T.getD c 0 = 0) (x : Int) : addT c T x = T := by
  unfold addT
  rw [h0, Int.add_zero, wrap64_id (getD_in h _)]
  generalize c ||| 2 ^ x.toNat = t
  refine List.ext_getElem? fun i => ?_
  rcases Decidable.em (t = i) with rfl | hne
  · rcases Nat.lt_or_ge t T.length with hk | hk
    · rw [List.getElem?_set_self hk, List.getD_eq_getElem?_getD, List.getElem?_eq_getElem hk]; rfl
    · rw [List.getElem?_eq_none (by rw [List.length_set]; exact hk), List.getElem?_eq_none hk]
  · rw [List.getElem?_set_ne hne]
theorem foldT_none {c : Nat} : ∀ (l : List Int) {T : List Int}, InR T → T.getD c 0 = 0 → l.foldl (addT c) T = T
  | [], _, _, _ => rfl
  | x :: l, _, h, h0 => by rw [List.foldl_cons, addT_none h h0 x]; exact foldT_none l h h0
theorem tabT_none {m : Mz} {N c : Nat} (h0 : (tabT m N c).getD c 0 = 0) : tabT m N (c + 1) = tabT m N c := foldT_none _ (tabT_in m N c) h0
/-- the whole table -/
def ordT (m : Mz) : List Int := tabT m (2 ^ m.size.toNat) (2 ^ m.size.toNat)
theorem ordT_len (m : Mz) : (ordT m).length = 2 ^ m.size.toNat := tabT_len _ _ _
theorem encIs_set (T : List Int) (k : Nat) (v : Int) : (encIs T).set k (.int .i64 v) = encIs (T.set k v) := by unfold encIs; rw [List.map_set]
theorem two_size {m : Mz} (V : Valid m) : 2 ≤ 2 ^ m.size.toNat ∧ 2 ^ m.size.toNat ≤ 4096 := by
  have h1 := V.size1
  have h2 := V.size12
  have e1 : (2 : Nat) ^ 1 = 2 := rfl
  have e2 : (2 : Nat) ^ 12 = 4096 := rfl
  exact ⟨by rw [← e1]; exact Nat.pow_le_pow_right (by decide) (by omega), by rw [← e2]; exact Nat.pow_le_pow_right (by decide) (by omega)⟩
theorem wrap_two {m : Mz} (V : Valid m) : wrap64 (2 ^ m.size.toNat) = ((2 ^ m.size.toNat : Nat) : Int) := by
  have := (two_size V).2
  have e : ((2 : Int) ^ m.size.toNat) = ((2 ^ m.size.toNat : Nat) : Int) := by simp
  rw [e]
  generalize 2 ^ m.size.toNat = n at this
  unfold wrap64
  omega
theorem wrapsP {p : Nat} (h : p < 12) : wrap64 (2 ^ p) = 2 ^ p ∧ IntKind.i64.wrap (2 ^ p) = 2 ^ p := by
  have hp := pow12 h
  have e : ((2 : Int) ^ p) = ((2 ^ p : Nat) : Int) := by simp
  rw [e]
  generalize 2 ^ p = n at hp
  exact ⟨by unfold wrap64; omega, wraps_i64 _ (by omega) (by omega)⟩
end M
namespace C
theorem made_zeroT (n : Nat) : (madeCells (Value.int .i64 0).cells (n * 1)).toList = M.encIs (List.replicate n 0) := by
  refine List.ext_getElem? fun k => ?_
  unfold madeCells M.encIs
  rcases Nat.lt_or_ge k n with h | h
  · simp [h, Value.cells, Nat.mod_one]
  · simp [h]
theorem make_runT {i : TypeInfo} (hi : Try.prog.info? 3 = some i) (hz : i.zero = some (.int .i64 0)) (hs : i.size = 1) (hb : i.bytes = 8) {n : Nat} (hn : n ≤ 4096) : ∃ zs : Array Value, zs.size = n ∧ zs.toList = M.encIs (List.replicate n 0) ∧ ∀ w : World,
    (Instr.makeSlice 23 (.int .i64 (n : Int)) (.int .i64 (n : Int))).run Try.prog w = .ok (.slice (some ⟨w.heap.size, 0, none⟩) n n) (w.alloc (.cells zs 3)) := by
  refine ⟨madeCells (Value.int .i64 0).cells (n * 1), by rw [size_madeCells]; omega, made_zeroT n, fun w => ?_⟩
  have := run_make (P := Try.prog) w 23 3 i (.int .i64 0) Try.underlying23 hi hz .i64 .i64 n n (by omega) (Int.le_refl _) (by rw [hb]; omega) (by omega)
  rw [Int.toNat_natCast, hs] at this
  exact this
/-- the list made, at its block -/
theorem madeT {w : World} {n : Nat} {zs : Array Value} (hs : zs.toList = M.encIs (List.replicate n 0)) : OwnAt w.heap.size (w.heap.size + 1) (w.alloc (.cells zs 3)) 3 (some ⟨w.heap.size, 0, none⟩) (M.encIs (List.replicate n 0)) :=
  .inr ⟨w.heap.size, 0, zs, rfl, Nat.le_refl _, Nat.lt_succ_self _, heap_alloc_new w _, fun i u hu => by rw [Nat.zero_add, ← hs] at *; simpa using hu⟩
theorem OwnAt.at0 {lo hi g : Nat} {w : World} {T : TypeId} {xs : List Value} (h : OwnAt lo hi w T (some ⟨g, 0, none⟩) xs) {k : Nat} {u : Value} (hk : xs[k]? = some u) : w.cell? ⟨g, k, none⟩ = some u ∧ w.frozen? ⟨g, k, none⟩ = false := by
  have hkl : k < xs.length := by
    rcases Nat.lt_or_ge k xs.length with h1 | h1
    · exact h1
    · rw [List.getElem?_eq_none h1] at hk; cases hk
  obtain ⟨v, h1, h2, h3⟩ := h.cell0 hkl
  rw [hk] at h1
  injection h1 with h1
  subst h1
  exact ⟨h2, h3⟩
theorem encIs_getD {T : List Int} {k : Nat} (h : k < T.length) : (M.encIs T)[k]? = some (.int .i64 (T.getD k 0)) := by
  rw [M.encIs_at h, List.getD_eq_getElem?_getD, List.getElem?_eq_getElem h]; rfl
end C
end Go.Proofs.Ytdjmmgfjcchloaa
