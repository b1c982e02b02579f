/-
  PLAIN MATHEMATICS of joining: the join of a list of strings grows by the separator and the next string, and its length is the sum of the lengths and the separators. No condition; nothing of the program stands here.
-/
import Derived.Below
import Derived.Lib.Join
namespace Go.Proofs.Ytlbnofkjjjbfnaa
namespace M
def jL (ss : List ByteArray) (sep : ByteArray) : List UInt8 := Lib.join (ss.map (·.data.toList)) sep.data.toList
def jB (ss : List ByteArray) (sep : ByteArray) : ByteArray := ⟨(jL ss sep).toArray⟩
def tot (ss : List ByteArray) : Nat := (ss.map (·.size)).sum

theorem len_data (s : ByteArray) : s.data.toList.length = s.size := Array.length_toList
theorem jL_one (s sep : ByteArray) : jL [s] sep = s.data.toList := Lib.join_one _ _
theorem jL_snoc (ss : List ByteArray) (sep s : ByteArray) (h : ss ≠ []) : jL (ss ++ [s]) sep = jL ss sep ++ sep.data.toList ++ s.data.toList := by
  cases ss with
  | nil => exact absurd rfl h
  | cons x r =>
    unfold jL
    simp only [List.map_append, List.map_cons, List.map_nil, List.cons_append]
    rw [Lib.join_cons, Lib.join_cons]
    simp [Lib.joinTail]
theorem mk_append (a b : List UInt8) : (⟨(a ++ b).toArray⟩ : ByteArray) = ⟨a.toArray⟩ ++ ⟨b.toArray⟩ := by
  apply ByteArray.ext
  simp
theorem mk_data (s : ByteArray) : (⟨s.data.toList.toArray⟩ : ByteArray) = s := by simp
theorem jB_one (s sep : ByteArray) : jB [s] sep = s := by unfold jB; rw [jL_one, mk_data]
theorem jB_snoc (ss : List ByteArray) (sep s : ByteArray) (h : ss ≠ []) : jB (ss ++ [s]) sep = jB ss sep ++ sep ++ s := by
  unfold jB
  rw [jL_snoc _ _ _ h, mk_append, mk_append, mk_data, mk_data]
theorem tot_snoc (ss : List ByteArray) (s : ByteArray) : tot (ss ++ [s]) = tot ss + s.size := by simp [tot]
theorem mk_size (l : List UInt8) : (⟨l.toArray⟩ : ByteArray).size = l.length := rfl
theorem jL_len (r : List ByteArray) (sep : ByteArray) (h : sep.size = 1) : ∀ x : ByteArray, (jL (x :: r) sep).length = tot (x :: r) + r.length := by
  intro x
  unfold jL
  rw [List.map_cons, Lib.join_cons, List.length_append, len_data]
  have : (Lib.joinTail sep.data.toList (r.map (·.data.toList))).length = tot r + r.length := by
    induction r with
    | nil => simp [Lib.joinTail, tot]
    | cons y r ih =>
      simp only [Lib.joinTail, List.map_cons, List.flatten_cons, List.length_append, tot, List.sum_cons, List.length_cons] at ih ⊢
      rw [len_data, len_data, ih, h]
      omega
  rw [this]
  simp [tot]
  omega
theorem jB_size (ss : List ByteArray) (sep : ByteArray) (h : sep.size = 1) (hn : ss ≠ []) : (jB ss sep).size + 1 = tot ss + ss.length := by
  cases ss with
  | nil => exact absurd rfl hn
  | cons x r =>
    unfold jB
    rw [mk_size, jL_len r sep h x, List.length_cons]
    omega
theorem tot_take_le (ss : List ByteArray) (k : Nat) : tot (ss.take k) ≤ tot ss := by
  unfold tot
  induction ss generalizing k with
  | nil => simp
  | cons x r ih =>
    cases k with
    | zero => simp
    | succ k =>
      have := ih k
      simp only [List.take_succ_cons, List.map_cons, List.sum_cons]
      omega
theorem takeB_snoc (ss : List ByteArray) (k : Nat) (h : k < ss.length) : ss.take (k + 1) = ss.take k ++ [ss[k]] := List.take_succ_eq_append_getElem h
theorem take_ne {ss : List ByteArray} {k : Nat} (h : k < ss.length) (h0 : 0 < k) : ss.take k ≠ [] := by
  intro e
  have := congrArg List.length e
  rw [List.length_take, List.length_nil] at this
  omega
end M
end Go.Proofs.Ytlbnofkjjjbfnaa
