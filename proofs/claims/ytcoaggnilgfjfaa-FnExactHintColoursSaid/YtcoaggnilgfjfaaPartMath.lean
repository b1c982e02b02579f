/-
  MATHEMATICS of mazes without a part, own to these proofs: without the doors at a node, without a colour, without the keys at a node: a valid maze stays one. No condition.
-/
import Derived.Test.YtcoaggnilgfjfaaUBase
namespace Go.Proofs.Ytcoaggnilgfjfaa
open Go.RowKit
namespace M
theorem Valid.doorB {m : Mz} (V : Valid m) {d : Dr} (h : d ∈ m.doors) : 0 ≤ d.1 ∧ d.1 < m.size ∧ 0 ≤ d.2.1 ∧ d.2.1 < m.size ∧ d.1 < d.2.1 ∧ 0 ≤ d.2.2 ∧ d.2.2 < 64 := by
  obtain ⟨k, hk, rfl⟩ := List.mem_iff_getElem.1 h
  exact V.door k hk
theorem Valid.keyB {m : Mz} (V : Valid m) {s : Int} (h : s ∈ m.keys) : 0 ≤ s ∧ s < 64 := by
  obtain ⟨k, hk, rfl⟩ := List.mem_iff_getElem.1 h
  exact V.key k hk
/-- a maze of some of the doors, in their order, and other keys -/
theorem Valid.part {m : Mz} (V : Valid m) {ds : List Dr} {ks : List Int} (h1 : ds.Sublist m.doors) (h2 : ks.length = m.keys.length) (h3 : ∀ s ∈ ks, 0 ≤ s ∧ s < 64) : Valid ⟨m.size, ds, ks⟩ where
  size1 := V.size1
  size12 := V.size12
  few := Nat.le_trans h1.length_le V.few
  keysLen := by show ((ks.length : Nat) : Int) = m.size; rw [h2]; exact V.keysLen
  door := fun _ hk => V.doorB (h1.subset (List.getElem_mem hk))
  sorted := (show Asc ltD ds from List.Pairwise.sublist h1 V.asc).sorted
  key := fun _ hk => h3 _ (List.getElem_mem hk)
def atB (d : Dr) (x : Int) : Bool := decide (d.1 = x ∨ d.2.1 = x)
def noNode (m : Mz) (x : Int) : Mz := ⟨m.size, m.doors.filter fun d => !atB d x, m.keys⟩
theorem noNode_valid {m : Mz} (V : Valid m) (x : Int) : Valid (noNode m x) := V.part List.filter_sublist rfl fun _ h => V.keyB h
def lessS (s : Int) (t : Int) : Int := bits .andNot .i64 s t
theorem less_fin : ∀ s t : Fin 64, 0 ≤ lessS (s.val : Int) (t.val : Int) ∧ lessS (s.val : Int) (t.val : Int) < 64 := by decide +kernel
theorem less_set {s t : Int} (h0 : 0 ≤ s) (h1 : s < 64) (h2 : 0 ≤ t) (h3 : t < 64) : 0 ≤ lessS s t ∧ lessS s t < 64 := by
  have := less_fin ⟨s.toNat, by omega⟩ ⟨t.toNat, by omega⟩
  simp only at this
  rwa [Int.toNat_of_nonneg h0, Int.toNat_of_nonneg h2] at this
def noSet (m : Mz) (t : Int) : Mz := ⟨m.size, m.doors, m.keys.map fun s => lessS s t⟩
theorem noSet_valid {m : Mz} (V : Valid m) {t : Int} (h2 : 0 ≤ t) (h3 : t < 64) : Valid (noSet m t) := V.part (List.Sublist.refl _) (by simp) fun s h => by
  obtain ⟨u, hu, rfl⟩ := List.mem_map.1 h
  have := V.keyB hu
  exact less_set this.1 this.2 h2 h3
def noKeys (m : Mz) (x : Nat) : Mz := ⟨m.size, m.doors, m.keys.set x 0⟩
theorem noKeys_valid {m : Mz} (V : Valid m) (x : Nat) : Valid (noKeys m x) := V.part (List.Sublist.refl _) (by simp) fun s h => by
  rcases List.mem_or_eq_of_mem_set h with h | rfl
  · exact V.keyB h
  · exact ⟨by decide, by decide⟩
def noDoor (m : Mz) (k : Nat) : Mz := ⟨m.size, m.doors.take k ++ m.doors.drop (k + 1), m.keys⟩
theorem noDoor_valid {m : Mz} (V : Valid m) (k : Nat) : Valid (noDoor m k) := V.part (by rw [← List.eraseIdx_eq_take_drop_succ]; exact List.eraseIdx_sublist ..) rfl fun _ h => V.keyB h
/-- the first k doors without those at a node -/
theorem noNode_take_yes {l : List Dr} {x : Int} {k : Nat} (hk : k < l.length) (h : atB l[k] x = false) : (l.take (k + 1)).filter (fun d => !atB d x) = (l.take k).filter (fun d => !atB d x) ++ [l[k]] := by
  rw [List.take_succ_eq_append_getElem hk, List.filter_append, List.filter_cons_of_pos (p := fun d => !atB d x) (by show (!atB l[k] x) = true; rw [h]; rfl)]
  rfl
theorem noNode_take_no {l : List Dr} {x : Int} {k : Nat} (hk : k < l.length) (h : atB l[k] x = true) : (l.take (k + 1)).filter (fun d => !atB d x) = (l.take k).filter (fun d => !atB d x) := by
  rw [List.take_succ_eq_append_getElem hk, List.filter_append, List.filter_cons_of_neg (p := fun d => !atB d x) (by show ¬ (!atB l[k] x) = true; rw [h]; decide)]
  simp
end M
end Go.Proofs.Ytcoaggnilgfjfaa
