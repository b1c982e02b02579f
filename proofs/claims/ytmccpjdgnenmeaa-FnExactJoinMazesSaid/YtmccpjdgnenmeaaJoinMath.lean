/-
  MATHEMATICS of two mazes joined, own to these proofs: the doors of the second come behind those of the first, and stand in order so; put one by one or sorted: the same. No condition but that both are valid.
-/
import Derived.Test.YtmccpjdgnenmeaaAddMath
namespace Go.Proofs.Ytmccpjdgnenmeaa
open Go.RowKit
namespace M
def shD (by' : Int) (d : Dr) : Dr := (d.1 + by', d.2.1 + by', d.2.2)
def joinKs (a b : Mz) : List Int := a.keys.set (a.size - 1).toNat (bits .or .i64 (a.keys.getD (a.size - 1).toNat 0) (b.keys.getD 0 0)) ++ b.keys.drop 1
def joinDs (a b : Mz) (k : Nat) : List Dr := a.doors ++ (b.doors.take k).map (shD (a.size - 1))
def joinOf (a b : Mz) : Mz := ⟨a.size + b.size - 1, joinDs a b b.doors.length, joinKs a b⟩
def joinB (a b : Mz) : Bool := mazeB a && mazeB b && mazeB (joinOf a b)
def joinV (a b : Mz) : Mz := if joinB a b then joinOf a b else C.mz0
theorem joinV_yes {a b : Mz} (h : joinB a b = true) : joinV a b = joinOf a b := by unfold joinV; rw [if_pos h]
theorem joinV_no {a b : Mz} (h : joinB a b = false) : joinV a b = C.mz0 := by unfold joinV; rw [h]; rfl
theorem joinV_len (a b : Mz) : (joinV a b).doors.length ≤ 1048576 ∧ (joinV a b).keys.length ≤ 1048576 := by
  unfold joinV
  split
  · rename_i h
    unfold joinB at h
    rw [Bool.and_eq_true] at h
    have V := valid_of h.2
    have h1 := V.few
    have h2 := V.keysLen
    have h3 := V.size12
    omega
  · simp [C.mz0]
theorem joinDs_zero (a b : Mz) : joinDs a b 0 = a.doors := by simp [joinDs]
theorem joinDs_succ {a b : Mz} {k : Nat} (hk : k < b.doors.length) : joinDs a b (k + 1) = joinDs a b k ++ [shD (a.size - 1) b.doors[k]] := by
  unfold joinDs
  rw [List.take_succ_eq_append_getElem hk, List.map_append, List.map_cons, List.map_nil, List.append_assoc]
theorem joinDs_len {a b : Mz} {k : Nat} (hk : k ≤ b.doors.length) : (joinDs a b k).length = a.doors.length + k := by
  unfold joinDs
  rw [List.length_append, List.length_map, List.length_take, Nat.min_eq_left hk]
theorem doorOf_sh {a b : Mz} (V : Valid b) {k : Nat} (hk : k < b.doors.length) : doorOf (b.doors[k].1 + (a.size - 1)) (b.doors[k].2.1 + (a.size - 1)) b.doors[k].2.2 = shD (a.size - 1) b.doors[k] := by
  have h := V.door k hk
  unfold doorOf shD
  rw [Int.min_def, Int.max_def, if_pos (by omega), if_pos (by omega)]
theorem ltD_sh (n : Int) (d e : Dr) : ltD (shD n d) (shD n e) = ltD d e := by
  unfold ltD shD
  rw [Bool.eq_iff_iff, decide_eq_true_iff, decide_eq_true_iff]
  simp only
  omega
theorem joinDs_asc {a b : Mz} (A : Valid a) (B : Valid b) (k : Nat) : Asc ltD (joinDs a b k) := by
  unfold joinDs Asc
  rw [List.pairwise_append]
  refine ⟨A.asc, ?_, ?_⟩
  · rw [List.pairwise_map]
    refine ((List.Pairwise.sublist (List.take_sublist k _) B.asc)).imp ?_
    intro d e h
    rw [ltD_sh]
    exact h
  · intro d hd e he
    rw [List.mem_map] at he
    obtain ⟨f, hf, rfl⟩ := he
    have h1 := doorB_iff.1 (A.ok d hd)
    have h2 := doorB_iff.1 (B.ok f (List.mem_of_mem_take hf))
    unfold ltD shD
    rw [decide_eq_true_iff]
    simp only
    omega
/-- a door that comes behind all others is put behind them -/
theorem put_last {l : List Dr} {d : Dr} (h : Asc ltD (l ++ [d])) : put ltD l d = l ++ [d] :=
  Asc.ext ordD (Asc.put ordD (List.Pairwise.sublist (List.sublist_append_left l [d]) h) d) h fun x => by rw [mem_put, List.mem_append, List.mem_singleton]
theorem join_put {a b : Mz} (A : Valid a) (B : Valid b) {k : Nat} (hk : k < b.doors.length) : put ltD (joinDs a b k) (doorOf (b.doors[k].1 + (a.size - 1)) (b.doors[k].2.1 + (a.size - 1)) b.doors[k].2.2) = joinDs a b (k + 1) := by
  rw [doorOf_sh B hk, put_last (by rw [← joinDs_succ hk]; exact joinDs_asc A B (k + 1)), joinDs_succ hk]
/-- a list that ascends is sorted -/
theorem srt_of_asc {l : List Dr} (h : Asc ltD l) : srt l = l := Asc.ext ordD (srt_asc h.nodup) h fun _ => mem_srt
theorem sorted_join {a b : Mz} (A : Valid a) (B : Valid b) : sorted (joinOf a b) = joinOf a b := by
  show (⟨_, srt (joinOf a b).doors, _⟩ : Mz) = _
  rw [show (joinOf a b).doors = joinDs a b b.doors.length from rfl, srt_of_asc (joinDs_asc A B _)]
  rfl
theorem joinB_sorted {a b : Mz} (ha : mazeB a = true) (hb : mazeB b = true) : joinB a b = sortedB (joinOf a b) := by
  unfold sortedB joinB
  rw [ha, hb, sorted_join (valid_of ha) (valid_of hb)]
  rfl
theorem joinKs_len {a b : Mz} (B : Valid b) : (joinKs a b).length + 1 = a.keys.length + b.keys.length := by
  have h1 := B.keysLen
  have h2 := B.size1
  unfold joinKs
  rw [List.length_append, List.length_set, List.length_drop]
  omega
end M
end Go.Proofs.Ytmccpjdgnenmeaa
