/-
  MATHEMATICS of one more door, own to these proofs: put to its place or sorted in: the same; when that is a maze. No condition.
-/
import Derived.Test.YtmccpjdgnenmeaaInOrder
namespace Go.Proofs.Ytmccpjdgnenmeaa
open Go.RowKit
namespace M
theorem put_srt {l : List Dr} {d : Dr} (hl : Asc ltD l) (h : d ∉ l) : put ltD l d = srt (l ++ [d]) := by
  have := putAll_srt_on (l := l) (ds := [d]) hl (by
    rw [List.nodup_append]
    refine ⟨hl.nodup, by simp, fun a ha b hb => ?_⟩
    rw [List.mem_singleton] at hb
    subst hb
    rintro rfl
    exact h ha)
  exact this
theorem put_mem {l : List Dr} {d : Dr} (hl : Asc ltD l) (h : d ∈ l) : put ltD l d = l :=
  (hl.put ordD d).ext ordD hl fun x => by
    rw [mem_put]
    constructor
    · rintro (h' | rfl)
      · exact h'
      · exact h
    · exact .inl
def doorOf (a b n : Int) : Dr := (min a b, max a b, n)
def withDoor (m : Mz) (a b n : Int) : Mz := ⟨m.size, m.doors ++ [doorOf a b n], m.keys⟩
def addB (m : Mz) (a b n : Int) : Bool := mazeB m && sortedB (withDoor m a b n)
def addV (m : Mz) (a b n : Int) : Mz := if addB m a b n then sorted (withDoor m a b n) else C.mz0
theorem addV_yes {m : Mz} {a b n : Int} (h : addB m a b n = true) : addV m a b n = sorted (withDoor m a b n) := by unfold addV; rw [if_pos h]
theorem addV_no {m : Mz} {a b n : Int} (h : addB m a b n = false) : addV m a b n = C.mz0 := by unfold addV; rw [h]; rfl
theorem addV_sorted {m : Mz} {a b n : Int} (h : mazeB m = true) : addV m a b n = sortedV (withDoor m a b n) := by unfold addV sortedV addB; rw [h]; rfl
theorem addB_sorted {m : Mz} {a b n : Int} (h : mazeB m = true) : addB m a b n = sortedB (withDoor m a b n) := by unfold addB; rw [h]; rfl
theorem addV_len (m : Mz) (a b n : Int) : (addV m a b n).doors.length ≤ 1048576 ∧ (addV m a b n).keys.length ≤ 1048576 := by
  unfold addV
  split
  · rename_i h
    unfold addB sortedB at h
    rw [Bool.and_eq_true] at h
    have V := valid_of h.2
    have h1 := V.few
    have h2 := V.keysLen
    have h3 := V.size12
    omega
  · simp [C.mz0]
theorem doorB_of {n a b s : Int} : doorB n (doorOf a b s) = (nodeB n a && nodeB n b && (a != b) && setB s) := by
  unfold doorB doorOf nodeB setB
  rw [Bool.eq_iff_iff]
  simp only [decide_eq_true_eq, Bool.and_eq_true, bne_iff_ne, ne_eq]
  omega
theorem sortedB_no_door {m : Mz} {d : Dr} (hd : d ∈ m.doors) (h : doorB m.size d = false) : sortedB m = false := by
  unfold sortedB mazeB
  have : doorsB (sorted m).size (sorted m).doors = false := by
    rw [Bool.eq_false_iff]
    intro hh
    have := (doorsB_iff.1 hh).1 d (mem_srt.2 hd)
    rw [show (sorted m).size = m.size from rfl, h] at this
    cases this
  rw [this]
  cases shapeB (sorted m) <;> rfl
theorem addB_no_door {m : Mz} {a b s : Int} (h : (nodeB m.size a && nodeB m.size b && (a != b) && setB s) = false) : addB m a b s = false := by
  unfold addB
  rw [sortedB_no_door (d := doorOf a b s) (by unfold withDoor; simp) (by show doorB m.size _ = false; rw [doorB_of]; exact h), Bool.and_false]
theorem addB_mem {m : Mz} {a b s : Int} (h : doorOf a b s ∈ m.doors) : addB m a b s = false := by
  unfold addB sortedB mazeB
  have : doorsB (sorted (withDoor m a b s)).size (sorted (withDoor m a b s)).doors = false := by
    rw [Bool.eq_false_iff]
    intro hh
    have h2 := (doorsB_iff.1 hh).2
    refine srt_not (l := m.doors ++ [doorOf a b s]) ?_ h2
    intro hn
    rw [List.nodup_append] at hn
    exact hn.2.2 _ h _ (by simp) rfl
  rw [this]
  simp
/-- what the model holds, where the door is new -/
theorem add_new {m : Mz} {a b s : Int} (V : Valid m) (h : doorOf a b s ∉ m.doors) : (⟨m.size, put ltD m.doors (doorOf a b s), m.keys⟩ : Mz) = sorted (withDoor m a b s) := by
  unfold sorted withDoor
  rw [put_srt V.asc h]
end M
end Go.Proofs.Ytmccpjdgnenmeaa
