/-
  WORDS for lists of visits in memory, own to these proofs. No condition.
-/
import Derived.Test.YtdgfceiobpnchaaBox2
import Derived.Test.YtdgfceiobpnchaaMapV
import Derived.Test.YtdgfceiobpnchaaSets
import Derived.Deep.DeepCutAuto
namespace Go.Proofs.Ytdgfceiobpnchaa
open Go.RowKit
namespace M
def encS (p : St) : List Value := [.int .i64 p.1, .int .i64 p.2]
def encSs (l : List St) : List Value := l.flatMap encS
theorem encSs_len (l : List St) : (encSs l).length = l.length * 2 := by
  unfold encSs; induction l with
  | nil => rfl
  | cons d l ih => simp [encS, ih]; omega
theorem encSs_cons (d : St) (l : List St) : encSs (d :: l) = encS d ++ encSs l := by simp [encSs]
theorem encSs_append (a b : List St) : encSs (a ++ b) = encSs a ++ encSs b := by simp [encSs]
theorem encSs_at {l : List St} {k : Nat} (h : k < l.length) (j : Nat) (hj : j < 2) : (encSs l)[k * 2 + j]? = (encS l[k])[j]? := by
  induction l generalizing k with
  | nil => simp at h
  | cons d l ih =>
    rw [encSs_cons]
    cases k with
    | zero =>
      rw [Nat.zero_mul, Nat.zero_add, List.getElem?_append_left (by simp [encS]; omega)]
      rfl
    | succ k =>
      rw [List.getElem?_append_right (by simp [encS]; omega)]
      have e : (k + 1) * 2 + j - (encS d).length = k * 2 + j := by simp [encS]; omega
      rw [e, ih (by simpa using h)]
      simp
theorem encSs_at0 {l : List St} {k : Nat} (h : k < l.length) : (encSs l)[k * 2]? = some (.int .i64 l[k].1) := encSs_at h 0 (by omega)
theorem encSs_at1 {l : List St} {k : Nat} (h : k < l.length) : (encSs l)[k * 2 + 1]? = some (.int .i64 l[k].2) := encSs_at h 1 (by omega)
theorem encSs_one (l : List St) : ∀ x ∈ encSs l, x.oneCell' = true := by
  intro x hx
  unfold encSs at hx
  obtain ⟨p, _, hp⟩ := List.mem_flatMap.1 hx
  simp [encS] at hp
  rcases hp with rfl | rfl <;> rfl
end M
namespace C
def BoolW (w : World) (r : Bool) (e : Ending) (w' : World) : Prop := e = .returned (.bool r) ∧ Below w.heap.size w w'
theorem infoS : (Try.prog.info? 71).map (fun i => (i.zero, i.size, i.bytes)) = some (some (.agg #[.int .i64 0, .int .i64 0]), 2, 16) := by kernel_rfl
def StsPost (w : World) (l : List M.St) (e : Ending) (w' : World) : Prop :=
  ∃ a c, e = .returned (.slice a l.length c) ∧ OwnAt w.heap.size w'.heap.size w' 71 a (M.encSs l) ∧ l.length ≤ c ∧ c ≤ 9223372036854775807 ∧ Below w.heap.size w w'
theorem sts_end {w w' : World} {l : List M.St} {n : Nat} {v : Value} {B : Nat} (h : w'.ownsRow B 71 2 v n (M.encSs l)) (hB : w.heap.size ≤ B) (hn : n = l.length) (hb : Below w.heap.size w w') : StsPost w l (.returned v) w' := by
  subst hn
  have h0 := h
  obtain ⟨a, c, rfl, h1, h2, _⟩ := own_slice h
  exact ⟨a, c, rfl, (OwnAt.of_own h0).mono hB (Nat.le_refl _), h1, h2, hb⟩
theorem newsS {w : World} {g : Nat} {x y : Value} (h : Box2 w g 71 x y) : ∀ j u, ([x, y])[j]? = some u → w.cell? ((⟨g, 0, none⟩ : Addr).add j) = some u := World.news_of_block h
end C
end Go.Proofs.Ytdgfceiobpnchaa
