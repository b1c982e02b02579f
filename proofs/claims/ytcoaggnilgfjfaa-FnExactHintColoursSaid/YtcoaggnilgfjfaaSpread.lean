/-
  CONTRACT of the model's l4Spread: for each state, by its number, the least number of steps from one state on, or -1, in a new list; what lay in memory stays. Condition: a valid maze and a state of it.
-/
import Derived.Test.YtcoaggnilgfjfaaSpStep
import Derived.StillTailTactics
import Derived.Test.YtcoaggnilgfjfaaLate
import Derived.Test.YtcoaggnilgfjfaaStep
import Derived.IntWalk
namespace Go.Proofs.Ytcoaggnilgfjfaa
open Go.RowKit
namespace M
def tblL (n : Nat) (f : St → Option Nat) : List Int := (List.range n).map fun i => optI (f (unid i))
theorem tblL_len (n : Nat) (f : St → Option Nat) : (tblL n f).length = n := by unfold tblL; simp
theorem tblL_at {n : Nat} {f : St → Option Nat} {i : Nat} (h : i < n) : (encIs (tblL n f))[i]? = some (.int .i64 (optI (f (unid i)))) := by
  unfold encIs tblL
  rw [List.getElem?_map, List.getElem?_map, List.getElem?_range h]
  rfl
theorem tblL_none (n : Nat) : encIs (tblL n fun _ => none) = List.replicate n (.int .i64 (-1)) := by
  refine List.ext_getElem? fun i => ?_
  rcases Nat.lt_or_ge i n with h | h
  · rw [tblL_at h, List.getElem?_replicate, if_pos h]; rfl
  · rw [List.getElem?_eq_none (by rw [encIs_len, tblL_len]; exact h), List.getElem?_eq_none (by rw [List.length_replicate]; exact h)]
theorem tblL_set {m : Mz} {n : Nat} (f : St → Option Nat) {t : St} (ht : StOk m t) (k : Nat) : (encIs (tblL n f)).set (idN t) (.int .i64 (k : Int)) = encIs (tblL n (upd f t k)) := by
  refine List.ext_getElem? fun i => ?_
  rw [List.getElem?_set]
  rcases Nat.lt_or_ge i n with h | h
  · rw [tblL_at h]
    by_cases e : idN t = i
    · subst e
      rw [if_pos rfl, if_pos (by rw [encIs_len, tblL_len]; exact h), tblL_at h, unid_idN ht, upd_same]
      rfl
    · rw [if_neg e, tblL_at h, upd_other]
      intro e2
      apply e
      rw [← e2, idN_unid]
  · rw [List.getElem?_eq_none (l := encIs (tblL n (upd f t k))) (by rw [encIs_len, tblL_len]; exact h)]
    split
    · rw [if_neg (by rw [encIs_len, tblL_len]; omega)]
    · exact List.getElem?_eq_none (by rw [encIs_len, tblL_len]; exact h)
def size64 (m : Mz) : Nat := m.size.toNat * 64
noncomputable def spreadL (m : Mz) (s : St) : List Int := tblL (size64 m) (dst (nexts m) [s])
theorem spread_start {N : St → List St} (s : St) : Bfs N [s] [s] 0 (upd (fun _ => none) s 0) :=
  C.bfs_congr (Bfs.start (by simp)) fun t => by
    unfold upd
    by_cases h : t = s <;> simp [h]
end M
namespace C
set_option maxHeartbeats 6400000
set_option maxRecDepth 200000
theorem grown_setCell (w : World) (g i : Nat) (u : Value) : w.grownBy (w.setCell ⟨g, i, none⟩ u) (some g) :=
  ⟨rfl, rfl, rfl, by simp [World.setCell], fun k _ hne => Below.heap_setCell w ⟨g, i, none⟩ u k fun e => hne (by rw [e])⟩
theorem own_weak {w : World} {B B' : Nat} {e : TypeId} {size n : Nat} {v : Value} {xs : List Value} (h : w.ownsRow B e size v n xs) (hB : B' ≤ B) : w.ownsRow B' e size v n xs := by
  refine ⟨h.1, ?_⟩
  rcases h.2 with h' | ⟨g, cap, cur, hv, hb, r⟩
  · exact .inl h'
  · exact .inr ⟨g, cap, cur, hv, by omega, r⟩
end C
end Go.Proofs.Ytcoaggnilgfjfaa
