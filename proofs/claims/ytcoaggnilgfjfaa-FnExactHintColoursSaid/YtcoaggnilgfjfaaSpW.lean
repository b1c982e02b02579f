/-
  CONTRACTS of the model's l4First, FewestWith, FewestSteps, StepsTable, StepsAndKeys; what lay in memory stays. No condition but that the maze reads so.
-/
import Derived.Test.YtcoaggnilgfjfaaLeastSp
import Derived.Test.YtcoaggnilgfjfaaUValid
namespace Go.Proofs.Ytcoaggnilgfjfaa
open Go.RowKit
namespace M
theorem or0_fin : ∀ s : Fin 64, bits .or .i64 0 (s.val : Int) = (s.val : Int) := by decide +kernel
theorem has0_fin : ∀ s : Fin 64, has2B (s.val : Int) 0 = true := by decide +kernel
theorem st0_eq {m : Mz} (V : Valid m) : st0 m = (0, keyAt m 0) := by
  obtain ⟨k0, k1⟩ := keyAt_set V 0
  have := or0_fin ⟨(keyAt m 0).toNat, by omega⟩
  simp only at this
  rw [show (((keyAt m 0).toNat : Nat) : Int) = keyAt m 0 by omega] at this
  unfold st0 stAt
  rw [this]
theorem has0 {s : Int} (h0 : 0 ≤ s) (h1 : s < 64) : has2B s 0 = true := by
  have := has0_fin ⟨s.toNat, by omega⟩
  simp only at this
  rwa [show ((s.toNat : Nat) : Int) = s by omega] at this
theorem leastB_node {m : Mz} {t : St} (h : StOk m t) (x : Int) : leastB x 0 6 t = nodeP x t := by
  unfold leastB nodeP
  rw [has0 h.2.2.1 h.2.2.2, decide_eq_true (many_le h.2.2.1 h.2.2.2).2, Bool.and_true, Bool.and_true]
theorem leastB_want {m : Mz} {t : St} (h : StOk m t) {set : Int} (h0 : 0 ≤ set) (h1 : set < 64) : leastB (m.size - 1) set 6 t = wantW m set t := by
  unfold leastB wantW
  rw [decide_eq_true (many_le h.2.2.1 h.2.2.2).2, Bool.and_true, has_same h.2.2.1 h.2.2.2 h0 h1]
theorem leastB_keys {m : Mz} {t : St} (h : StOk m t) (n : Int) : leastB (m.size - 1) 0 n t = keysP m n t := by
  unfold leastB keysP wonB
  rw [has0 h.2.2.1 h.2.2.2, Bool.true_and]
theorem way_same {m : Mz} (V : Valid m) {s : St} (hs : StOk m s) {p q : St → Bool} (h : ∀ t, StOk m t → p t = q t) : minO (fun t => p t = true) (dst (nexts m) [s]) = wayO m s q :=
  minO_congr fun t n => ⟨fun ⟨h1, h2⟩ => ⟨by rw [← h t (dst_ok V hs h2)]; exact h1, h2⟩, fun ⟨h1, h2⟩ => ⟨by rw [h t (dst_ok V hs h2)]; exact h1, h2⟩⟩
end M
namespace C
set_option maxHeartbeats 3200000
set_option maxRecDepth 20000
def TblPost (w : World) (m : M.Mz) (f : M.St → Option Nat) (e : Ending) (w' : World) : Prop :=
  ∃ a c, e = .returned (.slice a (M.size64 m) c) ∧ OwnAt w.heap.size w'.heap.size w' 3 a (M.encIs (M.tblL (M.size64 m) f)) ∧ Below w.heap.size w w'
end C
end Go.Proofs.Ytcoaggnilgfjfaa
