/-
  MATHEMATICS: the dual of a clutter, own to these proofs. No condition.
-/
import Derived.Test.YtkkfmleoamhgkaaLwM
import Derived.Test.YtkkfmleoamhgkaaIcuM
namespace Go.Proofs.Ytkkfmleoamhgkaa
open Go.RowKit
namespace M
noncomputable def dualV (l : List Int) : List Int := if isCluB l then intsF (leastF (meetF l)) else []
theorem dualV_no {l : List Int} (h : isCluB l = false) : dualV l = [] := by unfold dualV; rw [h]; rfl
theorem dualV_yes {l : List Int} (h : isCluB l = true) : dualV l = intsF (leastF (meetF l)) := by unfold dualV; rw [if_pos h]
theorem dualV_len (l : List Int) : (dualV l).length ≤ 1048576 := by
  cases h : isCluB l with
  | false => rw [dualV_no h]; simp
  | true => rw [dualV_yes h, intsF_len]; have := leastF_len (meetF l); omega
theorem cluV_len (l : List Int) : (cluV l).length ≤ 1048576 := by
  cases h : keysB l with
  | false => rw [cluV_no h]; simp
  | true =>
    obtain ⟨sl, rfl, hc⟩ := cluV_yes h
    rw [hc, intsF_len]
    have := asc_len (cluF_asc sl)
    omega
def askM (l : List Int) (x : Int) : Bool := isCluB l && setB x
def meetV (l : List Int) (x : Int) : Bool := askM l x && meetB l x
end M
namespace C
set_option maxHeartbeats 3200000
set_option maxRecDepth 20000
end C
end Go.Proofs.Ytkkfmleoamhgkaa
