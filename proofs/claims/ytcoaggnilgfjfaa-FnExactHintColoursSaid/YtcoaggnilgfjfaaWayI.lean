/-
  CONTRACTS of impl's stepsFrom, fewestTo, stepsOrNone; what lay in memory stays. Condition: a valid maze and a state of it; for fewestTo, the function value answers at each key.
-/
import Derived.Test.YtcoaggnilgfjfaaLeastI
namespace Go.Proofs.Ytcoaggnilgfjfaa
open Go.RowKit
namespace M
theorem nexts_steps {m : Mz} (V : Valid m) {s : St} (h : StOk m s) : C.StepsOk (nexts m) (StOk m) [s] := by
  have v12 := V.size12
  refine ⟨by simp, fun t ht => by rw [List.mem_singleton] at ht; subst ht; exact h, fun t ht u hu => nexts_ok V ht hu, fun t ht => C.st64 V ht, fun t _ => ?_, 768, fun t => t.1 * 64 + t.2, by decide, fun t ht => ?_, fun t u ht hu e => ?_⟩
  · have := nextsTo_len m t m.size.toNat
    show (nextsTo m t m.size.toNat).length ≤ 100000
    omega
  · obtain ⟨h1, h2, h3, h4⟩ := ht
    show 0 ≤ t.1 * 64 + t.2 ∧ t.1 * 64 + t.2 < 768
    constructor <;> omega
  · obtain ⟨h1, h2, h3, h4⟩ := ht
    obtain ⟨k1, k2, k3, k4⟩ := hu
    have e' : t.1 * 64 + t.2 = u.1 * 64 + u.2 := e
    obtain ⟨a, b⟩ := t
    obtain ⟨c, d⟩ := u
    simp only at *
    have ea : a = c := by omega
    subst ea
    have eb : b = d := by omega
    rw [eb]
/-- one more is looked at -/
theorem isLst_more {P P' : Nat → Prop} {best : Option Nat} (h : IsLst P best) {k : Nat} (e : ∀ n, P' n ↔ P n ∨ n = k) : IsLst P' (match best with | none => some k | some v => if k < v then some k else some v) := by
  cases best with
  | none =>
    refine ⟨(e k).2 (.inr rfl), fun n hn => ?_⟩
    rcases (e n).1 hn with h' | h'
    · exact absurd h' (h n)
    · omega
  | some v =>
    show IsLst P' (if k < v then some k else some v)
    split
    · rename_i hlt
      refine ⟨(e k).2 (.inr rfl), fun n hn => ?_⟩
      rcases (e n).1 hn with h' | h'
      · have := h.2 n h'; omega
      · omega
    · rename_i hlt
      refine ⟨(e v).2 (.inl h.1), fun n hn => ?_⟩
      rcases (e n).1 hn with h' | h'
      · exact h.2 n h'
      · omega
theorem isLst_same {P P' : Nat → Prop} {best : Option Nat} (h : IsLst P best) (e : ∀ n, P' n ↔ P n) : IsLst P' best := h.congr fun n => (e n).symm
end M
namespace C
set_option maxHeartbeats 3200000
set_option maxRecDepth 20000
section
variable {w : World} {ops : Array Oper} {rest : List Oper} {o : Oper} {a : Act} {Q : Exit → Act → World → Prop}
theorem wpList_rangeS (hg : o.guard = none) (m : Operand) (hop : o.op = Op.range 107 m) (b : Nat) (L : List M.St) (f : M.St → Option Nat) (hm : a.eval m = .map (some b)) (h : MapP w b L f)
    (hK : ∀ w', RangeP w' b w.heap.size L f L L.length → Below w.heap.size w w' → w'.heap.size = w.heap.size + 1 → wpList Try.prog ops Q rest (a.put o.dst (.pointer (some ⟨w.heap.size, 0, none⟩))) w') : wpList Try.prog ops Q (o :: rest) a w := by
  refine wpList_plain hg fun K' hK' => ?_
  obtain ⟨w', hrun, r1, r2, r3⟩ := h.range
  unfold Oper.wp
  simp [execOp, hop, hm, hrun, Result.andThen]
  exact hK' _ _ (hK w' r1 r2 r3)
theorem wpList_nextS (hg : o.guard = none) (it : Operand) (hop : o.op = Op.next it false) (b r : Nat) (L : List M.St) (f : M.St → Option Nat) (left : List M.St) (cnt : Nat) (hit : a.eval it = .pointer (some ⟨r, 0, none⟩)) (h : RangeP w b r L f left cnt)
    (hDone : left = [] → wpList Try.prog ops Q rest (a.put o.dst (.tuple #[.bool false])) w)
    (hMore : ∀ (s : M.St) (w' : World) (cnt' k : Nat), s ∈ left → f s = some k → (k : Int) ≤ 9223372036854775807 → RangeP w' b r L f (left.erase s) cnt' → cnt' < cnt → Turned r (r + 1) w w' → w'.heap.size = w.heap.size →
      (Instr.entry (.pointer (some ⟨r, 0, none⟩))).run Try.prog w' = .ok (.tuple #[.agg #[.int .i64 s.1, .int .i64 s.2], .int .i64 (k : Int)]) w' → wpList Try.prog ops Q rest (a.put o.dst (.tuple #[.bool true, .agg #[.int .i64 s.1, .int .i64 s.2], .int .i64 (k : Int)])) w') : wpList Try.prog ops Q (o :: rest) a w := by
  refine wpList_plain hg fun K' hK' => ?_
  unfold Oper.wp
  rcases h.next o.type with ⟨hl, hrun⟩ | ⟨s, w', cnt', k, hs, hf, hk, hrun, hr, hlt, ht, hsz, hen⟩
  · simp [execOp, hop, hit, hrun, Result.andThen]
    exact hK' _ _ (hDone hl)
  · simp [execOp, hop, hit, hrun, Result.andThen]
    exact hK' _ _ (hMore s w' cnt' k hs hf hk hr hlt ht hsz hen)
end
/-- what the function value answers -/
def WantOk (g : Nat) (pre post : Array Value) (p : M.St → Bool) (S : M.St → Prop) (w : World) : Prop :=
  ∀ W s, Below w.heap.size w W → S s → Calls Try.prog g (pre.push (.agg #[.int .i64 s.1, .int .i64 s.2]) ++ post) W (BoolW W (p s))
def OptPost (w : World) (r : Option Nat) (e : Ending) (w' : World) : Prop := e = .returned (.tuple #[.int .i64 ((r.getD 0 : Nat) : Int), .bool r.isSome]) ∧ Below w.heap.size w w'
end C
end Go.Proofs.Ytcoaggnilgfjfaa
