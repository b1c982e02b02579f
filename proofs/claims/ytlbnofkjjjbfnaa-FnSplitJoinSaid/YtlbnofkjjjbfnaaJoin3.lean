/-
  CONTRACTS in pairs: JoinStrings of the program and of the model give one and the same answer for every list of strings that is small together and every separator; what lay in memory stays. Condition: the slice reads as that list.
-/
import Derived.Test.YtlbnofkjjjbfnaaJoin2
import Derived.Test.YtlbnofkjjjbfnaaPlain
namespace Go.Proofs.Ytlbnofkjjjbfnaa
open Go.RowKit
namespace C
def TwoB (v : Value) (W : World) (e : Ending) (w' : World) : Prop := e = .returned v ∧ Below W.heap.size W w'
theorem below_drawn (w : World) (k : Nat) : Below w.heap.size w (w.drewN k) := ⟨rfl, rfl, rfl, Nat.le_refl _, fun _ _ => rfl⟩
theorem Below.more {a b c : World} (h : Below a.heap.size a b) (k : Below b.heap.size b c) : Below a.heap.size a c := h.trans (k.mono h.size)
theorem one_byte {s : ByteArray} (h : s.size = 1) : ∃ c, s = ⟨#[c]⟩ := by
  obtain ⟨⟨l⟩⟩ := s
  match l, h with
  | [c], _ => exact ⟨c, rfl⟩
theorem join_both (ss : List ByteArray) (sep : ByteArray) (hl : ss.length ≤ 1048576) (ht : M.tot ss ≤ 1048576) (hs : ∀ s ∈ ss, s.size ≤ 1048576) : ∃ (jv : ByteArray) (jb : Bool),
    (∀ (W : World) (a : Option Addr) (cap : Nat), ss.length ≤ cap → StrsAt W.heap.size W a ss → Calls Try.prog 12 #[.slice a ss.length cap, .string sep] W (TwoB (.tuple #[.string jv, .bool jb]) W)) ∧
    (∀ (W : World) (a : Option Addr) (cap : Nat), StrsAt W.heap.size W a ss → Calls Try.prog 13 #[.slice a ss.length cap, .string sep] W (TwoB (.tuple #[.string jv, .bool jb]) W)) ∧
    (∀ c, sep = ⟨#[c]⟩ → JOk ss c → jv = M.jB ss ⟨#[c]⟩ ∧ jb = true) := by
  by_cases hb : sep.size ≠ 1 ∨ ss.length = 0
  · refine ⟨⟨#[]⟩, false, fun W a cap _ _ => implJoin_bad W a cap _ sep hl hb, fun W a cap _ => specJoin_bad W a cap _ sep hl hb, ?_⟩
    rintro c rfl hj
    rcases hb with hb | hb
    · exact absurd rfl hb
    · exact absurd (List.length_eq_zero_iff.1 hb) hj.1
  · have h1 : sep.size = 1 := by omega
    have hn : ss ≠ [] := by rintro rfl; exact hb (.inr rfl)
    obtain ⟨c, rfl⟩ := one_byte h1
    by_cases hj : JOk ss c
    · refine ⟨M.jB ss ⟨#[c]⟩, true, fun W a cap hc h => (implJoin_one W a cap ss c hn hl hc hs ht h).mono ?_, fun W a cap h => (specJoin_one W _ a cap ss c hn hl hs h).mono ?_, ?_⟩
      · rintro e w' ⟨hp, hb⟩
        rcases hp with ⟨_, hp⟩ | ⟨hp, _⟩
        · exact ⟨hp, hb⟩
        · exact absurd hj hp
      · rintro e w' ⟨hp, m, rfl⟩
        rcases hp with ⟨_, hp⟩ | ⟨hp, _⟩
        · exact ⟨hp, below_drawn _ _⟩
        · exact absurd hj hp
      · rintro c' e _
        have : c = c' := by injection e with e; simpa using e
        subst this
        exact ⟨rfl, rfl⟩
    · refine ⟨⟨#[]⟩, false, fun W a cap hc h => (implJoin_one W a cap ss c hn hl hc hs ht h).mono ?_, fun W a cap h => (specJoin_one W _ a cap ss c hn hl hs h).mono ?_, ?_⟩
      · rintro e w' ⟨hp, hb⟩
        rcases hp with ⟨hp, _⟩ | ⟨_, hp⟩
        · exact absurd hp hj
        · exact ⟨hp, hb⟩
      · rintro e w' ⟨hp, m, rfl⟩
        rcases hp with ⟨hp, _⟩ | ⟨_, hp⟩
        · exact absurd hp hj
        · exact ⟨hp, below_drawn _ _⟩
      · rintro c' e h
        have : c = c' := by injection e with e; simpa using e
        subst this
        exact absurd h hj
theorem tot_mem {ss : List ByteArray} {s : ByteArray} (h : s ∈ ss) : s.size ≤ M.tot ss := by
  induction ss with
  | nil => cases h
  | cons x r ih =>
    simp only [M.tot, List.map_cons, List.sum_cons] at ih ⊢
    rcases List.mem_cons.1 h with rfl | h
    · omega
    · have := ih h; omega
theorem strs_of_own {w : World} {B g : Nat} {e : TypeId} {n cap : Nat} {ss : List ByteArray} (h : w.ownsRow B e 1 (.slice (some ⟨g, 0, none⟩) n cap) n (ss.map Value.string)) (hg : g < w.heap.size) : StrsAt w.heap.size w (some ⟨g, 0, none⟩) ss := by
  refine .inr ⟨g, 0, rfl, hg, fun i s hs => ?_⟩
  have hn : ss.length = n := by have := h.1; simpa using this
  have hi : i < ss.length := by
    rcases Nat.lt_or_ge i ss.length with h1 | h1
    · exact h1
    · rw [List.getElem?_eq_none h1] at hs; cases hs
  rw [Nat.zero_add, h.cellAt i (by omega), List.getElem?_map, hs]
  rfl
theorem own_lt {w : World} {B g : Nat} {e : TypeId} {n cap : Nat} {xs : List Value} (h : w.ownsRow B e 1 (.slice (some ⟨g, 0, none⟩) n cap) n xs) : g < w.heap.size := by
  rcases h.2 with ⟨h1, _⟩ | ⟨g', cap', cur, hv, _, hh, _⟩
  · cases h1
  · have : g' = g := by injection hv with h1; injection h1 with h1; injection h1 with h1; exact h1.symm
    subst this
    rcases Nat.lt_or_ge g' w.heap.size with hlt | hge
    · exact hlt
    · rw [Array.getElem?_eq_none hge] at hh; cases hh
end C
end Go.Proofs.Ytlbnofkjjjbfnaa
