/-
  A SLICE OF BYTES THAT CAME IN reads as a code: each of its bytes is a number within 0..255, in memory that lies there. No further condition.
-/
import Derived.Test.YtkkfmleoamhgkaaCurM
import Derived.Test.YtkkfmleoamhgkaaOpen
import Derived.ProofKit
import Derived.OpenShut
namespace Go.Proofs.Ytkkfmleoamhgkaa
open Go.RowKit Go.ChangeShapes Go.WideShapes Go.ChangeAt
namespace C
theorem code_of_row {w : World} {x : Addr} {len : Nat} {zs : List Int} (hl : len ≤ zs.length) (hcell : ∀ i, i < zs.length → w.cell? (x.add i) = some (.int .u8 (zs.getD i 0))) (hwz : ∀ n ∈ zs, (Lit.int .u8 n).wf = true) : CodeAt w.heap.size w (some x) len := by
  by_cases h0 : len = 0
  · exact .inl h0
  · obtain ⟨b, off, spot⟩ := x
    have hc := hcell 0 (by omega)
    have hspot : spot = none := by simpa [Addr.add] using World.cell?_spot hc
    subst hspot
    have hadd : ∀ i, (⟨b, off, none⟩ : Addr).add i = ⟨b, off + i, none⟩ := by
      intro i
      unfold Addr.add
      split
      · rename_i h; subst h; rfl
      · rfl
    have hlt : b < w.heap.size := by
      rcases Nat.lt_or_ge b w.heap.size with h | h
      · exact h
      · rw [hadd] at hc
        simp [World.cell?, Array.getElem?_eq_none h] at hc
    refine .inr ⟨b, off, rfl, hlt, fun i hi => ?_⟩
    have h1 := hcell i (by omega)
    rw [hadd] at h1
    have h2 : zs.getD i 0 ∈ zs := by
      rw [List.getD_eq_getElem?_getD, List.getElem?_eq_getElem (by omega)]
      exact List.getElem_mem _
    have h3 := Go.bounds_u8 (hwz _ h2)
    exact ⟨_, h1, h3.1, h3.2⟩
theorem open_code {H : Type} {enc : TypeId × Value → H} {w : World} {a : Option Addr} {len cap : Nat} {d : DataW H} {p : List MemPlace} {fuel B : Nat} {sp : Nat → Bool} {hd : Bool}
    (hf : DataW.trod enc Try.prog w B sp hd fuel 22 (Value.slice a len cap).cells.toList = some (d, p)) : CodeAt w.heap.size w a len := by
  rcases open_ints Try.underlying22 Try.underlying5 (by kernel_rfl) hf with ⟨hcs, _⟩ | ⟨x, l, c, zs, hcs, _, hl, hm, hz, _, hcell, hwz⟩
  · simp [Value.cells] at hcs
    obtain ⟨rfl, rfl, rfl⟩ := hcs
    exact .inl rfl
  · simp [Value.cells] at hcs
    obtain ⟨rfl, rfl, rfl⟩ := hcs
    exact code_of_row (by rw [hz]; split <;> omega) hcell hwz
end C
end Go.Proofs.Ytkkfmleoamhgkaa
