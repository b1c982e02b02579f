/-
  CONTRACTS of SetOf as the law's walk takes them.
-/
import Derived.Test.YtpdkcpclpdljeaaSetOf
namespace Go.Proofs.Ytpdkcpclpdljeaa
open Go.RowKit
namespace M
def setV (l : List Int) : Int := if colsB l then setI l else 0
end M
namespace C
theorem implSetOf_lw (w : World) (lo hi : Nat) (a : Option Addr) (c : Nat) (l : List Int) (h : RowIn lo hi w a (M.encIs l)) (_hz : hi ≤ w.heap.size) (hl : l.length ≤ 1048576) (_h1 : l.length ≤ c) (_h2 : c ≤ 9223372036854775807) (_hb : ∀ z ∈ l, -9223372036854775808 ≤ z ∧ z ≤ 9223372036854775807) :
    Calls Try.prog 72 #[.slice a l.length c] w fun e w' => e = .returned (.tuple #[.int .i64 (M.setV l), .bool (M.colsB l)]) ∧ Below w.heap.size w w' :=
  (implSetOf_any w lo hi a c l h hl).mono fun _ _ ⟨he, hw⟩ => ⟨he, by rw [← hw]; exact Below.refl _ _⟩
end C
end Go.Proofs.Ytpdkcpclpdljeaa
