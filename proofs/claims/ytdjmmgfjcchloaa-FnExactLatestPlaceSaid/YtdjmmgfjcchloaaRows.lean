/-
  No cell of these rows narrows 'for every input' (looked for: loops, veiled, ifaces, maps, wideKeys, modest, calm, conditions, laid).
  DERIVED. THE GIVEN ROWS OF THIS SEAT. 13 by the template 'for every input the law returns true; each argument reads behind the call as it read before'; 0 by the template 'total and deterministic' (their statements: YtdjmmgfjcchloaaTotals.lean).
  GIVEN WITH THE SEED: the statements are not yours to turn. If you find one false, say at which input.
  Laid BY PROGRAM, IN A SANDBOX (cutbox-rows.mjs): the forced cells as the released guide's own fill.sh prints them over the translation 22ece80299fe4b0d… (all of the seat's roots in one cut). By AI agents, Wed Nov 11 2026. No macro, syntax, notation, axiom, sorry.
-/
import Derived.Test.YtdjmmgfjcchloaaChecked
import GoSem.Claim
import GoSem.ClaimJoined
import GoSem.ClaimMapViews
import Derived.JoinedTies
import Derived.KernelRfl
namespace Go.Proofs.Ytdjmmgfjcchloaa
/- THE CELL 'sum', in the pinned program and in every row, IS THE sha256 OF THE DUMP (.gsa) THAT YtdjmmgfjcchloaaProg.lean LOADS. Nothing in Lean hashes anything: it is a label: what it is worth is what the hold of that sum in a sandbox is worth. -/
noncomputable def Try.pinned : Pinned := { name := "ytdjmmgfjcchloaa", sum := "22ece80299fe4b0d924067f8d50c708641f361c34397583f286bd7cff3030391", checked := Try.checked }
namespace Rows
def none {H : Type} : Left H := { results := [], args := [] }

/-- 'laws.FnExactIsEntryOrder': WHATEVER THE INPUT: true; the input reads as it did. -/
def fnExactIsEntryOrderSpec : ChangeSpec := { name := "fnExactIsEntryOrder", fn := fun _ => fun
  | [d1, d2] => { results := [.lit (.bool true)], args := [d1, d2] }
  | _ => none }
def fnExactIsEntryOrderRow : OpenClaim := { program := "ytdjmmgfjcchloaa", sum := "22ece80299fe4b0d924067f8d50c708641f361c34397583f286bd7cff3030391", func := "loop.example/g01158/laws.FnExactIsEntryOrder", spec := "fnExactIsEntryOrder", unfollowed := true, recurses := true, apart := false }
def FnExactIsEntryOrderSaid : Prop := fnExactIsEntryOrderRow.holds Try.pinned (OpenSpec.ofChange fnExactIsEntryOrderSpec)

/-- ITS FALSE NEIGHBOUR: 'it returns false'. Refute it at one input. -/
def fnExactIsEntryOrderWrong : ChangeSpec := { name := "fnExactIsEntryOrder", fn := fun _ => fun
  | [d1, d2] => { results := [.lit (.bool false)], args := [d1, d2] }
  | _ => none }
def FnExactIsEntryOrderWrongFalsely : Prop := fnExactIsEntryOrderRow.holds Try.pinned (OpenSpec.ofChange fnExactIsEntryOrderWrong)

/-- 'laws.FnExactFirstEntryOrder': WHATEVER THE INPUT: true; the input reads as it did. -/
def fnExactFirstEntryOrderSpec : ChangeSpec := { name := "fnExactFirstEntryOrder", fn := fun _ => fun
  | [d] => { results := [.lit (.bool true)], args := [d] }
  | _ => none }
def fnExactFirstEntryOrderRow : OpenClaim := { program := "ytdjmmgfjcchloaa", sum := "22ece80299fe4b0d924067f8d50c708641f361c34397583f286bd7cff3030391", func := "loop.example/g01158/laws.FnExactFirstEntryOrder", spec := "fnExactFirstEntryOrder", unfollowed := true, recurses := true, apart := false }
def FnExactFirstEntryOrderSaid : Prop := fnExactFirstEntryOrderRow.holds Try.pinned (OpenSpec.ofChange fnExactFirstEntryOrderSpec)

/-- ITS FALSE NEIGHBOUR: 'it returns false'. Refute it at one input. -/
def fnExactFirstEntryOrderWrong : ChangeSpec := { name := "fnExactFirstEntryOrder", fn := fun _ => fun
  | [d] => { results := [.lit (.bool false)], args := [d] }
  | _ => none }
def FnExactFirstEntryOrderWrongFalsely : Prop := fnExactFirstEntryOrderRow.holds Try.pinned (OpenSpec.ofChange fnExactFirstEntryOrderWrong)

/-- 'laws.FnExactLastEntryOrder': WHATEVER THE INPUT: true; the input reads as it did. -/
def fnExactLastEntryOrderSpec : ChangeSpec := { name := "fnExactLastEntryOrder", fn := fun _ => fun
  | [d] => { results := [.lit (.bool true)], args := [d] }
  | _ => none }
def fnExactLastEntryOrderRow : OpenClaim := { program := "ytdjmmgfjcchloaa", sum := "22ece80299fe4b0d924067f8d50c708641f361c34397583f286bd7cff3030391", func := "loop.example/g01158/laws.FnExactLastEntryOrder", spec := "fnExactLastEntryOrder", unfollowed := true, recurses := true, apart := false }
def FnExactLastEntryOrderSaid : Prop := fnExactLastEntryOrderRow.holds Try.pinned (OpenSpec.ofChange fnExactLastEntryOrderSpec)

/-- ITS FALSE NEIGHBOUR: 'it returns false'. Refute it at one input. -/
def fnExactLastEntryOrderWrong : ChangeSpec := { name := "fnExactLastEntryOrder", fn := fun _ => fun
  | [d] => { results := [.lit (.bool false)], args := [d] }
  | _ => none }
def FnExactLastEntryOrderWrongFalsely : Prop := fnExactLastEntryOrderRow.holds Try.pinned (OpenSpec.ofChange fnExactLastEntryOrderWrong)

/-- 'laws.FnExactCountEntryOrders': WHATEVER THE INPUT: true; the input reads as it did. -/
def fnExactCountEntryOrdersSpec : ChangeSpec := { name := "fnExactCountEntryOrders", fn := fun _ => fun
  | [d] => { results := [.lit (.bool true)], args := [d] }
  | _ => none }
def fnExactCountEntryOrdersRow : OpenClaim := { program := "ytdjmmgfjcchloaa", sum := "22ece80299fe4b0d924067f8d50c708641f361c34397583f286bd7cff3030391", func := "loop.example/g01158/laws.FnExactCountEntryOrders", spec := "fnExactCountEntryOrders", unfollowed := true, recurses := true, apart := false }
def FnExactCountEntryOrdersSaid : Prop := fnExactCountEntryOrdersRow.holds Try.pinned (OpenSpec.ofChange fnExactCountEntryOrdersSpec)

/-- ITS FALSE NEIGHBOUR: 'it returns false'. Refute it at one input. -/
def fnExactCountEntryOrdersWrong : ChangeSpec := { name := "fnExactCountEntryOrders", fn := fun _ => fun
  | [d] => { results := [.lit (.bool false)], args := [d] }
  | _ => none }
def FnExactCountEntryOrdersWrongFalsely : Prop := fnExactCountEntryOrdersRow.holds Try.pinned (OpenSpec.ofChange fnExactCountEntryOrdersWrong)

/-- 'laws.FnExactIsEntrySet': WHATEVER THE INPUT: true; the input reads as it did. -/
def fnExactIsEntrySetSpec : ChangeSpec := { name := "fnExactIsEntrySet", fn := fun _ => fun
  | [d1, d2] => { results := [.lit (.bool true)], args := [d1, d2] }
  | _ => none }
def fnExactIsEntrySetRow : OpenClaim := { program := "ytdjmmgfjcchloaa", sum := "22ece80299fe4b0d924067f8d50c708641f361c34397583f286bd7cff3030391", func := "loop.example/g01158/laws.FnExactIsEntrySet", spec := "fnExactIsEntrySet", unfollowed := true, recurses := true, apart := false }
def FnExactIsEntrySetSaid : Prop := fnExactIsEntrySetRow.holds Try.pinned (OpenSpec.ofChange fnExactIsEntrySetSpec)

/-- ITS FALSE NEIGHBOUR: 'it returns false'. Refute it at one input. -/
def fnExactIsEntrySetWrong : ChangeSpec := { name := "fnExactIsEntrySet", fn := fun _ => fun
  | [d1, d2] => { results := [.lit (.bool false)], args := [d1, d2] }
  | _ => none }
def FnExactIsEntrySetWrongFalsely : Prop := fnExactIsEntrySetRow.holds Try.pinned (OpenSpec.ofChange fnExactIsEntrySetWrong)

/-- 'laws.FnExactEntrySets': WHATEVER THE INPUT: true; the input reads as it did. -/
def fnExactEntrySetsSpec : ChangeSpec := { name := "fnExactEntrySets", fn := fun _ => fun
  | [d] => { results := [.lit (.bool true)], args := [d] }
  | _ => none }
def fnExactEntrySetsRow : OpenClaim := { program := "ytdjmmgfjcchloaa", sum := "22ece80299fe4b0d924067f8d50c708641f361c34397583f286bd7cff3030391", func := "loop.example/g01158/laws.FnExactEntrySets", spec := "fnExactEntrySets", unfollowed := true, recurses := true, apart := false }
def FnExactEntrySetsSaid : Prop := fnExactEntrySetsRow.holds Try.pinned (OpenSpec.ofChange fnExactEntrySetsSpec)

/-- ITS FALSE NEIGHBOUR: 'it returns false'. Refute it at one input. -/
def fnExactEntrySetsWrong : ChangeSpec := { name := "fnExactEntrySets", fn := fun _ => fun
  | [d] => { results := [.lit (.bool false)], args := [d] }
  | _ => none }
def FnExactEntrySetsWrongFalsely : Prop := fnExactEntrySetsRow.holds Try.pinned (OpenSpec.ofChange fnExactEntrySetsWrong)

/-- 'laws.FnExactCountEntrySets': WHATEVER THE INPUT: true; the input reads as it did. -/
def fnExactCountEntrySetsSpec : ChangeSpec := { name := "fnExactCountEntrySets", fn := fun _ => fun
  | [d] => { results := [.lit (.bool true)], args := [d] }
  | _ => none }
def fnExactCountEntrySetsRow : OpenClaim := { program := "ytdjmmgfjcchloaa", sum := "22ece80299fe4b0d924067f8d50c708641f361c34397583f286bd7cff3030391", func := "loop.example/g01158/laws.FnExactCountEntrySets", spec := "fnExactCountEntrySets", unfollowed := true, recurses := true, apart := false }
def FnExactCountEntrySetsSaid : Prop := fnExactCountEntrySetsRow.holds Try.pinned (OpenSpec.ofChange fnExactCountEntrySetsSpec)

/-- ITS FALSE NEIGHBOUR: 'it returns false'. Refute it at one input. -/
def fnExactCountEntrySetsWrong : ChangeSpec := { name := "fnExactCountEntrySets", fn := fun _ => fun
  | [d] => { results := [.lit (.bool false)], args := [d] }
  | _ => none }
def FnExactCountEntrySetsWrongFalsely : Prop := fnExactCountEntrySetsRow.holds Try.pinned (OpenSpec.ofChange fnExactCountEntrySetsWrong)

/-- 'laws.FnExactLargestEntrySet': WHATEVER THE INPUT: true; the input reads as it did. -/
def fnExactLargestEntrySetSpec : ChangeSpec := { name := "fnExactLargestEntrySet", fn := fun _ => fun
  | [d1, d2] => { results := [.lit (.bool true)], args := [d1, d2] }
  | _ => none }
def fnExactLargestEntrySetRow : OpenClaim := { program := "ytdjmmgfjcchloaa", sum := "22ece80299fe4b0d924067f8d50c708641f361c34397583f286bd7cff3030391", func := "loop.example/g01158/laws.FnExactLargestEntrySet", spec := "fnExactLargestEntrySet", unfollowed := true, recurses := true, apart := false }
def FnExactLargestEntrySetSaid : Prop := fnExactLargestEntrySetRow.holds Try.pinned (OpenSpec.ofChange fnExactLargestEntrySetSpec)

/-- ITS FALSE NEIGHBOUR: 'it returns false'. Refute it at one input. -/
def fnExactLargestEntrySetWrong : ChangeSpec := { name := "fnExactLargestEntrySet", fn := fun _ => fun
  | [d1, d2] => { results := [.lit (.bool false)], args := [d1, d2] }
  | _ => none }
def FnExactLargestEntrySetWrongFalsely : Prop := fnExactLargestEntrySetRow.holds Try.pinned (OpenSpec.ofChange fnExactLargestEntrySetWrong)

/-- 'laws.FnExactPathsOf': WHATEVER THE INPUT: true; the input reads as it did. -/
def fnExactPathsOfSpec : ChangeSpec := { name := "fnExactPathsOf", fn := fun _ => fun
  | [d1, d2] => { results := [.lit (.bool true)], args := [d1, d2] }
  | _ => none }
def fnExactPathsOfRow : OpenClaim := { program := "ytdjmmgfjcchloaa", sum := "22ece80299fe4b0d924067f8d50c708641f361c34397583f286bd7cff3030391", func := "loop.example/g01158/laws.FnExactPathsOf", spec := "fnExactPathsOf", unfollowed := true, recurses := true, apart := false }
def FnExactPathsOfSaid : Prop := fnExactPathsOfRow.holds Try.pinned (OpenSpec.ofChange fnExactPathsOfSpec)

/-- ITS FALSE NEIGHBOUR: 'it returns false'. Refute it at one input. -/
def fnExactPathsOfWrong : ChangeSpec := { name := "fnExactPathsOf", fn := fun _ => fun
  | [d1, d2] => { results := [.lit (.bool false)], args := [d1, d2] }
  | _ => none }
def FnExactPathsOfWrongFalsely : Prop := fnExactPathsOfRow.holds Try.pinned (OpenSpec.ofChange fnExactPathsOfWrong)

/-- 'laws.FnExactEarliestPlace': WHATEVER THE INPUT: true; the input reads as it did. -/
def fnExactEarliestPlaceSpec : ChangeSpec := { name := "fnExactEarliestPlace", fn := fun _ => fun
  | [d1, d2] => { results := [.lit (.bool true)], args := [d1, d2] }
  | _ => none }
def fnExactEarliestPlaceRow : OpenClaim := { program := "ytdjmmgfjcchloaa", sum := "22ece80299fe4b0d924067f8d50c708641f361c34397583f286bd7cff3030391", func := "loop.example/g01158/laws.FnExactEarliestPlace", spec := "fnExactEarliestPlace", unfollowed := true, recurses := true, apart := false }
def FnExactEarliestPlaceSaid : Prop := fnExactEarliestPlaceRow.holds Try.pinned (OpenSpec.ofChange fnExactEarliestPlaceSpec)

/-- ITS FALSE NEIGHBOUR: 'it returns false'. Refute it at one input. -/
def fnExactEarliestPlaceWrong : ChangeSpec := { name := "fnExactEarliestPlace", fn := fun _ => fun
  | [d1, d2] => { results := [.lit (.bool false)], args := [d1, d2] }
  | _ => none }
def FnExactEarliestPlaceWrongFalsely : Prop := fnExactEarliestPlaceRow.holds Try.pinned (OpenSpec.ofChange fnExactEarliestPlaceWrong)

/-- 'laws.FnExactLatestPlace': WHATEVER THE INPUT: true; the input reads as it did. -/
def fnExactLatestPlaceSpec : ChangeSpec := { name := "fnExactLatestPlace", fn := fun _ => fun
  | [d1, d2] => { results := [.lit (.bool true)], args := [d1, d2] }
  | _ => none }
def fnExactLatestPlaceRow : OpenClaim := { program := "ytdjmmgfjcchloaa", sum := "22ece80299fe4b0d924067f8d50c708641f361c34397583f286bd7cff3030391", func := "loop.example/g01158/laws.FnExactLatestPlace", spec := "fnExactLatestPlace", unfollowed := true, recurses := true, apart := false }
def FnExactLatestPlaceSaid : Prop := fnExactLatestPlaceRow.holds Try.pinned (OpenSpec.ofChange fnExactLatestPlaceSpec)

/-- ITS FALSE NEIGHBOUR: 'it returns false'. Refute it at one input. -/
def fnExactLatestPlaceWrong : ChangeSpec := { name := "fnExactLatestPlace", fn := fun _ => fun
  | [d1, d2] => { results := [.lit (.bool false)], args := [d1, d2] }
  | _ => none }
def FnExactLatestPlaceWrongFalsely : Prop := fnExactLatestPlaceRow.holds Try.pinned (OpenSpec.ofChange fnExactLatestPlaceWrong)

/-- 'laws.FnExactPrecedes': WHATEVER THE INPUT: true; the input reads as it did. -/
def fnExactPrecedesSpec : ChangeSpec := { name := "fnExactPrecedes", fn := fun _ => fun
  | [d1, d2, d3] => { results := [.lit (.bool true)], args := [d1, d2, d3] }
  | _ => none }
def fnExactPrecedesRow : OpenClaim := { program := "ytdjmmgfjcchloaa", sum := "22ece80299fe4b0d924067f8d50c708641f361c34397583f286bd7cff3030391", func := "loop.example/g01158/laws.FnExactPrecedes", spec := "fnExactPrecedes", unfollowed := true, recurses := true, apart := false }
def FnExactPrecedesSaid : Prop := fnExactPrecedesRow.holds Try.pinned (OpenSpec.ofChange fnExactPrecedesSpec)

/-- ITS FALSE NEIGHBOUR: 'it returns false'. Refute it at one input. -/
def fnExactPrecedesWrong : ChangeSpec := { name := "fnExactPrecedes", fn := fun _ => fun
  | [d1, d2, d3] => { results := [.lit (.bool false)], args := [d1, d2, d3] }
  | _ => none }
def FnExactPrecedesWrongFalsely : Prop := fnExactPrecedesRow.holds Try.pinned (OpenSpec.ofChange fnExactPrecedesWrong)

/-- 'laws.FnExactNextNodes': WHATEVER THE INPUT: true; the input reads as it did. -/
def fnExactNextNodesSpec : ChangeSpec := { name := "fnExactNextNodes", fn := fun _ => fun
  | [d1, d2] => { results := [.lit (.bool true)], args := [d1, d2] }
  | _ => none }
def fnExactNextNodesRow : OpenClaim := { program := "ytdjmmgfjcchloaa", sum := "22ece80299fe4b0d924067f8d50c708641f361c34397583f286bd7cff3030391", func := "loop.example/g01158/laws.FnExactNextNodes", spec := "fnExactNextNodes", unfollowed := true, recurses := true, apart := false }
def FnExactNextNodesSaid : Prop := fnExactNextNodesRow.holds Try.pinned (OpenSpec.ofChange fnExactNextNodesSpec)

/-- ITS FALSE NEIGHBOUR: 'it returns false'. Refute it at one input. -/
def fnExactNextNodesWrong : ChangeSpec := { name := "fnExactNextNodes", fn := fun _ => fun
  | [d1, d2] => { results := [.lit (.bool false)], args := [d1, d2] }
  | _ => none }
def FnExactNextNodesWrongFalsely : Prop := fnExactNextNodesRow.holds Try.pinned (OpenSpec.ofChange fnExactNextNodesWrong)

/- THE SECOND FORM. 'bulk': how many values and letters a reading holds, each counted each time it is reached (what is shared counts as often as it is met; a slice's spare places count too). A statement '..UptoSaid' is the law's where the arguments, and the package variables that the reading takes, are together of bulk at most 1048576: NARROWER than '..Said'. Prove '..Said' where nothing that the law and all that it calls make is longer than what came in: it says more and counts as full. Else prove '..UptoSaid'. A law counts once. -/
mutual
def uptoBulk {H : Type} : DataW H → Nat
  | .lit (.string bytes) => bytes.length + 1
  | .lit _ => 1
  | .nil => 1
  | .ptr d => uptoBulk d + 1
  | .slice elems spare => uptoBulkAll elems + uptoBulkAll spare + 1
  | .agg parts => uptoBulkAll parts + 1
  | .iface _ d => uptoBulk d + 1
  | .map entries => uptoBulkEntries entries + 1
  | .held _ => 1
def uptoBulkAll {H : Type} : List (DataW H) → Nat
  | [] => 0
  | d :: r => uptoBulk d + uptoBulkAll r
def uptoBulkEntries {H : Type} : List (Lit × DataW H) → Nat
  | [] => 0
  | x :: r => uptoBulkEntry x + uptoBulkEntries r
def uptoBulkEntry {H : Type} : Lit × DataW H → Nat
  | (.string bytes, d) => bytes.length + uptoBulk d + 1
  | (_, d) => uptoBulk d + 1
 end
def uptoSmall : (H : Type) → List (DataW H) → Bool := fun _ ds => decide (uptoBulkAll ds ≤ 1048576)
def OpenSpec.upto (s : _root_.Go.ChangeSpec) : _root_.Go.OpenSpec := { _root_.Go.OpenSpec.ofChange s with cond := some uptoSmall }

/-- 'laws.FnExactIsEntryOrder', WHERE WHAT IT READS IS OF BULK AT MOST 1048576: true; the input reads as it did. -/
def fnExactIsEntryOrderUptoRow : OpenClaim := { program := "ytdjmmgfjcchloaa", sum := "22ece80299fe4b0d924067f8d50c708641f361c34397583f286bd7cff3030391", func := "loop.example/g01158/laws.FnExactIsEntryOrder", spec := "fnExactIsEntryOrder", unfollowed := true, recurses := true, apart := false, narrowed := true }
def FnExactIsEntryOrderUptoSaid : Prop := fnExactIsEntryOrderUptoRow.holds Try.pinned (OpenSpec.upto fnExactIsEntryOrderSpec)

/-- 'laws.FnExactFirstEntryOrder', WHERE WHAT IT READS IS OF BULK AT MOST 1048576: true; the input reads as it did. -/
def fnExactFirstEntryOrderUptoRow : OpenClaim := { program := "ytdjmmgfjcchloaa", sum := "22ece80299fe4b0d924067f8d50c708641f361c34397583f286bd7cff3030391", func := "loop.example/g01158/laws.FnExactFirstEntryOrder", spec := "fnExactFirstEntryOrder", unfollowed := true, recurses := true, apart := false, narrowed := true }
def FnExactFirstEntryOrderUptoSaid : Prop := fnExactFirstEntryOrderUptoRow.holds Try.pinned (OpenSpec.upto fnExactFirstEntryOrderSpec)

/-- 'laws.FnExactLastEntryOrder', WHERE WHAT IT READS IS OF BULK AT MOST 1048576: true; the input reads as it did. -/
def fnExactLastEntryOrderUptoRow : OpenClaim := { program := "ytdjmmgfjcchloaa", sum := "22ece80299fe4b0d924067f8d50c708641f361c34397583f286bd7cff3030391", func := "loop.example/g01158/laws.FnExactLastEntryOrder", spec := "fnExactLastEntryOrder", unfollowed := true, recurses := true, apart := false, narrowed := true }
def FnExactLastEntryOrderUptoSaid : Prop := fnExactLastEntryOrderUptoRow.holds Try.pinned (OpenSpec.upto fnExactLastEntryOrderSpec)

/-- 'laws.FnExactCountEntryOrders', WHERE WHAT IT READS IS OF BULK AT MOST 1048576: true; the input reads as it did. -/
def fnExactCountEntryOrdersUptoRow : OpenClaim := { program := "ytdjmmgfjcchloaa", sum := "22ece80299fe4b0d924067f8d50c708641f361c34397583f286bd7cff3030391", func := "loop.example/g01158/laws.FnExactCountEntryOrders", spec := "fnExactCountEntryOrders", unfollowed := true, recurses := true, apart := false, narrowed := true }
def FnExactCountEntryOrdersUptoSaid : Prop := fnExactCountEntryOrdersUptoRow.holds Try.pinned (OpenSpec.upto fnExactCountEntryOrdersSpec)

/-- 'laws.FnExactIsEntrySet', WHERE WHAT IT READS IS OF BULK AT MOST 1048576: true; the input reads as it did. -/
def fnExactIsEntrySetUptoRow : OpenClaim := { program := "ytdjmmgfjcchloaa", sum := "22ece80299fe4b0d924067f8d50c708641f361c34397583f286bd7cff3030391", func := "loop.example/g01158/laws.FnExactIsEntrySet", spec := "fnExactIsEntrySet", unfollowed := true, recurses := true, apart := false, narrowed := true }
def FnExactIsEntrySetUptoSaid : Prop := fnExactIsEntrySetUptoRow.holds Try.pinned (OpenSpec.upto fnExactIsEntrySetSpec)

/-- 'laws.FnExactEntrySets', WHERE WHAT IT READS IS OF BULK AT MOST 1048576: true; the input reads as it did. -/
def fnExactEntrySetsUptoRow : OpenClaim := { program := "ytdjmmgfjcchloaa", sum := "22ece80299fe4b0d924067f8d50c708641f361c34397583f286bd7cff3030391", func := "loop.example/g01158/laws.FnExactEntrySets", spec := "fnExactEntrySets", unfollowed := true, recurses := true, apart := false, narrowed := true }
def FnExactEntrySetsUptoSaid : Prop := fnExactEntrySetsUptoRow.holds Try.pinned (OpenSpec.upto fnExactEntrySetsSpec)

/-- 'laws.FnExactCountEntrySets', WHERE WHAT IT READS IS OF BULK AT MOST 1048576: true; the input reads as it did. -/
def fnExactCountEntrySetsUptoRow : OpenClaim := { program := "ytdjmmgfjcchloaa", sum := "22ece80299fe4b0d924067f8d50c708641f361c34397583f286bd7cff3030391", func := "loop.example/g01158/laws.FnExactCountEntrySets", spec := "fnExactCountEntrySets", unfollowed := true, recurses := true, apart := false, narrowed := true }
def FnExactCountEntrySetsUptoSaid : Prop := fnExactCountEntrySetsUptoRow.holds Try.pinned (OpenSpec.upto fnExactCountEntrySetsSpec)

/-- 'laws.FnExactLargestEntrySet', WHERE WHAT IT READS IS OF BULK AT MOST 1048576: true; the input reads as it did. -/
def fnExactLargestEntrySetUptoRow : OpenClaim := { program := "ytdjmmgfjcchloaa", sum := "22ece80299fe4b0d924067f8d50c708641f361c34397583f286bd7cff3030391", func := "loop.example/g01158/laws.FnExactLargestEntrySet", spec := "fnExactLargestEntrySet", unfollowed := true, recurses := true, apart := false, narrowed := true }
def FnExactLargestEntrySetUptoSaid : Prop := fnExactLargestEntrySetUptoRow.holds Try.pinned (OpenSpec.upto fnExactLargestEntrySetSpec)

/-- 'laws.FnExactPathsOf', WHERE WHAT IT READS IS OF BULK AT MOST 1048576: true; the input reads as it did. -/
def fnExactPathsOfUptoRow : OpenClaim := { program := "ytdjmmgfjcchloaa", sum := "22ece80299fe4b0d924067f8d50c708641f361c34397583f286bd7cff3030391", func := "loop.example/g01158/laws.FnExactPathsOf", spec := "fnExactPathsOf", unfollowed := true, recurses := true, apart := false, narrowed := true }
def FnExactPathsOfUptoSaid : Prop := fnExactPathsOfUptoRow.holds Try.pinned (OpenSpec.upto fnExactPathsOfSpec)

/-- 'laws.FnExactEarliestPlace', WHERE WHAT IT READS IS OF BULK AT MOST 1048576: true; the input reads as it did. -/
def fnExactEarliestPlaceUptoRow : OpenClaim := { program := "ytdjmmgfjcchloaa", sum := "22ece80299fe4b0d924067f8d50c708641f361c34397583f286bd7cff3030391", func := "loop.example/g01158/laws.FnExactEarliestPlace", spec := "fnExactEarliestPlace", unfollowed := true, recurses := true, apart := false, narrowed := true }
def FnExactEarliestPlaceUptoSaid : Prop := fnExactEarliestPlaceUptoRow.holds Try.pinned (OpenSpec.upto fnExactEarliestPlaceSpec)

/-- 'laws.FnExactLatestPlace', WHERE WHAT IT READS IS OF BULK AT MOST 1048576: true; the input reads as it did. -/
def fnExactLatestPlaceUptoRow : OpenClaim := { program := "ytdjmmgfjcchloaa", sum := "22ece80299fe4b0d924067f8d50c708641f361c34397583f286bd7cff3030391", func := "loop.example/g01158/laws.FnExactLatestPlace", spec := "fnExactLatestPlace", unfollowed := true, recurses := true, apart := false, narrowed := true }
def FnExactLatestPlaceUptoSaid : Prop := fnExactLatestPlaceUptoRow.holds Try.pinned (OpenSpec.upto fnExactLatestPlaceSpec)

/-- 'laws.FnExactPrecedes', WHERE WHAT IT READS IS OF BULK AT MOST 1048576: true; the input reads as it did. -/
def fnExactPrecedesUptoRow : OpenClaim := { program := "ytdjmmgfjcchloaa", sum := "22ece80299fe4b0d924067f8d50c708641f361c34397583f286bd7cff3030391", func := "loop.example/g01158/laws.FnExactPrecedes", spec := "fnExactPrecedes", unfollowed := true, recurses := true, apart := false, narrowed := true }
def FnExactPrecedesUptoSaid : Prop := fnExactPrecedesUptoRow.holds Try.pinned (OpenSpec.upto fnExactPrecedesSpec)

/-- 'laws.FnExactNextNodes', WHERE WHAT IT READS IS OF BULK AT MOST 1048576: true; the input reads as it did. -/
def fnExactNextNodesUptoRow : OpenClaim := { program := "ytdjmmgfjcchloaa", sum := "22ece80299fe4b0d924067f8d50c708641f361c34397583f286bd7cff3030391", func := "loop.example/g01158/laws.FnExactNextNodes", spec := "fnExactNextNodes", unfollowed := true, recurses := true, apart := false, narrowed := true }
def FnExactNextNodesUptoSaid : Prop := fnExactNextNodesUptoRow.holds Try.pinned (OpenSpec.upto fnExactNextNodesSpec)

end Rows
end Go.Proofs.Ytdjmmgfjcchloaa
