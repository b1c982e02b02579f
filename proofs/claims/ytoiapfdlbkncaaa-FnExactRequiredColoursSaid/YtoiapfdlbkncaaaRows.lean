/-
  No cell of these rows narrows 'for every input' (looked for: loops, veiled, ifaces, maps, wideKeys, modest, calm, conditions, laid).
  DERIVED. THE GIVEN ROWS OF THIS SEAT. 12 by the template 'for every input the law returns true; each argument reads behind the call as it read before'; 0 by the template 'total and deterministic' (their statements: YtoiapfdlbkncaaaTotals.lean).
  GIVEN WITH THE SEED: the statements are not yours to turn. If you find one false, say at which input.
  Laid BY PROGRAM, IN A SANDBOX (cutbox-rows.mjs): the forced cells as the released guide's own fill.sh prints them over the translation 3ddfffd6340391b3… (all of the seat's roots in one cut). By AI agents, Wed Nov 11 2026. No macro, syntax, notation, axiom, sorry.
-/
import Derived.Test.YtoiapfdlbkncaaaChecked
import GoSem.Claim
import GoSem.ClaimJoined
import GoSem.ClaimMapViews
import Derived.JoinedTies
import Derived.KernelRfl
namespace Go.Proofs.Ytoiapfdlbkncaaa
/- THE CELL 'sum', in the pinned program and in every row, IS THE sha256 OF THE DUMP (.gsa) THAT YtoiapfdlbkncaaaProg.lean LOADS. Nothing in Lean hashes anything: it is a label: what it is worth is what the hold of that sum in a sandbox is worth. -/
noncomputable def Try.pinned : Pinned := { name := "ytoiapfdlbkncaaa", sum := "3ddfffd6340391b3f598ba1c3ce276ce7836bacef73d37a1c1aa41730da475c7", checked := Try.checked }
namespace Rows
def none {H : Type} : Left H := { results := [], args := [] }

/-- 'laws.FnExactReachWith': WHATEVER THE INPUT: true; the input reads as it did. -/
def fnExactReachWithSpec : ChangeSpec := { name := "fnExactReachWith", fn := fun _ => fun
  | [d1, d2, d3] => { results := [.lit (.bool true)], args := [d1, d2, d3] }
  | _ => none }
def fnExactReachWithRow : OpenClaim := { program := "ytoiapfdlbkncaaa", sum := "3ddfffd6340391b3f598ba1c3ce276ce7836bacef73d37a1c1aa41730da475c7", func := "loop.example/g01158/laws.FnExactReachWith", spec := "fnExactReachWith", unfollowed := true, recurses := true, apart := false }
def FnExactReachWithSaid : Prop := fnExactReachWithRow.holds Try.pinned (OpenSpec.ofChange fnExactReachWithSpec)

/-- ITS FALSE NEIGHBOUR: 'it returns false'. Refute it at one input. -/
def fnExactReachWithWrong : ChangeSpec := { name := "fnExactReachWith", fn := fun _ => fun
  | [d1, d2, d3] => { results := [.lit (.bool false)], args := [d1, d2, d3] }
  | _ => none }
def FnExactReachWithWrongFalsely : Prop := fnExactReachWithRow.holds Try.pinned (OpenSpec.ofChange fnExactReachWithWrong)

/-- 'laws.FnExactRoundsOf': WHATEVER THE INPUT: true; the input reads as it did. -/
def fnExactRoundsOfSpec : ChangeSpec := { name := "fnExactRoundsOf", fn := fun _ => fun
  | [d1, d2] => { results := [.lit (.bool true)], args := [d1, d2] }
  | _ => none }
def fnExactRoundsOfRow : OpenClaim := { program := "ytoiapfdlbkncaaa", sum := "3ddfffd6340391b3f598ba1c3ce276ce7836bacef73d37a1c1aa41730da475c7", func := "loop.example/g01158/laws.FnExactRoundsOf", spec := "fnExactRoundsOf", unfollowed := true, recurses := true, apart := false }
def FnExactRoundsOfSaid : Prop := fnExactRoundsOfRow.holds Try.pinned (OpenSpec.ofChange fnExactRoundsOfSpec)

/-- ITS FALSE NEIGHBOUR: 'it returns false'. Refute it at one input. -/
def fnExactRoundsOfWrong : ChangeSpec := { name := "fnExactRoundsOf", fn := fun _ => fun
  | [d1, d2] => { results := [.lit (.bool false)], args := [d1, d2] }
  | _ => none }
def FnExactRoundsOfWrongFalsely : Prop := fnExactRoundsOfRow.holds Try.pinned (OpenSpec.ofChange fnExactRoundsOfWrong)

/-- 'laws.FnExactGainAtLast': WHATEVER THE INPUT: true; the input reads as it did. -/
def fnExactGainAtLastSpec : ChangeSpec := { name := "fnExactGainAtLast", fn := fun _ => fun
  | [d1, d2] => { results := [.lit (.bool true)], args := [d1, d2] }
  | _ => none }
def fnExactGainAtLastRow : OpenClaim := { program := "ytoiapfdlbkncaaa", sum := "3ddfffd6340391b3f598ba1c3ce276ce7836bacef73d37a1c1aa41730da475c7", func := "loop.example/g01158/laws.FnExactGainAtLast", spec := "fnExactGainAtLast", unfollowed := true, recurses := true, apart := false }
def FnExactGainAtLastSaid : Prop := fnExactGainAtLastRow.holds Try.pinned (OpenSpec.ofChange fnExactGainAtLastSpec)

/-- ITS FALSE NEIGHBOUR: 'it returns false'. Refute it at one input. -/
def fnExactGainAtLastWrong : ChangeSpec := { name := "fnExactGainAtLast", fn := fun _ => fun
  | [d1, d2] => { results := [.lit (.bool false)], args := [d1, d2] }
  | _ => none }
def FnExactGainAtLastWrongFalsely : Prop := fnExactGainAtLastRow.holds Try.pinned (OpenSpec.ofChange fnExactGainAtLastWrong)

/-- 'laws.FnExactCanWin': WHATEVER THE INPUT: true; the input reads as it did. -/
def fnExactCanWinSpec : ChangeSpec := { name := "fnExactCanWin", fn := fun _ => fun
  | [d1, d2] => { results := [.lit (.bool true)], args := [d1, d2] }
  | _ => none }
def fnExactCanWinRow : OpenClaim := { program := "ytoiapfdlbkncaaa", sum := "3ddfffd6340391b3f598ba1c3ce276ce7836bacef73d37a1c1aa41730da475c7", func := "loop.example/g01158/laws.FnExactCanWin", spec := "fnExactCanWin", unfollowed := true, recurses := true, apart := false }
def FnExactCanWinSaid : Prop := fnExactCanWinRow.holds Try.pinned (OpenSpec.ofChange fnExactCanWinSpec)

/-- ITS FALSE NEIGHBOUR: 'it returns false'. Refute it at one input. -/
def fnExactCanWinWrong : ChangeSpec := { name := "fnExactCanWin", fn := fun _ => fun
  | [d1, d2] => { results := [.lit (.bool false)], args := [d1, d2] }
  | _ => none }
def FnExactCanWinWrongFalsely : Prop := fnExactCanWinRow.holds Try.pinned (OpenSpec.ofChange fnExactCanWinWrong)

/-- 'laws.FnExactNodeRounds': WHATEVER THE INPUT: true; the input reads as it did. -/
def fnExactNodeRoundsSpec : ChangeSpec := { name := "fnExactNodeRounds", fn := fun _ => fun
  | [d1, d2] => { results := [.lit (.bool true)], args := [d1, d2] }
  | _ => none }
def fnExactNodeRoundsRow : OpenClaim := { program := "ytoiapfdlbkncaaa", sum := "3ddfffd6340391b3f598ba1c3ce276ce7836bacef73d37a1c1aa41730da475c7", func := "loop.example/g01158/laws.FnExactNodeRounds", spec := "fnExactNodeRounds", unfollowed := true, recurses := true, apart := false }
def FnExactNodeRoundsSaid : Prop := fnExactNodeRoundsRow.holds Try.pinned (OpenSpec.ofChange fnExactNodeRoundsSpec)

/-- ITS FALSE NEIGHBOUR: 'it returns false'. Refute it at one input. -/
def fnExactNodeRoundsWrong : ChangeSpec := { name := "fnExactNodeRounds", fn := fun _ => fun
  | [d1, d2] => { results := [.lit (.bool false)], args := [d1, d2] }
  | _ => none }
def FnExactNodeRoundsWrongFalsely : Prop := fnExactNodeRoundsRow.holds Try.pinned (OpenSpec.ofChange fnExactNodeRoundsWrong)

/-- 'laws.FnExactWinRound': WHATEVER THE INPUT: true; the input reads as it did. -/
def fnExactWinRoundSpec : ChangeSpec := { name := "fnExactWinRound", fn := fun _ => fun
  | [d1, d2] => { results := [.lit (.bool true)], args := [d1, d2] }
  | _ => none }
def fnExactWinRoundRow : OpenClaim := { program := "ytoiapfdlbkncaaa", sum := "3ddfffd6340391b3f598ba1c3ce276ce7836bacef73d37a1c1aa41730da475c7", func := "loop.example/g01158/laws.FnExactWinRound", spec := "fnExactWinRound", unfollowed := true, recurses := true, apart := false }
def FnExactWinRoundSaid : Prop := fnExactWinRoundRow.holds Try.pinned (OpenSpec.ofChange fnExactWinRoundSpec)

/-- ITS FALSE NEIGHBOUR: 'it returns false'. Refute it at one input. -/
def fnExactWinRoundWrong : ChangeSpec := { name := "fnExactWinRound", fn := fun _ => fun
  | [d1, d2] => { results := [.lit (.bool false)], args := [d1, d2] }
  | _ => none }
def FnExactWinRoundWrongFalsely : Prop := fnExactWinRoundRow.holds Try.pinned (OpenSpec.ofChange fnExactWinRoundWrong)

/-- 'laws.FnExactRequiredColours': WHATEVER THE INPUT: true; the input reads as it did. -/
def fnExactRequiredColoursSpec : ChangeSpec := { name := "fnExactRequiredColours", fn := fun _ => fun
  | [d1, d2] => { results := [.lit (.bool true)], args := [d1, d2] }
  | _ => none }
def fnExactRequiredColoursRow : OpenClaim := { program := "ytoiapfdlbkncaaa", sum := "3ddfffd6340391b3f598ba1c3ce276ce7836bacef73d37a1c1aa41730da475c7", func := "loop.example/g01158/laws.FnExactRequiredColours", spec := "fnExactRequiredColours", unfollowed := true, recurses := true, apart := false }
def FnExactRequiredColoursSaid : Prop := fnExactRequiredColoursRow.holds Try.pinned (OpenSpec.ofChange fnExactRequiredColoursSpec)

/-- ITS FALSE NEIGHBOUR: 'it returns false'. Refute it at one input. -/
def fnExactRequiredColoursWrong : ChangeSpec := { name := "fnExactRequiredColours", fn := fun _ => fun
  | [d1, d2] => { results := [.lit (.bool false)], args := [d1, d2] }
  | _ => none }
def FnExactRequiredColoursWrongFalsely : Prop := fnExactRequiredColoursRow.holds Try.pinned (OpenSpec.ofChange fnExactRequiredColoursWrong)

/-- 'laws.FnExactRequiredNodes': WHATEVER THE INPUT: true; the input reads as it did. -/
def fnExactRequiredNodesSpec : ChangeSpec := { name := "fnExactRequiredNodes", fn := fun _ => fun
  | [d1, d2] => { results := [.lit (.bool true)], args := [d1, d2] }
  | _ => none }
def fnExactRequiredNodesRow : OpenClaim := { program := "ytoiapfdlbkncaaa", sum := "3ddfffd6340391b3f598ba1c3ce276ce7836bacef73d37a1c1aa41730da475c7", func := "loop.example/g01158/laws.FnExactRequiredNodes", spec := "fnExactRequiredNodes", unfollowed := true, recurses := true, apart := false }
def FnExactRequiredNodesSaid : Prop := fnExactRequiredNodesRow.holds Try.pinned (OpenSpec.ofChange fnExactRequiredNodesSpec)

/-- ITS FALSE NEIGHBOUR: 'it returns false'. Refute it at one input. -/
def fnExactRequiredNodesWrong : ChangeSpec := { name := "fnExactRequiredNodes", fn := fun _ => fun
  | [d1, d2] => { results := [.lit (.bool false)], args := [d1, d2] }
  | _ => none }
def FnExactRequiredNodesWrongFalsely : Prop := fnExactRequiredNodesRow.holds Try.pinned (OpenSpec.ofChange fnExactRequiredNodesWrong)

/-- 'laws.FnExactRequiredDoors': WHATEVER THE INPUT: true; the input reads as it did. -/
def fnExactRequiredDoorsSpec : ChangeSpec := { name := "fnExactRequiredDoors", fn := fun _ => fun
  | [d1, d2] => { results := [.lit (.bool true)], args := [d1, d2] }
  | _ => none }
def fnExactRequiredDoorsRow : OpenClaim := { program := "ytoiapfdlbkncaaa", sum := "3ddfffd6340391b3f598ba1c3ce276ce7836bacef73d37a1c1aa41730da475c7", func := "loop.example/g01158/laws.FnExactRequiredDoors", spec := "fnExactRequiredDoors", unfollowed := true, recurses := true, apart := false }
def FnExactRequiredDoorsSaid : Prop := fnExactRequiredDoorsRow.holds Try.pinned (OpenSpec.ofChange fnExactRequiredDoorsSpec)

/-- ITS FALSE NEIGHBOUR: 'it returns false'. Refute it at one input. -/
def fnExactRequiredDoorsWrong : ChangeSpec := { name := "fnExactRequiredDoors", fn := fun _ => fun
  | [d1, d2] => { results := [.lit (.bool false)], args := [d1, d2] }
  | _ => none }
def FnExactRequiredDoorsWrongFalsely : Prop := fnExactRequiredDoorsRow.holds Try.pinned (OpenSpec.ofChange fnExactRequiredDoorsWrong)

/-- 'laws.FnExactIdleNodes': WHATEVER THE INPUT: true; the input reads as it did. -/
def fnExactIdleNodesSpec : ChangeSpec := { name := "fnExactIdleNodes", fn := fun _ => fun
  | [d1, d2] => { results := [.lit (.bool true)], args := [d1, d2] }
  | _ => none }
def fnExactIdleNodesRow : OpenClaim := { program := "ytoiapfdlbkncaaa", sum := "3ddfffd6340391b3f598ba1c3ce276ce7836bacef73d37a1c1aa41730da475c7", func := "loop.example/g01158/laws.FnExactIdleNodes", spec := "fnExactIdleNodes", unfollowed := true, recurses := true, apart := false }
def FnExactIdleNodesSaid : Prop := fnExactIdleNodesRow.holds Try.pinned (OpenSpec.ofChange fnExactIdleNodesSpec)

/-- ITS FALSE NEIGHBOUR: 'it returns false'. Refute it at one input. -/
def fnExactIdleNodesWrong : ChangeSpec := { name := "fnExactIdleNodes", fn := fun _ => fun
  | [d1, d2] => { results := [.lit (.bool false)], args := [d1, d2] }
  | _ => none }
def FnExactIdleNodesWrongFalsely : Prop := fnExactIdleNodesRow.holds Try.pinned (OpenSpec.ofChange fnExactIdleNodesWrong)

/-- 'laws.FnExactHelpfulColours': WHATEVER THE INPUT: true; the input reads as it did. -/
def fnExactHelpfulColoursSpec : ChangeSpec := { name := "fnExactHelpfulColours", fn := fun _ => fun
  | [d1, d2] => { results := [.lit (.bool true)], args := [d1, d2] }
  | _ => none }
def fnExactHelpfulColoursRow : OpenClaim := { program := "ytoiapfdlbkncaaa", sum := "3ddfffd6340391b3f598ba1c3ce276ce7836bacef73d37a1c1aa41730da475c7", func := "loop.example/g01158/laws.FnExactHelpfulColours", spec := "fnExactHelpfulColours", unfollowed := true, recurses := true, apart := false }
def FnExactHelpfulColoursSaid : Prop := fnExactHelpfulColoursRow.holds Try.pinned (OpenSpec.ofChange fnExactHelpfulColoursSpec)

/-- ITS FALSE NEIGHBOUR: 'it returns false'. Refute it at one input. -/
def fnExactHelpfulColoursWrong : ChangeSpec := { name := "fnExactHelpfulColours", fn := fun _ => fun
  | [d1, d2] => { results := [.lit (.bool false)], args := [d1, d2] }
  | _ => none }
def FnExactHelpfulColoursWrongFalsely : Prop := fnExactHelpfulColoursRow.holds Try.pinned (OpenSpec.ofChange fnExactHelpfulColoursWrong)

/-- 'laws.FnWithout': WHATEVER THE INPUT: true; the input reads as it did. -/
def fnWithoutSpec : ChangeSpec := { name := "fnWithout", fn := fun _ => fun
  | [d] => { results := [.lit (.bool true)], args := [d] }
  | _ => none }
def fnWithoutRow : OpenClaim := { program := "ytoiapfdlbkncaaa", sum := "3ddfffd6340391b3f598ba1c3ce276ce7836bacef73d37a1c1aa41730da475c7", func := "loop.example/g01158/laws.FnWithout", spec := "fnWithout", unfollowed := true, recurses := true, apart := false }
def FnWithoutSaid : Prop := fnWithoutRow.holds Try.pinned (OpenSpec.ofChange fnWithoutSpec)

/-- ITS FALSE NEIGHBOUR: 'it returns false'. Refute it at one input. -/
def fnWithoutWrong : ChangeSpec := { name := "fnWithout", fn := fun _ => fun
  | [d] => { results := [.lit (.bool false)], args := [d] }
  | _ => none }
def FnWithoutWrongFalsely : Prop := fnWithoutRow.holds Try.pinned (OpenSpec.ofChange fnWithoutWrong)

/- THE SECOND FORM. 'bulk': how many values and letters a reading holds, each counted each time it is reached (what is shared counts as often as it is met; a slice's spare places count too). A statement '..UptoSaid' is the law's where the arguments, and the package variables that the reading takes, are together of bulk at most 1048576: NARROWER than '..Said'. Prove '..Said' where nothing that the law and all that it calls make is longer than what came in: it says more and counts as full. Else prove '..UptoSaid'. A law counts once. -/
mutual
def uptoBulk {H : Type} : DataW H → Nat
  | .lit (.string bytes) => bytes.length + 1
  | .lit _ => 1
  | .nil => 1
  | .ptr d => uptoBulk d + 1
  | .slice elems spare => uptoBulkAll elems + uptoBulkAll spare + 1
  | .agg parts => uptoBulkAll parts + 1
  | .iface _ d => uptoBulk d + 1
  | .map entries => uptoBulkEntries entries + 1
  | .held _ => 1
def uptoBulkAll {H : Type} : List (DataW H) → Nat
  | [] => 0
  | d :: r => uptoBulk d + uptoBulkAll r
def uptoBulkEntries {H : Type} : List (Lit × DataW H) → Nat
  | [] => 0
  | x :: r => uptoBulkEntry x + uptoBulkEntries r
def uptoBulkEntry {H : Type} : Lit × DataW H → Nat
  | (.string bytes, d) => bytes.length + uptoBulk d + 1
  | (_, d) => uptoBulk d + 1
 end
def uptoSmall : (H : Type) → List (DataW H) → Bool := fun _ ds => decide (uptoBulkAll ds ≤ 1048576)
def OpenSpec.upto (s : _root_.Go.ChangeSpec) : _root_.Go.OpenSpec := { _root_.Go.OpenSpec.ofChange s with cond := some uptoSmall }

/-- 'laws.FnExactReachWith', WHERE WHAT IT READS IS OF BULK AT MOST 1048576: true; the input reads as it did. -/
def fnExactReachWithUptoRow : OpenClaim := { program := "ytoiapfdlbkncaaa", sum := "3ddfffd6340391b3f598ba1c3ce276ce7836bacef73d37a1c1aa41730da475c7", func := "loop.example/g01158/laws.FnExactReachWith", spec := "fnExactReachWith", unfollowed := true, recurses := true, apart := false, narrowed := true }
def FnExactReachWithUptoSaid : Prop := fnExactReachWithUptoRow.holds Try.pinned (OpenSpec.upto fnExactReachWithSpec)

/-- 'laws.FnExactRoundsOf', WHERE WHAT IT READS IS OF BULK AT MOST 1048576: true; the input reads as it did. -/
def fnExactRoundsOfUptoRow : OpenClaim := { program := "ytoiapfdlbkncaaa", sum := "3ddfffd6340391b3f598ba1c3ce276ce7836bacef73d37a1c1aa41730da475c7", func := "loop.example/g01158/laws.FnExactRoundsOf", spec := "fnExactRoundsOf", unfollowed := true, recurses := true, apart := false, narrowed := true }
def FnExactRoundsOfUptoSaid : Prop := fnExactRoundsOfUptoRow.holds Try.pinned (OpenSpec.upto fnExactRoundsOfSpec)

/-- 'laws.FnExactGainAtLast', WHERE WHAT IT READS IS OF BULK AT MOST 1048576: true; the input reads as it did. -/
def fnExactGainAtLastUptoRow : OpenClaim := { program := "ytoiapfdlbkncaaa", sum := "3ddfffd6340391b3f598ba1c3ce276ce7836bacef73d37a1c1aa41730da475c7", func := "loop.example/g01158/laws.FnExactGainAtLast", spec := "fnExactGainAtLast", unfollowed := true, recurses := true, apart := false, narrowed := true }
def FnExactGainAtLastUptoSaid : Prop := fnExactGainAtLastUptoRow.holds Try.pinned (OpenSpec.upto fnExactGainAtLastSpec)

/-- 'laws.FnExactCanWin', WHERE WHAT IT READS IS OF BULK AT MOST 1048576: true; the input reads as it did. -/
def fnExactCanWinUptoRow : OpenClaim := { program := "ytoiapfdlbkncaaa", sum := "3ddfffd6340391b3f598ba1c3ce276ce7836bacef73d37a1c1aa41730da475c7", func := "loop.example/g01158/laws.FnExactCanWin", spec := "fnExactCanWin", unfollowed := true, recurses := true, apart := false, narrowed := true }
def FnExactCanWinUptoSaid : Prop := fnExactCanWinUptoRow.holds Try.pinned (OpenSpec.upto fnExactCanWinSpec)

/-- 'laws.FnExactNodeRounds', WHERE WHAT IT READS IS OF BULK AT MOST 1048576: true; the input reads as it did. -/
def fnExactNodeRoundsUptoRow : OpenClaim := { program := "ytoiapfdlbkncaaa", sum := "3ddfffd6340391b3f598ba1c3ce276ce7836bacef73d37a1c1aa41730da475c7", func := "loop.example/g01158/laws.FnExactNodeRounds", spec := "fnExactNodeRounds", unfollowed := true, recurses := true, apart := false, narrowed := true }
def FnExactNodeRoundsUptoSaid : Prop := fnExactNodeRoundsUptoRow.holds Try.pinned (OpenSpec.upto fnExactNodeRoundsSpec)

/-- 'laws.FnExactWinRound', WHERE WHAT IT READS IS OF BULK AT MOST 1048576: true; the input reads as it did. -/
def fnExactWinRoundUptoRow : OpenClaim := { program := "ytoiapfdlbkncaaa", sum := "3ddfffd6340391b3f598ba1c3ce276ce7836bacef73d37a1c1aa41730da475c7", func := "loop.example/g01158/laws.FnExactWinRound", spec := "fnExactWinRound", unfollowed := true, recurses := true, apart := false, narrowed := true }
def FnExactWinRoundUptoSaid : Prop := fnExactWinRoundUptoRow.holds Try.pinned (OpenSpec.upto fnExactWinRoundSpec)

/-- 'laws.FnExactRequiredColours', WHERE WHAT IT READS IS OF BULK AT MOST 1048576: true; the input reads as it did. -/
def fnExactRequiredColoursUptoRow : OpenClaim := { program := "ytoiapfdlbkncaaa", sum := "3ddfffd6340391b3f598ba1c3ce276ce7836bacef73d37a1c1aa41730da475c7", func := "loop.example/g01158/laws.FnExactRequiredColours", spec := "fnExactRequiredColours", unfollowed := true, recurses := true, apart := false, narrowed := true }
def FnExactRequiredColoursUptoSaid : Prop := fnExactRequiredColoursUptoRow.holds Try.pinned (OpenSpec.upto fnExactRequiredColoursSpec)

/-- 'laws.FnExactRequiredNodes', WHERE WHAT IT READS IS OF BULK AT MOST 1048576: true; the input reads as it did. -/
def fnExactRequiredNodesUptoRow : OpenClaim := { program := "ytoiapfdlbkncaaa", sum := "3ddfffd6340391b3f598ba1c3ce276ce7836bacef73d37a1c1aa41730da475c7", func := "loop.example/g01158/laws.FnExactRequiredNodes", spec := "fnExactRequiredNodes", unfollowed := true, recurses := true, apart := false, narrowed := true }
def FnExactRequiredNodesUptoSaid : Prop := fnExactRequiredNodesUptoRow.holds Try.pinned (OpenSpec.upto fnExactRequiredNodesSpec)

/-- 'laws.FnExactRequiredDoors', WHERE WHAT IT READS IS OF BULK AT MOST 1048576: true; the input reads as it did. -/
def fnExactRequiredDoorsUptoRow : OpenClaim := { program := "ytoiapfdlbkncaaa", sum := "3ddfffd6340391b3f598ba1c3ce276ce7836bacef73d37a1c1aa41730da475c7", func := "loop.example/g01158/laws.FnExactRequiredDoors", spec := "fnExactRequiredDoors", unfollowed := true, recurses := true, apart := false, narrowed := true }
def FnExactRequiredDoorsUptoSaid : Prop := fnExactRequiredDoorsUptoRow.holds Try.pinned (OpenSpec.upto fnExactRequiredDoorsSpec)

/-- 'laws.FnExactIdleNodes', WHERE WHAT IT READS IS OF BULK AT MOST 1048576: true; the input reads as it did. -/
def fnExactIdleNodesUptoRow : OpenClaim := { program := "ytoiapfdlbkncaaa", sum := "3ddfffd6340391b3f598ba1c3ce276ce7836bacef73d37a1c1aa41730da475c7", func := "loop.example/g01158/laws.FnExactIdleNodes", spec := "fnExactIdleNodes", unfollowed := true, recurses := true, apart := false, narrowed := true }
def FnExactIdleNodesUptoSaid : Prop := fnExactIdleNodesUptoRow.holds Try.pinned (OpenSpec.upto fnExactIdleNodesSpec)

/-- 'laws.FnExactHelpfulColours', WHERE WHAT IT READS IS OF BULK AT MOST 1048576: true; the input reads as it did. -/
def fnExactHelpfulColoursUptoRow : OpenClaim := { program := "ytoiapfdlbkncaaa", sum := "3ddfffd6340391b3f598ba1c3ce276ce7836bacef73d37a1c1aa41730da475c7", func := "loop.example/g01158/laws.FnExactHelpfulColours", spec := "fnExactHelpfulColours", unfollowed := true, recurses := true, apart := false, narrowed := true }
def FnExactHelpfulColoursUptoSaid : Prop := fnExactHelpfulColoursUptoRow.holds Try.pinned (OpenSpec.upto fnExactHelpfulColoursSpec)

/-- 'laws.FnWithout', WHERE WHAT IT READS IS OF BULK AT MOST 1048576: true; the input reads as it did. -/
def fnWithoutUptoRow : OpenClaim := { program := "ytoiapfdlbkncaaa", sum := "3ddfffd6340391b3f598ba1c3ce276ce7836bacef73d37a1c1aa41730da475c7", func := "loop.example/g01158/laws.FnWithout", spec := "fnWithout", unfollowed := true, recurses := true, apart := false, narrowed := true }
def FnWithoutUptoSaid : Prop := fnWithoutUptoRow.holds Try.pinned (OpenSpec.upto fnWithoutSpec)

end Rows
end Go.Proofs.Ytoiapfdlbkncaaa
