/-
  No cell of these rows narrows 'for every input' (looked for: loops, veiled, ifaces, maps, wideKeys, modest, calm, conditions, laid).
  DERIVED. THE GIVEN ROWS OF THIS SEAT. 12 by the template 'for every input the law returns true; each argument reads behind the call as it read before'; 0 by the template 'total and deterministic' (their statements: YtbcobheiofajeaaTotals.lean).
  GIVEN WITH THE SEED: the statements are not yours to turn. If you find one false, say at which input.
  Laid BY PROGRAM, IN A SANDBOX (cutbox-rows.mjs): the forced cells as the released guide's own fill.sh prints them over the translation ac63a5d957e55e80… (all of the seat's roots in one cut). By AI agents, Wed Nov 11 2026. No macro, syntax, notation, axiom, sorry.
-/
import Derived.Test.YtbcobheiofajeaaChecked
import GoSem.Claim
import GoSem.ClaimJoined
import GoSem.ClaimMapViews
import Derived.JoinedTies
import Derived.KernelRfl
namespace Go.Proofs.Ytbcobheiofajeaa
/- THE CELL 'sum', in the pinned program and in every row, IS THE sha256 OF THE DUMP (.gsa) THAT YtbcobheiofajeaaProg.lean LOADS. Nothing in Lean hashes anything: it is a label: what it is worth is what the hold of that sum in a sandbox is worth. -/
noncomputable def Try.pinned : Pinned := { name := "ytbcobheiofajeaa", sum := "ac63a5d957e55e80f19cf30262c09cf61fbf02b9fae524849368070c98fbdd8c", checked := Try.checked }
namespace Rows
def none {H : Type} : Left H := { results := [], args := [] }

/-- 'laws.FnExactIsWorlds': WHATEVER THE INPUT: true; the input reads as it did. -/
def fnExactIsWorldsSpec : ChangeSpec := { name := "fnExactIsWorlds", fn := fun _ => fun
  | [d] => { results := [.lit (.bool true)], args := [d] }
  | _ => none }
def fnExactIsWorldsRow : OpenClaim := { program := "ytbcobheiofajeaa", sum := "ac63a5d957e55e80f19cf30262c09cf61fbf02b9fae524849368070c98fbdd8c", func := "loop.example/g01158/laws.FnExactIsWorlds", spec := "fnExactIsWorlds", unfollowed := true, recurses := true, apart := false }
def FnExactIsWorldsSaid : Prop := fnExactIsWorldsRow.holds Try.pinned (OpenSpec.ofChange fnExactIsWorldsSpec)

/-- ITS FALSE NEIGHBOUR: 'it returns false'. Refute it at one input. -/
def fnExactIsWorldsWrong : ChangeSpec := { name := "fnExactIsWorlds", fn := fun _ => fun
  | [d] => { results := [.lit (.bool false)], args := [d] }
  | _ => none }
def FnExactIsWorldsWrongFalsely : Prop := fnExactIsWorldsRow.holds Try.pinned (OpenSpec.ofChange fnExactIsWorldsWrong)

/-- 'laws.FnExactRoundSets': WHATEVER THE INPUT: true; the input reads as it did. -/
def fnExactRoundSetsSpec : ChangeSpec := { name := "fnExactRoundSets", fn := fun _ => fun
  | [d] => { results := [.lit (.bool true)], args := [d] }
  | _ => none }
def fnExactRoundSetsRow : OpenClaim := { program := "ytbcobheiofajeaa", sum := "ac63a5d957e55e80f19cf30262c09cf61fbf02b9fae524849368070c98fbdd8c", func := "loop.example/g01158/laws.FnExactRoundSets", spec := "fnExactRoundSets", unfollowed := true, recurses := true, apart := false }
def FnExactRoundSetsSaid : Prop := fnExactRoundSetsRow.holds Try.pinned (OpenSpec.ofChange fnExactRoundSetsSpec)

/-- ITS FALSE NEIGHBOUR: 'it returns false'. Refute it at one input. -/
def fnExactRoundSetsWrong : ChangeSpec := { name := "fnExactRoundSets", fn := fun _ => fun
  | [d] => { results := [.lit (.bool false)], args := [d] }
  | _ => none }
def FnExactRoundSetsWrongFalsely : Prop := fnExactRoundSetsRow.holds Try.pinned (OpenSpec.ofChange fnExactRoundSetsWrong)

/-- 'laws.FnExactWonRounds': WHATEVER THE INPUT: true; the input reads as it did. -/
def fnExactWonRoundsSpec : ChangeSpec := { name := "fnExactWonRounds", fn := fun _ => fun
  | [d] => { results := [.lit (.bool true)], args := [d] }
  | _ => none }
def fnExactWonRoundsRow : OpenClaim := { program := "ytbcobheiofajeaa", sum := "ac63a5d957e55e80f19cf30262c09cf61fbf02b9fae524849368070c98fbdd8c", func := "loop.example/g01158/laws.FnExactWonRounds", spec := "fnExactWonRounds", unfollowed := true, recurses := true, apart := false }
def FnExactWonRoundsSaid : Prop := fnExactWonRoundsRow.holds Try.pinned (OpenSpec.ofChange fnExactWonRoundsSpec)

/-- ITS FALSE NEIGHBOUR: 'it returns false'. Refute it at one input. -/
def fnExactWonRoundsWrong : ChangeSpec := { name := "fnExactWonRounds", fn := fun _ => fun
  | [d] => { results := [.lit (.bool false)], args := [d] }
  | _ => none }
def FnExactWonRoundsWrongFalsely : Prop := fnExactWonRoundsRow.holds Try.pinned (OpenSpec.ofChange fnExactWonRoundsWrong)

/-- 'laws.FnExactAllWon': WHATEVER THE INPUT: true; the input reads as it did. -/
def fnExactAllWonSpec : ChangeSpec := { name := "fnExactAllWon", fn := fun _ => fun
  | [d] => { results := [.lit (.bool true)], args := [d] }
  | _ => none }
def fnExactAllWonRow : OpenClaim := { program := "ytbcobheiofajeaa", sum := "ac63a5d957e55e80f19cf30262c09cf61fbf02b9fae524849368070c98fbdd8c", func := "loop.example/g01158/laws.FnExactAllWon", spec := "fnExactAllWon", unfollowed := true, recurses := true, apart := false }
def FnExactAllWonSaid : Prop := fnExactAllWonRow.holds Try.pinned (OpenSpec.ofChange fnExactAllWonSpec)

/-- ITS FALSE NEIGHBOUR: 'it returns false'. Refute it at one input. -/
def fnExactAllWonWrong : ChangeSpec := { name := "fnExactAllWon", fn := fun _ => fun
  | [d] => { results := [.lit (.bool false)], args := [d] }
  | _ => none }
def FnExactAllWonWrongFalsely : Prop := fnExactAllWonRow.holds Try.pinned (OpenSpec.ofChange fnExactAllWonWrong)

/-- 'laws.FnExactReleaseSets': WHATEVER THE INPUT: true; the input reads as it did. -/
def fnExactReleaseSetsSpec : ChangeSpec := { name := "fnExactReleaseSets", fn := fun _ => fun
  | [d] => { results := [.lit (.bool true)], args := [d] }
  | _ => none }
def fnExactReleaseSetsRow : OpenClaim := { program := "ytbcobheiofajeaa", sum := "ac63a5d957e55e80f19cf30262c09cf61fbf02b9fae524849368070c98fbdd8c", func := "loop.example/g01158/laws.FnExactReleaseSets", spec := "fnExactReleaseSets", unfollowed := true, recurses := true, apart := false }
def FnExactReleaseSetsSaid : Prop := fnExactReleaseSetsRow.holds Try.pinned (OpenSpec.ofChange fnExactReleaseSetsSpec)

/-- ITS FALSE NEIGHBOUR: 'it returns false'. Refute it at one input. -/
def fnExactReleaseSetsWrong : ChangeSpec := { name := "fnExactReleaseSets", fn := fun _ => fun
  | [d] => { results := [.lit (.bool false)], args := [d] }
  | _ => none }
def FnExactReleaseSetsWrongFalsely : Prop := fnExactReleaseSetsRow.holds Try.pinned (OpenSpec.ofChange fnExactReleaseSetsWrong)

/-- 'laws.FnExactReleaseRounds': WHATEVER THE INPUT: true; the input reads as it did. -/
def fnExactReleaseRoundsSpec : ChangeSpec := { name := "fnExactReleaseRounds", fn := fun _ => fun
  | [d] => { results := [.lit (.bool true)], args := [d] }
  | _ => none }
def fnExactReleaseRoundsRow : OpenClaim := { program := "ytbcobheiofajeaa", sum := "ac63a5d957e55e80f19cf30262c09cf61fbf02b9fae524849368070c98fbdd8c", func := "loop.example/g01158/laws.FnExactReleaseRounds", spec := "fnExactReleaseRounds", unfollowed := true, recurses := true, apart := false }
def FnExactReleaseRoundsSaid : Prop := fnExactReleaseRoundsRow.holds Try.pinned (OpenSpec.ofChange fnExactReleaseRoundsSpec)

/-- ITS FALSE NEIGHBOUR: 'it returns false'. Refute it at one input. -/
def fnExactReleaseRoundsWrong : ChangeSpec := { name := "fnExactReleaseRounds", fn := fun _ => fun
  | [d] => { results := [.lit (.bool false)], args := [d] }
  | _ => none }
def FnExactReleaseRoundsWrongFalsely : Prop := fnExactReleaseRoundsRow.holds Try.pinned (OpenSpec.ofChange fnExactReleaseRoundsWrong)

/-- 'laws.FnExactLeansOn': WHATEVER THE INPUT: true; the input reads as it did. -/
def fnExactLeansOnSpec : ChangeSpec := { name := "fnExactLeansOn", fn := fun _ => fun
  | [d1, d2] => { results := [.lit (.bool true)], args := [d1, d2] }
  | _ => none }
def fnExactLeansOnRow : OpenClaim := { program := "ytbcobheiofajeaa", sum := "ac63a5d957e55e80f19cf30262c09cf61fbf02b9fae524849368070c98fbdd8c", func := "loop.example/g01158/laws.FnExactLeansOn", spec := "fnExactLeansOn", unfollowed := true, recurses := true, apart := false }
def FnExactLeansOnSaid : Prop := fnExactLeansOnRow.holds Try.pinned (OpenSpec.ofChange fnExactLeansOnSpec)

/-- ITS FALSE NEIGHBOUR: 'it returns false'. Refute it at one input. -/
def fnExactLeansOnWrong : ChangeSpec := { name := "fnExactLeansOn", fn := fun _ => fun
  | [d1, d2] => { results := [.lit (.bool false)], args := [d1, d2] }
  | _ => none }
def FnExactLeansOnWrongFalsely : Prop := fnExactLeansOnRow.holds Try.pinned (OpenSpec.ofChange fnExactLeansOnWrong)

/-- 'laws.FnExactCanEver': WHATEVER THE INPUT: true; the input reads as it did. -/
def fnExactCanEverSpec : ChangeSpec := { name := "fnExactCanEver", fn := fun _ => fun
  | [d1, d2] => { results := [.lit (.bool true)], args := [d1, d2] }
  | _ => none }
def fnExactCanEverRow : OpenClaim := { program := "ytbcobheiofajeaa", sum := "ac63a5d957e55e80f19cf30262c09cf61fbf02b9fae524849368070c98fbdd8c", func := "loop.example/g01158/laws.FnExactCanEver", spec := "fnExactCanEver", unfollowed := true, recurses := true, apart := false }
def FnExactCanEverSaid : Prop := fnExactCanEverRow.holds Try.pinned (OpenSpec.ofChange fnExactCanEverSpec)

/-- ITS FALSE NEIGHBOUR: 'it returns false'. Refute it at one input. -/
def fnExactCanEverWrong : ChangeSpec := { name := "fnExactCanEver", fn := fun _ => fun
  | [d1, d2] => { results := [.lit (.bool false)], args := [d1, d2] }
  | _ => none }
def FnExactCanEverWrongFalsely : Prop := fnExactCanEverRow.holds Try.pinned (OpenSpec.ofChange fnExactCanEverWrong)

/-- 'laws.FnExactReachedIn': WHATEVER THE INPUT: true; the input reads as it did. -/
def fnExactReachedInSpec : ChangeSpec := { name := "fnExactReachedIn", fn := fun _ => fun
  | [d1, d2] => { results := [.lit (.bool true)], args := [d1, d2] }
  | _ => none }
def fnExactReachedInRow : OpenClaim := { program := "ytbcobheiofajeaa", sum := "ac63a5d957e55e80f19cf30262c09cf61fbf02b9fae524849368070c98fbdd8c", func := "loop.example/g01158/laws.FnExactReachedIn", spec := "fnExactReachedIn", unfollowed := true, recurses := true, apart := false }
def FnExactReachedInSaid : Prop := fnExactReachedInRow.holds Try.pinned (OpenSpec.ofChange fnExactReachedInSpec)

/-- ITS FALSE NEIGHBOUR: 'it returns false'. Refute it at one input. -/
def fnExactReachedInWrong : ChangeSpec := { name := "fnExactReachedIn", fn := fun _ => fun
  | [d1, d2] => { results := [.lit (.bool false)], args := [d1, d2] }
  | _ => none }
def FnExactReachedInWrongFalsely : Prop := fnExactReachedInRow.holds Try.pinned (OpenSpec.ofChange fnExactReachedInWrong)

/-- 'laws.FnExactAloneWorlds': WHATEVER THE INPUT: true; the input reads as it did. -/
def fnExactAloneWorldsSpec : ChangeSpec := { name := "fnExactAloneWorlds", fn := fun _ => fun
  | [d] => { results := [.lit (.bool true)], args := [d] }
  | _ => none }
def fnExactAloneWorldsRow : OpenClaim := { program := "ytbcobheiofajeaa", sum := "ac63a5d957e55e80f19cf30262c09cf61fbf02b9fae524849368070c98fbdd8c", func := "loop.example/g01158/laws.FnExactAloneWorlds", spec := "fnExactAloneWorlds", unfollowed := true, recurses := true, apart := false }
def FnExactAloneWorldsSaid : Prop := fnExactAloneWorldsRow.holds Try.pinned (OpenSpec.ofChange fnExactAloneWorldsSpec)

/-- ITS FALSE NEIGHBOUR: 'it returns false'. Refute it at one input. -/
def fnExactAloneWorldsWrong : ChangeSpec := { name := "fnExactAloneWorlds", fn := fun _ => fun
  | [d] => { results := [.lit (.bool false)], args := [d] }
  | _ => none }
def FnExactAloneWorldsWrongFalsely : Prop := fnExactAloneWorldsRow.holds Try.pinned (OpenSpec.ofChange fnExactAloneWorldsWrong)

/-- 'laws.FnExactOrderWorlds': WHATEVER THE INPUT: true; the input reads as it did. -/
def fnExactOrderWorldsSpec : ChangeSpec := { name := "fnExactOrderWorlds", fn := fun _ => fun
  | [d1, d2] => { results := [.lit (.bool true)], args := [d1, d2] }
  | _ => none }
def fnExactOrderWorldsRow : OpenClaim := { program := "ytbcobheiofajeaa", sum := "ac63a5d957e55e80f19cf30262c09cf61fbf02b9fae524849368070c98fbdd8c", func := "loop.example/g01158/laws.FnExactOrderWorlds", spec := "fnExactOrderWorlds", unfollowed := true, recurses := true, apart := false }
def FnExactOrderWorldsSaid : Prop := fnExactOrderWorldsRow.holds Try.pinned (OpenSpec.ofChange fnExactOrderWorldsSpec)

/-- ITS FALSE NEIGHBOUR: 'it returns false'. Refute it at one input. -/
def fnExactOrderWorldsWrong : ChangeSpec := { name := "fnExactOrderWorlds", fn := fun _ => fun
  | [d1, d2] => { results := [.lit (.bool false)], args := [d1, d2] }
  | _ => none }
def FnExactOrderWorldsWrongFalsely : Prop := fnExactOrderWorldsRow.holds Try.pinned (OpenSpec.ofChange fnExactOrderWorldsWrong)

/-- 'laws.FnExactGiveKeys': WHATEVER THE INPUT: true; the input reads as it did. -/
def fnExactGiveKeysSpec : ChangeSpec := { name := "fnExactGiveKeys", fn := fun _ => fun
  | [d1, d2, d3, d4] => { results := [.lit (.bool true)], args := [d1, d2, d3, d4] }
  | _ => none }
def fnExactGiveKeysRow : OpenClaim := { program := "ytbcobheiofajeaa", sum := "ac63a5d957e55e80f19cf30262c09cf61fbf02b9fae524849368070c98fbdd8c", func := "loop.example/g01158/laws.FnExactGiveKeys", spec := "fnExactGiveKeys", unfollowed := true, recurses := true, apart := false }
def FnExactGiveKeysSaid : Prop := fnExactGiveKeysRow.holds Try.pinned (OpenSpec.ofChange fnExactGiveKeysSpec)

/-- ITS FALSE NEIGHBOUR: 'it returns false'. Refute it at one input. -/
def fnExactGiveKeysWrong : ChangeSpec := { name := "fnExactGiveKeys", fn := fun _ => fun
  | [d1, d2, d3, d4] => { results := [.lit (.bool false)], args := [d1, d2, d3, d4] }
  | _ => none }
def FnExactGiveKeysWrongFalsely : Prop := fnExactGiveKeysRow.holds Try.pinned (OpenSpec.ofChange fnExactGiveKeysWrong)

/- THE SECOND FORM. 'bulk': how many values and letters a reading holds, each counted each time it is reached (what is shared counts as often as it is met; a slice's spare places count too). A statement '..UptoSaid' is the law's where the arguments, and the package variables that the reading takes, are together of bulk at most 1048576: NARROWER than '..Said'. Prove '..Said' where nothing that the law and all that it calls make is longer than what came in: it says more and counts as full. Else prove '..UptoSaid'. A law counts once. -/
mutual
def uptoBulk {H : Type} : DataW H → Nat
  | .lit (.string bytes) => bytes.length + 1
  | .lit _ => 1
  | .nil => 1
  | .ptr d => uptoBulk d + 1
  | .slice elems spare => uptoBulkAll elems + uptoBulkAll spare + 1
  | .agg parts => uptoBulkAll parts + 1
  | .iface _ d => uptoBulk d + 1
  | .map entries => uptoBulkEntries entries + 1
  | .held _ => 1
def uptoBulkAll {H : Type} : List (DataW H) → Nat
  | [] => 0
  | d :: r => uptoBulk d + uptoBulkAll r
def uptoBulkEntries {H : Type} : List (Lit × DataW H) → Nat
  | [] => 0
  | x :: r => uptoBulkEntry x + uptoBulkEntries r
def uptoBulkEntry {H : Type} : Lit × DataW H → Nat
  | (.string bytes, d) => bytes.length + uptoBulk d + 1
  | (_, d) => uptoBulk d + 1
 end
def uptoSmall : (H : Type) → List (DataW H) → Bool := fun _ ds => decide (uptoBulkAll ds ≤ 1048576)
def OpenSpec.upto (s : _root_.Go.ChangeSpec) : _root_.Go.OpenSpec := { _root_.Go.OpenSpec.ofChange s with cond := some uptoSmall }

/-- 'laws.FnExactIsWorlds', WHERE WHAT IT READS IS OF BULK AT MOST 1048576: true; the input reads as it did. -/
def fnExactIsWorldsUptoRow : OpenClaim := { program := "ytbcobheiofajeaa", sum := "ac63a5d957e55e80f19cf30262c09cf61fbf02b9fae524849368070c98fbdd8c", func := "loop.example/g01158/laws.FnExactIsWorlds", spec := "fnExactIsWorlds", unfollowed := true, recurses := true, apart := false, narrowed := true }
def FnExactIsWorldsUptoSaid : Prop := fnExactIsWorldsUptoRow.holds Try.pinned (OpenSpec.upto fnExactIsWorldsSpec)

/-- 'laws.FnExactRoundSets', WHERE WHAT IT READS IS OF BULK AT MOST 1048576: true; the input reads as it did. -/
def fnExactRoundSetsUptoRow : OpenClaim := { program := "ytbcobheiofajeaa", sum := "ac63a5d957e55e80f19cf30262c09cf61fbf02b9fae524849368070c98fbdd8c", func := "loop.example/g01158/laws.FnExactRoundSets", spec := "fnExactRoundSets", unfollowed := true, recurses := true, apart := false, narrowed := true }
def FnExactRoundSetsUptoSaid : Prop := fnExactRoundSetsUptoRow.holds Try.pinned (OpenSpec.upto fnExactRoundSetsSpec)

/-- 'laws.FnExactWonRounds', WHERE WHAT IT READS IS OF BULK AT MOST 1048576: true; the input reads as it did. -/
def fnExactWonRoundsUptoRow : OpenClaim := { program := "ytbcobheiofajeaa", sum := "ac63a5d957e55e80f19cf30262c09cf61fbf02b9fae524849368070c98fbdd8c", func := "loop.example/g01158/laws.FnExactWonRounds", spec := "fnExactWonRounds", unfollowed := true, recurses := true, apart := false, narrowed := true }
def FnExactWonRoundsUptoSaid : Prop := fnExactWonRoundsUptoRow.holds Try.pinned (OpenSpec.upto fnExactWonRoundsSpec)

/-- 'laws.FnExactAllWon', WHERE WHAT IT READS IS OF BULK AT MOST 1048576: true; the input reads as it did. -/
def fnExactAllWonUptoRow : OpenClaim := { program := "ytbcobheiofajeaa", sum := "ac63a5d957e55e80f19cf30262c09cf61fbf02b9fae524849368070c98fbdd8c", func := "loop.example/g01158/laws.FnExactAllWon", spec := "fnExactAllWon", unfollowed := true, recurses := true, apart := false, narrowed := true }
def FnExactAllWonUptoSaid : Prop := fnExactAllWonUptoRow.holds Try.pinned (OpenSpec.upto fnExactAllWonSpec)

/-- 'laws.FnExactReleaseSets', WHERE WHAT IT READS IS OF BULK AT MOST 1048576: true; the input reads as it did. -/
def fnExactReleaseSetsUptoRow : OpenClaim := { program := "ytbcobheiofajeaa", sum := "ac63a5d957e55e80f19cf30262c09cf61fbf02b9fae524849368070c98fbdd8c", func := "loop.example/g01158/laws.FnExactReleaseSets", spec := "fnExactReleaseSets", unfollowed := true, recurses := true, apart := false, narrowed := true }
def FnExactReleaseSetsUptoSaid : Prop := fnExactReleaseSetsUptoRow.holds Try.pinned (OpenSpec.upto fnExactReleaseSetsSpec)

/-- 'laws.FnExactReleaseRounds', WHERE WHAT IT READS IS OF BULK AT MOST 1048576: true; the input reads as it did. -/
def fnExactReleaseRoundsUptoRow : OpenClaim := { program := "ytbcobheiofajeaa", sum := "ac63a5d957e55e80f19cf30262c09cf61fbf02b9fae524849368070c98fbdd8c", func := "loop.example/g01158/laws.FnExactReleaseRounds", spec := "fnExactReleaseRounds", unfollowed := true, recurses := true, apart := false, narrowed := true }
def FnExactReleaseRoundsUptoSaid : Prop := fnExactReleaseRoundsUptoRow.holds Try.pinned (OpenSpec.upto fnExactReleaseRoundsSpec)

/-- 'laws.FnExactLeansOn', WHERE WHAT IT READS IS OF BULK AT MOST 1048576: true; the input reads as it did. -/
def fnExactLeansOnUptoRow : OpenClaim := { program := "ytbcobheiofajeaa", sum := "ac63a5d957e55e80f19cf30262c09cf61fbf02b9fae524849368070c98fbdd8c", func := "loop.example/g01158/laws.FnExactLeansOn", spec := "fnExactLeansOn", unfollowed := true, recurses := true, apart := false, narrowed := true }
def FnExactLeansOnUptoSaid : Prop := fnExactLeansOnUptoRow.holds Try.pinned (OpenSpec.upto fnExactLeansOnSpec)

/-- 'laws.FnExactCanEver', WHERE WHAT IT READS IS OF BULK AT MOST 1048576: true; the input reads as it did. -/
def fnExactCanEverUptoRow : OpenClaim := { program := "ytbcobheiofajeaa", sum := "ac63a5d957e55e80f19cf30262c09cf61fbf02b9fae524849368070c98fbdd8c", func := "loop.example/g01158/laws.FnExactCanEver", spec := "fnExactCanEver", unfollowed := true, recurses := true, apart := false, narrowed := true }
def FnExactCanEverUptoSaid : Prop := fnExactCanEverUptoRow.holds Try.pinned (OpenSpec.upto fnExactCanEverSpec)

/-- 'laws.FnExactReachedIn', WHERE WHAT IT READS IS OF BULK AT MOST 1048576: true; the input reads as it did. -/
def fnExactReachedInUptoRow : OpenClaim := { program := "ytbcobheiofajeaa", sum := "ac63a5d957e55e80f19cf30262c09cf61fbf02b9fae524849368070c98fbdd8c", func := "loop.example/g01158/laws.FnExactReachedIn", spec := "fnExactReachedIn", unfollowed := true, recurses := true, apart := false, narrowed := true }
def FnExactReachedInUptoSaid : Prop := fnExactReachedInUptoRow.holds Try.pinned (OpenSpec.upto fnExactReachedInSpec)

/-- 'laws.FnExactAloneWorlds', WHERE WHAT IT READS IS OF BULK AT MOST 1048576: true; the input reads as it did. -/
def fnExactAloneWorldsUptoRow : OpenClaim := { program := "ytbcobheiofajeaa", sum := "ac63a5d957e55e80f19cf30262c09cf61fbf02b9fae524849368070c98fbdd8c", func := "loop.example/g01158/laws.FnExactAloneWorlds", spec := "fnExactAloneWorlds", unfollowed := true, recurses := true, apart := false, narrowed := true }
def FnExactAloneWorldsUptoSaid : Prop := fnExactAloneWorldsUptoRow.holds Try.pinned (OpenSpec.upto fnExactAloneWorldsSpec)

/-- 'laws.FnExactOrderWorlds', WHERE WHAT IT READS IS OF BULK AT MOST 1048576: true; the input reads as it did. -/
def fnExactOrderWorldsUptoRow : OpenClaim := { program := "ytbcobheiofajeaa", sum := "ac63a5d957e55e80f19cf30262c09cf61fbf02b9fae524849368070c98fbdd8c", func := "loop.example/g01158/laws.FnExactOrderWorlds", spec := "fnExactOrderWorlds", unfollowed := true, recurses := true, apart := false, narrowed := true }
def FnExactOrderWorldsUptoSaid : Prop := fnExactOrderWorldsUptoRow.holds Try.pinned (OpenSpec.upto fnExactOrderWorldsSpec)

/-- 'laws.FnExactGiveKeys', WHERE WHAT IT READS IS OF BULK AT MOST 1048576: true; the input reads as it did. -/
def fnExactGiveKeysUptoRow : OpenClaim := { program := "ytbcobheiofajeaa", sum := "ac63a5d957e55e80f19cf30262c09cf61fbf02b9fae524849368070c98fbdd8c", func := "loop.example/g01158/laws.FnExactGiveKeys", spec := "fnExactGiveKeys", unfollowed := true, recurses := true, apart := false, narrowed := true }
def FnExactGiveKeysUptoSaid : Prop := fnExactGiveKeysUptoRow.holds Try.pinned (OpenSpec.upto fnExactGiveKeysSpec)

end Rows
end Go.Proofs.Ytbcobheiofajeaa
