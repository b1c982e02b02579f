/-
  No cell of these rows narrows 'for every input' (looked for: loops, veiled, ifaces, maps, wideKeys, modest, calm, conditions, laid).
  DERIVED. THE GIVEN ROWS OF THIS SEAT. 14 by the template 'for every input the law returns true; each argument reads behind the call as it read before'; 0 by the template 'total and deterministic' (their statements: YtcoaggnilgfjfaaTotals.lean).
  GIVEN WITH THE SEED: the statements are not yours to turn. If you find one false, say at which input.
  Laid BY PROGRAM, IN A SANDBOX (cutbox-rows.mjs): the forced cells as the released guide's own fill.sh prints them over the translation a3987c530ad0661d… (all of the seat's roots in one cut). By AI agents, Wed Nov 11 2026. No macro, syntax, notation, axiom, sorry.
-/
import Derived.Test.YtcoaggnilgfjfaaChecked
import GoSem.Claim
import GoSem.ClaimJoined
import GoSem.ClaimMapViews
import Derived.JoinedTies
import Derived.KernelRfl
namespace Go.Proofs.Ytcoaggnilgfjfaa
/- THE CELL 'sum', in the pinned program and in every row, IS THE sha256 OF THE DUMP (.gsa) THAT YtcoaggnilgfjfaaProg.lean LOADS. Nothing in Lean hashes anything: it is a label: what it is worth is what the hold of that sum in a sandbox is worth. -/
noncomputable def Try.pinned : Pinned := { name := "ytcoaggnilgfjfaa", sum := "a3987c530ad0661ded9300d68f3e616b709bba148dca22eccd5984d1133063ad", checked := Try.checked }
namespace Rows
def none {H : Type} : Left H := { results := [], args := [] }

/-- 'laws.FnExactSetWins': WHATEVER THE INPUT: true; the input reads as it did. -/
def fnExactSetWinsSpec : ChangeSpec := { name := "fnExactSetWins", fn := fun _ => fun
  | [d1, d2] => { results := [.lit (.bool true)], args := [d1, d2] }
  | _ => none }
def fnExactSetWinsRow : OpenClaim := { program := "ytcoaggnilgfjfaa", sum := "a3987c530ad0661ded9300d68f3e616b709bba148dca22eccd5984d1133063ad", func := "loop.example/g01158/laws.FnExactSetWins", spec := "fnExactSetWins", unfollowed := true, recurses := true, plainKeys := false, apart := false }
def FnExactSetWinsSaid : Prop := fnExactSetWinsRow.holds Try.pinned (OpenSpec.ofChange fnExactSetWinsSpec)

/-- ITS FALSE NEIGHBOUR: 'it returns false'. Refute it at one input. -/
def fnExactSetWinsWrong : ChangeSpec := { name := "fnExactSetWins", fn := fun _ => fun
  | [d1, d2] => { results := [.lit (.bool false)], args := [d1, d2] }
  | _ => none }
def FnExactSetWinsWrongFalsely : Prop := fnExactSetWinsRow.holds Try.pinned (OpenSpec.ofChange fnExactSetWinsWrong)

/-- 'laws.FnExactLeastWins': WHATEVER THE INPUT: true; the input reads as it did. -/
def fnExactLeastWinsSpec : ChangeSpec := { name := "fnExactLeastWins", fn := fun _ => fun
  | [d] => { results := [.lit (.bool true)], args := [d] }
  | _ => none }
def fnExactLeastWinsRow : OpenClaim := { program := "ytcoaggnilgfjfaa", sum := "a3987c530ad0661ded9300d68f3e616b709bba148dca22eccd5984d1133063ad", func := "loop.example/g01158/laws.FnExactLeastWins", spec := "fnExactLeastWins", unfollowed := true, recurses := true, plainKeys := false, apart := false }
def FnExactLeastWinsSaid : Prop := fnExactLeastWinsRow.holds Try.pinned (OpenSpec.ofChange fnExactLeastWinsSpec)

/-- ITS FALSE NEIGHBOUR: 'it returns false'. Refute it at one input. -/
def fnExactLeastWinsWrong : ChangeSpec := { name := "fnExactLeastWins", fn := fun _ => fun
  | [d] => { results := [.lit (.bool false)], args := [d] }
  | _ => none }
def FnExactLeastWinsWrongFalsely : Prop := fnExactLeastWinsRow.holds Try.pinned (OpenSpec.ofChange fnExactLeastWinsWrong)

/-- 'laws.FnExactLeastBars': WHATEVER THE INPUT: true; the input reads as it did. -/
def fnExactLeastBarsSpec : ChangeSpec := { name := "fnExactLeastBars", fn := fun _ => fun
  | [d] => { results := [.lit (.bool true)], args := [d] }
  | _ => none }
def fnExactLeastBarsRow : OpenClaim := { program := "ytcoaggnilgfjfaa", sum := "a3987c530ad0661ded9300d68f3e616b709bba148dca22eccd5984d1133063ad", func := "loop.example/g01158/laws.FnExactLeastBars", spec := "fnExactLeastBars", unfollowed := true, recurses := true, plainKeys := false, apart := false }
def FnExactLeastBarsSaid : Prop := fnExactLeastBarsRow.holds Try.pinned (OpenSpec.ofChange fnExactLeastBarsSpec)

/-- ITS FALSE NEIGHBOUR: 'it returns false'. Refute it at one input. -/
def fnExactLeastBarsWrong : ChangeSpec := { name := "fnExactLeastBars", fn := fun _ => fun
  | [d] => { results := [.lit (.bool false)], args := [d] }
  | _ => none }
def FnExactLeastBarsWrongFalsely : Prop := fnExactLeastBarsRow.holds Try.pinned (OpenSpec.ofChange fnExactLeastBarsWrong)

/-- 'laws.FnExactSetBars': WHATEVER THE INPUT: true; the input reads as it did. -/
def fnExactSetBarsSpec : ChangeSpec := { name := "fnExactSetBars", fn := fun _ => fun
  | [d1, d2] => { results := [.lit (.bool true)], args := [d1, d2] }
  | _ => none }
def fnExactSetBarsRow : OpenClaim := { program := "ytcoaggnilgfjfaa", sum := "a3987c530ad0661ded9300d68f3e616b709bba148dca22eccd5984d1133063ad", func := "loop.example/g01158/laws.FnExactSetBars", spec := "fnExactSetBars", unfollowed := true, recurses := true, plainKeys := false, apart := false }
def FnExactSetBarsSaid : Prop := fnExactSetBarsRow.holds Try.pinned (OpenSpec.ofChange fnExactSetBarsSpec)

/-- ITS FALSE NEIGHBOUR: 'it returns false'. Refute it at one input. -/
def fnExactSetBarsWrong : ChangeSpec := { name := "fnExactSetBars", fn := fun _ => fun
  | [d1, d2] => { results := [.lit (.bool false)], args := [d1, d2] }
  | _ => none }
def FnExactSetBarsWrongFalsely : Prop := fnExactSetBarsRow.holds Try.pinned (OpenSpec.ofChange fnExactSetBarsWrong)

/-- 'laws.FnExactCountWinning': WHATEVER THE INPUT: true; the input reads as it did. -/
def fnExactCountWinningSpec : ChangeSpec := { name := "fnExactCountWinning", fn := fun _ => fun
  | [d] => { results := [.lit (.bool true)], args := [d] }
  | _ => none }
def fnExactCountWinningRow : OpenClaim := { program := "ytcoaggnilgfjfaa", sum := "a3987c530ad0661ded9300d68f3e616b709bba148dca22eccd5984d1133063ad", func := "loop.example/g01158/laws.FnExactCountWinning", spec := "fnExactCountWinning", unfollowed := true, recurses := true, plainKeys := false, apart := false }
def FnExactCountWinningSaid : Prop := fnExactCountWinningRow.holds Try.pinned (OpenSpec.ofChange fnExactCountWinningSpec)

/-- ITS FALSE NEIGHBOUR: 'it returns false'. Refute it at one input. -/
def fnExactCountWinningWrong : ChangeSpec := { name := "fnExactCountWinning", fn := fun _ => fun
  | [d] => { results := [.lit (.bool false)], args := [d] }
  | _ => none }
def FnExactCountWinningWrongFalsely : Prop := fnExactCountWinningRow.holds Try.pinned (OpenSpec.ofChange fnExactCountWinningWrong)

/-- 'laws.FnExactPowerOfColours': WHATEVER THE INPUT: true; the input reads as it did. -/
def fnExactPowerOfColoursSpec : ChangeSpec := { name := "fnExactPowerOfColours", fn := fun _ => fun
  | [d] => { results := [.lit (.bool true)], args := [d] }
  | _ => none }
def fnExactPowerOfColoursRow : OpenClaim := { program := "ytcoaggnilgfjfaa", sum := "a3987c530ad0661ded9300d68f3e616b709bba148dca22eccd5984d1133063ad", func := "loop.example/g01158/laws.FnExactPowerOfColours", spec := "fnExactPowerOfColours", unfollowed := true, recurses := true, plainKeys := false, apart := false }
def FnExactPowerOfColoursSaid : Prop := fnExactPowerOfColoursRow.holds Try.pinned (OpenSpec.ofChange fnExactPowerOfColoursSpec)

/-- ITS FALSE NEIGHBOUR: 'it returns false'. Refute it at one input. -/
def fnExactPowerOfColoursWrong : ChangeSpec := { name := "fnExactPowerOfColours", fn := fun _ => fun
  | [d] => { results := [.lit (.bool false)], args := [d] }
  | _ => none }
def FnExactPowerOfColoursWrongFalsely : Prop := fnExactPowerOfColoursRow.holds Try.pinned (OpenSpec.ofChange fnExactPowerOfColoursWrong)

/-- 'laws.FnExactNeededColours': WHATEVER THE INPUT: true; the input reads as it did. -/
def fnExactNeededColoursSpec : ChangeSpec := { name := "fnExactNeededColours", fn := fun _ => fun
  | [d] => { results := [.lit (.bool true)], args := [d] }
  | _ => none }
def fnExactNeededColoursRow : OpenClaim := { program := "ytcoaggnilgfjfaa", sum := "a3987c530ad0661ded9300d68f3e616b709bba148dca22eccd5984d1133063ad", func := "loop.example/g01158/laws.FnExactNeededColours", spec := "fnExactNeededColours", unfollowed := true, recurses := true, plainKeys := false, apart := false }
def FnExactNeededColoursSaid : Prop := fnExactNeededColoursRow.holds Try.pinned (OpenSpec.ofChange fnExactNeededColoursSpec)

/-- ITS FALSE NEIGHBOUR: 'it returns false'. Refute it at one input. -/
def fnExactNeededColoursWrong : ChangeSpec := { name := "fnExactNeededColours", fn := fun _ => fun
  | [d] => { results := [.lit (.bool false)], args := [d] }
  | _ => none }
def FnExactNeededColoursWrongFalsely : Prop := fnExactNeededColoursRow.holds Try.pinned (OpenSpec.ofChange fnExactNeededColoursWrong)

/-- 'laws.FnExactIdleColours': WHATEVER THE INPUT: true; the input reads as it did. -/
def fnExactIdleColoursSpec : ChangeSpec := { name := "fnExactIdleColours", fn := fun _ => fun
  | [d] => { results := [.lit (.bool true)], args := [d] }
  | _ => none }
def fnExactIdleColoursRow : OpenClaim := { program := "ytcoaggnilgfjfaa", sum := "a3987c530ad0661ded9300d68f3e616b709bba148dca22eccd5984d1133063ad", func := "loop.example/g01158/laws.FnExactIdleColours", spec := "fnExactIdleColours", unfollowed := true, recurses := true, plainKeys := false, apart := false }
def FnExactIdleColoursSaid : Prop := fnExactIdleColoursRow.holds Try.pinned (OpenSpec.ofChange fnExactIdleColoursSpec)

/-- ITS FALSE NEIGHBOUR: 'it returns false'. Refute it at one input. -/
def fnExactIdleColoursWrong : ChangeSpec := { name := "fnExactIdleColours", fn := fun _ => fun
  | [d] => { results := [.lit (.bool false)], args := [d] }
  | _ => none }
def FnExactIdleColoursWrongFalsely : Prop := fnExactIdleColoursRow.holds Try.pinned (OpenSpec.ofChange fnExactIdleColoursWrong)

/-- 'laws.FnExactIsClutter': WHATEVER THE INPUT: true; the input reads as it did. -/
def fnExactIsClutterSpec : ChangeSpec := { name := "fnExactIsClutter", fn := fun _ => fun
  | [d] => { results := [.lit (.bool true)], args := [d] }
  | _ => none }
def fnExactIsClutterRow : OpenClaim := { program := "ytcoaggnilgfjfaa", sum := "a3987c530ad0661ded9300d68f3e616b709bba148dca22eccd5984d1133063ad", func := "loop.example/g01158/laws.FnExactIsClutter", spec := "fnExactIsClutter", unfollowed := true, recurses := true, plainKeys := false, apart := false }
def FnExactIsClutterSaid : Prop := fnExactIsClutterRow.holds Try.pinned (OpenSpec.ofChange fnExactIsClutterSpec)

/-- ITS FALSE NEIGHBOUR: 'it returns false'. Refute it at one input. -/
def fnExactIsClutterWrong : ChangeSpec := { name := "fnExactIsClutter", fn := fun _ => fun
  | [d] => { results := [.lit (.bool false)], args := [d] }
  | _ => none }
def FnExactIsClutterWrongFalsely : Prop := fnExactIsClutterRow.holds Try.pinned (OpenSpec.ofChange fnExactIsClutterWrong)

/-- 'laws.FnExactClutterOf': WHATEVER THE INPUT: true; the input reads as it did. -/
def fnExactClutterOfSpec : ChangeSpec := { name := "fnExactClutterOf", fn := fun _ => fun
  | [d] => { results := [.lit (.bool true)], args := [d] }
  | _ => none }
def fnExactClutterOfRow : OpenClaim := { program := "ytcoaggnilgfjfaa", sum := "a3987c530ad0661ded9300d68f3e616b709bba148dca22eccd5984d1133063ad", func := "loop.example/g01158/laws.FnExactClutterOf", spec := "fnExactClutterOf", unfollowed := true, recurses := true, plainKeys := false, apart := false }
def FnExactClutterOfSaid : Prop := fnExactClutterOfRow.holds Try.pinned (OpenSpec.ofChange fnExactClutterOfSpec)

/-- ITS FALSE NEIGHBOUR: 'it returns false'. Refute it at one input. -/
def fnExactClutterOfWrong : ChangeSpec := { name := "fnExactClutterOf", fn := fun _ => fun
  | [d] => { results := [.lit (.bool false)], args := [d] }
  | _ => none }
def FnExactClutterOfWrongFalsely : Prop := fnExactClutterOfRow.holds Try.pinned (OpenSpec.ofChange fnExactClutterOfWrong)

/-- 'laws.FnExactDualOf': WHATEVER THE INPUT: true; the input reads as it did. -/
def fnExactDualOfSpec : ChangeSpec := { name := "fnExactDualOf", fn := fun _ => fun
  | [d] => { results := [.lit (.bool true)], args := [d] }
  | _ => none }
def fnExactDualOfRow : OpenClaim := { program := "ytcoaggnilgfjfaa", sum := "a3987c530ad0661ded9300d68f3e616b709bba148dca22eccd5984d1133063ad", func := "loop.example/g01158/laws.FnExactDualOf", spec := "fnExactDualOf", unfollowed := true, recurses := true, plainKeys := false, apart := false }
def FnExactDualOfSaid : Prop := fnExactDualOfRow.holds Try.pinned (OpenSpec.ofChange fnExactDualOfSpec)

/-- ITS FALSE NEIGHBOUR: 'it returns false'. Refute it at one input. -/
def fnExactDualOfWrong : ChangeSpec := { name := "fnExactDualOf", fn := fun _ => fun
  | [d] => { results := [.lit (.bool false)], args := [d] }
  | _ => none }
def FnExactDualOfWrongFalsely : Prop := fnExactDualOfRow.holds Try.pinned (OpenSpec.ofChange fnExactDualOfWrong)

/-- 'laws.FnExactMeetsAll': WHATEVER THE INPUT: true; the input reads as it did. -/
def fnExactMeetsAllSpec : ChangeSpec := { name := "fnExactMeetsAll", fn := fun _ => fun
  | [d1, d2] => { results := [.lit (.bool true)], args := [d1, d2] }
  | _ => none }
def fnExactMeetsAllRow : OpenClaim := { program := "ytcoaggnilgfjfaa", sum := "a3987c530ad0661ded9300d68f3e616b709bba148dca22eccd5984d1133063ad", func := "loop.example/g01158/laws.FnExactMeetsAll", spec := "fnExactMeetsAll", unfollowed := true, recurses := true, plainKeys := false, apart := false }
def FnExactMeetsAllSaid : Prop := fnExactMeetsAllRow.holds Try.pinned (OpenSpec.ofChange fnExactMeetsAllSpec)

/-- ITS FALSE NEIGHBOUR: 'it returns false'. Refute it at one input. -/
def fnExactMeetsAllWrong : ChangeSpec := { name := "fnExactMeetsAll", fn := fun _ => fun
  | [d1, d2] => { results := [.lit (.bool false)], args := [d1, d2] }
  | _ => none }
def FnExactMeetsAllWrongFalsely : Prop := fnExactMeetsAllRow.holds Try.pinned (OpenSpec.ofChange fnExactMeetsAllWrong)

/-- 'laws.FnExactHintAt': WHATEVER THE INPUT: true; the input reads as it did. -/
def fnExactHintAtSpec : ChangeSpec := { name := "fnExactHintAt", fn := fun _ => fun
  | [d1, d2] => { results := [.lit (.bool true)], args := [d1, d2] }
  | _ => none }
def fnExactHintAtRow : OpenClaim := { program := "ytcoaggnilgfjfaa", sum := "a3987c530ad0661ded9300d68f3e616b709bba148dca22eccd5984d1133063ad", func := "loop.example/g01158/laws.FnExactHintAt", spec := "fnExactHintAt", unfollowed := true, recurses := true, plainKeys := false, apart := false }
def FnExactHintAtSaid : Prop := fnExactHintAtRow.holds Try.pinned (OpenSpec.ofChange fnExactHintAtSpec)

/-- ITS FALSE NEIGHBOUR: 'it returns false'. Refute it at one input. -/
def fnExactHintAtWrong : ChangeSpec := { name := "fnExactHintAt", fn := fun _ => fun
  | [d1, d2] => { results := [.lit (.bool false)], args := [d1, d2] }
  | _ => none }
def FnExactHintAtWrongFalsely : Prop := fnExactHintAtRow.holds Try.pinned (OpenSpec.ofChange fnExactHintAtWrong)

/-- 'laws.FnExactHintColours': WHATEVER THE INPUT: true; the input reads as it did. -/
def fnExactHintColoursSpec : ChangeSpec := { name := "fnExactHintColours", fn := fun _ => fun
  | [d1, d2] => { results := [.lit (.bool true)], args := [d1, d2] }
  | _ => none }
def fnExactHintColoursRow : OpenClaim := { program := "ytcoaggnilgfjfaa", sum := "a3987c530ad0661ded9300d68f3e616b709bba148dca22eccd5984d1133063ad", func := "loop.example/g01158/laws.FnExactHintColours", spec := "fnExactHintColours", unfollowed := true, recurses := true, plainKeys := false, apart := false }
def FnExactHintColoursSaid : Prop := fnExactHintColoursRow.holds Try.pinned (OpenSpec.ofChange fnExactHintColoursSpec)

/-- ITS FALSE NEIGHBOUR: 'it returns false'. Refute it at one input. -/
def fnExactHintColoursWrong : ChangeSpec := { name := "fnExactHintColours", fn := fun _ => fun
  | [d1, d2] => { results := [.lit (.bool false)], args := [d1, d2] }
  | _ => none }
def FnExactHintColoursWrongFalsely : Prop := fnExactHintColoursRow.holds Try.pinned (OpenSpec.ofChange fnExactHintColoursWrong)

/- THE SECOND FORM. 'bulk': how many values and letters a reading holds, each counted each time it is reached (what is shared counts as often as it is met; a slice's spare places count too). A statement '..UptoSaid' is the law's where the arguments, and the package variables that the reading takes, are together of bulk at most 1048576: NARROWER than '..Said'. Prove '..Said' where nothing that the law and all that it calls make is longer than what came in: it says more and counts as full. Else prove '..UptoSaid'. A law counts once. -/
mutual
def uptoBulk {H : Type} : DataW H → Nat
  | .lit (.string bytes) => bytes.length + 1
  | .lit _ => 1
  | .nil => 1
  | .ptr d => uptoBulk d + 1
  | .slice elems spare => uptoBulkAll elems + uptoBulkAll spare + 1
  | .agg parts => uptoBulkAll parts + 1
  | .iface _ d => uptoBulk d + 1
  | .map entries => uptoBulkEntries entries + 1
  | .held _ => 1
def uptoBulkAll {H : Type} : List (DataW H) → Nat
  | [] => 0
  | d :: r => uptoBulk d + uptoBulkAll r
def uptoBulkEntries {H : Type} : List (Lit × DataW H) → Nat
  | [] => 0
  | x :: r => uptoBulkEntry x + uptoBulkEntries r
def uptoBulkEntry {H : Type} : Lit × DataW H → Nat
  | (.string bytes, d) => bytes.length + uptoBulk d + 1
  | (_, d) => uptoBulk d + 1
 end
def uptoSmall : (H : Type) → List (DataW H) → Bool := fun _ ds => decide (uptoBulkAll ds ≤ 1048576)
def OpenSpec.upto (s : _root_.Go.ChangeSpec) : _root_.Go.OpenSpec := { _root_.Go.OpenSpec.ofChange s with cond := some uptoSmall }

/-- 'laws.FnExactSetWins', WHERE WHAT IT READS IS OF BULK AT MOST 1048576: true; the input reads as it did. -/
def fnExactSetWinsUptoRow : OpenClaim := { program := "ytcoaggnilgfjfaa", sum := "a3987c530ad0661ded9300d68f3e616b709bba148dca22eccd5984d1133063ad", func := "loop.example/g01158/laws.FnExactSetWins", spec := "fnExactSetWins", unfollowed := true, recurses := true, plainKeys := false, apart := false, narrowed := true }
def FnExactSetWinsUptoSaid : Prop := fnExactSetWinsUptoRow.holds Try.pinned (OpenSpec.upto fnExactSetWinsSpec)

/-- 'laws.FnExactLeastWins', WHERE WHAT IT READS IS OF BULK AT MOST 1048576: true; the input reads as it did. -/
def fnExactLeastWinsUptoRow : OpenClaim := { program := "ytcoaggnilgfjfaa", sum := "a3987c530ad0661ded9300d68f3e616b709bba148dca22eccd5984d1133063ad", func := "loop.example/g01158/laws.FnExactLeastWins", spec := "fnExactLeastWins", unfollowed := true, recurses := true, plainKeys := false, apart := false, narrowed := true }
def FnExactLeastWinsUptoSaid : Prop := fnExactLeastWinsUptoRow.holds Try.pinned (OpenSpec.upto fnExactLeastWinsSpec)

/-- 'laws.FnExactLeastBars', WHERE WHAT IT READS IS OF BULK AT MOST 1048576: true; the input reads as it did. -/
def fnExactLeastBarsUptoRow : OpenClaim := { program := "ytcoaggnilgfjfaa", sum := "a3987c530ad0661ded9300d68f3e616b709bba148dca22eccd5984d1133063ad", func := "loop.example/g01158/laws.FnExactLeastBars", spec := "fnExactLeastBars", unfollowed := true, recurses := true, plainKeys := false, apart := false, narrowed := true }
def FnExactLeastBarsUptoSaid : Prop := fnExactLeastBarsUptoRow.holds Try.pinned (OpenSpec.upto fnExactLeastBarsSpec)

/-- 'laws.FnExactSetBars', WHERE WHAT IT READS IS OF BULK AT MOST 1048576: true; the input reads as it did. -/
def fnExactSetBarsUptoRow : OpenClaim := { program := "ytcoaggnilgfjfaa", sum := "a3987c530ad0661ded9300d68f3e616b709bba148dca22eccd5984d1133063ad", func := "loop.example/g01158/laws.FnExactSetBars", spec := "fnExactSetBars", unfollowed := true, recurses := true, plainKeys := false, apart := false, narrowed := true }
def FnExactSetBarsUptoSaid : Prop := fnExactSetBarsUptoRow.holds Try.pinned (OpenSpec.upto fnExactSetBarsSpec)

/-- 'laws.FnExactCountWinning', WHERE WHAT IT READS IS OF BULK AT MOST 1048576: true; the input reads as it did. -/
def fnExactCountWinningUptoRow : OpenClaim := { program := "ytcoaggnilgfjfaa", sum := "a3987c530ad0661ded9300d68f3e616b709bba148dca22eccd5984d1133063ad", func := "loop.example/g01158/laws.FnExactCountWinning", spec := "fnExactCountWinning", unfollowed := true, recurses := true, plainKeys := false, apart := false, narrowed := true }
def FnExactCountWinningUptoSaid : Prop := fnExactCountWinningUptoRow.holds Try.pinned (OpenSpec.upto fnExactCountWinningSpec)

/-- 'laws.FnExactPowerOfColours', WHERE WHAT IT READS IS OF BULK AT MOST 1048576: true; the input reads as it did. -/
def fnExactPowerOfColoursUptoRow : OpenClaim := { program := "ytcoaggnilgfjfaa", sum := "a3987c530ad0661ded9300d68f3e616b709bba148dca22eccd5984d1133063ad", func := "loop.example/g01158/laws.FnExactPowerOfColours", spec := "fnExactPowerOfColours", unfollowed := true, recurses := true, plainKeys := false, apart := false, narrowed := true }
def FnExactPowerOfColoursUptoSaid : Prop := fnExactPowerOfColoursUptoRow.holds Try.pinned (OpenSpec.upto fnExactPowerOfColoursSpec)

/-- 'laws.FnExactNeededColours', WHERE WHAT IT READS IS OF BULK AT MOST 1048576: true; the input reads as it did. -/
def fnExactNeededColoursUptoRow : OpenClaim := { program := "ytcoaggnilgfjfaa", sum := "a3987c530ad0661ded9300d68f3e616b709bba148dca22eccd5984d1133063ad", func := "loop.example/g01158/laws.FnExactNeededColours", spec := "fnExactNeededColours", unfollowed := true, recurses := true, plainKeys := false, apart := false, narrowed := true }
def FnExactNeededColoursUptoSaid : Prop := fnExactNeededColoursUptoRow.holds Try.pinned (OpenSpec.upto fnExactNeededColoursSpec)

/-- 'laws.FnExactIdleColours', WHERE WHAT IT READS IS OF BULK AT MOST 1048576: true; the input reads as it did. -/
def fnExactIdleColoursUptoRow : OpenClaim := { program := "ytcoaggnilgfjfaa", sum := "a3987c530ad0661ded9300d68f3e616b709bba148dca22eccd5984d1133063ad", func := "loop.example/g01158/laws.FnExactIdleColours", spec := "fnExactIdleColours", unfollowed := true, recurses := true, plainKeys := false, apart := false, narrowed := true }
def FnExactIdleColoursUptoSaid : Prop := fnExactIdleColoursUptoRow.holds Try.pinned (OpenSpec.upto fnExactIdleColoursSpec)

/-- 'laws.FnExactIsClutter', WHERE WHAT IT READS IS OF BULK AT MOST 1048576: true; the input reads as it did. -/
def fnExactIsClutterUptoRow : OpenClaim := { program := "ytcoaggnilgfjfaa", sum := "a3987c530ad0661ded9300d68f3e616b709bba148dca22eccd5984d1133063ad", func := "loop.example/g01158/laws.FnExactIsClutter", spec := "fnExactIsClutter", unfollowed := true, recurses := true, plainKeys := false, apart := false, narrowed := true }
def FnExactIsClutterUptoSaid : Prop := fnExactIsClutterUptoRow.holds Try.pinned (OpenSpec.upto fnExactIsClutterSpec)

/-- 'laws.FnExactClutterOf', WHERE WHAT IT READS IS OF BULK AT MOST 1048576: true; the input reads as it did. -/
def fnExactClutterOfUptoRow : OpenClaim := { program := "ytcoaggnilgfjfaa", sum := "a3987c530ad0661ded9300d68f3e616b709bba148dca22eccd5984d1133063ad", func := "loop.example/g01158/laws.FnExactClutterOf", spec := "fnExactClutterOf", unfollowed := true, recurses := true, plainKeys := false, apart := false, narrowed := true }
def FnExactClutterOfUptoSaid : Prop := fnExactClutterOfUptoRow.holds Try.pinned (OpenSpec.upto fnExactClutterOfSpec)

/-- 'laws.FnExactDualOf', WHERE WHAT IT READS IS OF BULK AT MOST 1048576: true; the input reads as it did. -/
def fnExactDualOfUptoRow : OpenClaim := { program := "ytcoaggnilgfjfaa", sum := "a3987c530ad0661ded9300d68f3e616b709bba148dca22eccd5984d1133063ad", func := "loop.example/g01158/laws.FnExactDualOf", spec := "fnExactDualOf", unfollowed := true, recurses := true, plainKeys := false, apart := false, narrowed := true }
def FnExactDualOfUptoSaid : Prop := fnExactDualOfUptoRow.holds Try.pinned (OpenSpec.upto fnExactDualOfSpec)

/-- 'laws.FnExactMeetsAll', WHERE WHAT IT READS IS OF BULK AT MOST 1048576: true; the input reads as it did. -/
def fnExactMeetsAllUptoRow : OpenClaim := { program := "ytcoaggnilgfjfaa", sum := "a3987c530ad0661ded9300d68f3e616b709bba148dca22eccd5984d1133063ad", func := "loop.example/g01158/laws.FnExactMeetsAll", spec := "fnExactMeetsAll", unfollowed := true, recurses := true, plainKeys := false, apart := false, narrowed := true }
def FnExactMeetsAllUptoSaid : Prop := fnExactMeetsAllUptoRow.holds Try.pinned (OpenSpec.upto fnExactMeetsAllSpec)

/-- 'laws.FnExactHintAt', WHERE WHAT IT READS IS OF BULK AT MOST 1048576: true; the input reads as it did. -/
def fnExactHintAtUptoRow : OpenClaim := { program := "ytcoaggnilgfjfaa", sum := "a3987c530ad0661ded9300d68f3e616b709bba148dca22eccd5984d1133063ad", func := "loop.example/g01158/laws.FnExactHintAt", spec := "fnExactHintAt", unfollowed := true, recurses := true, plainKeys := false, apart := false, narrowed := true }
def FnExactHintAtUptoSaid : Prop := fnExactHintAtUptoRow.holds Try.pinned (OpenSpec.upto fnExactHintAtSpec)

/-- 'laws.FnExactHintColours', WHERE WHAT IT READS IS OF BULK AT MOST 1048576: true; the input reads as it did. -/
def fnExactHintColoursUptoRow : OpenClaim := { program := "ytcoaggnilgfjfaa", sum := "a3987c530ad0661ded9300d68f3e616b709bba148dca22eccd5984d1133063ad", func := "loop.example/g01158/laws.FnExactHintColours", spec := "fnExactHintColours", unfollowed := true, recurses := true, plainKeys := false, apart := false, narrowed := true }
def FnExactHintColoursUptoSaid : Prop := fnExactHintColoursUptoRow.holds Try.pinned (OpenSpec.upto fnExactHintColoursSpec)

end Rows
end Go.Proofs.Ytcoaggnilgfjfaa
