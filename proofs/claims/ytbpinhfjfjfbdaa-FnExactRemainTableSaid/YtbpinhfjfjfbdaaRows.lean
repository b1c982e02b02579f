/-
  No cell of these rows narrows 'for every input' (looked for: loops, veiled, ifaces, maps, wideKeys, modest, calm, conditions, laid).
  DERIVED. THE GIVEN ROWS OF THIS SEAT. 12 by the template 'for every input the law returns true; each argument reads behind the call as it read before'; 0 by the template 'total and deterministic' (their statements: YtbpinhfjfjfbdaaTotals.lean).
  GIVEN WITH THE SEED: the statements are not yours to turn. If you find one false, say at which input.
  Laid BY PROGRAM, IN A SANDBOX (cutbox-rows.mjs): the forced cells as the released guide's own fill.sh prints them over the translation 0c4c93899b701904… (all of the seat's roots in one cut). By AI agents, Wed Nov 11 2026. No macro, syntax, notation, axiom, sorry.
-/
import Derived.Test.YtbpinhfjfjfbdaaChecked
import GoSem.Claim
import GoSem.ClaimJoined
import GoSem.ClaimMapViews
import Derived.JoinedTies
import Derived.KernelRfl
namespace Go.Proofs.Ytbpinhfjfjfbdaa
/- THE CELL 'sum', in the pinned program and in every row, IS THE sha256 OF THE DUMP (.gsa) THAT YtbpinhfjfjfbdaaProg.lean LOADS. Nothing in Lean hashes anything: it is a label: what it is worth is what the hold of that sum in a sandbox is worth. -/
noncomputable def Try.pinned : Pinned := { name := "ytbpinhfjfjfbdaa", sum := "0c4c93899b7019045abe8aed5703a671850b75d427500d9deaf6e6a48ce8bd84", checked := Try.checked }
namespace Rows
def none {H : Type} : Left H := { results := [], args := [] }

/-- 'laws.FnExactFewestSteps': WHATEVER THE INPUT: true; the input reads as it did. -/
def fnExactFewestStepsSpec : ChangeSpec := { name := "fnExactFewestSteps", fn := fun _ => fun
  | [d] => { results := [.lit (.bool true)], args := [d] }
  | _ => none }
def fnExactFewestStepsRow : OpenClaim := { program := "ytbpinhfjfjfbdaa", sum := "0c4c93899b7019045abe8aed5703a671850b75d427500d9deaf6e6a48ce8bd84", func := "loop.example/g01158/laws.FnExactFewestSteps", spec := "fnExactFewestSteps", unfollowed := true, recurses := true, plainKeys := false, apart := false }
def FnExactFewestStepsSaid : Prop := fnExactFewestStepsRow.holds Try.pinned (OpenSpec.ofChange fnExactFewestStepsSpec)

/-- ITS FALSE NEIGHBOUR: 'it returns false'. Refute it at one input. -/
def fnExactFewestStepsWrong : ChangeSpec := { name := "fnExactFewestSteps", fn := fun _ => fun
  | [d] => { results := [.lit (.bool false)], args := [d] }
  | _ => none }
def FnExactFewestStepsWrongFalsely : Prop := fnExactFewestStepsRow.holds Try.pinned (OpenSpec.ofChange fnExactFewestStepsWrong)

/-- 'laws.FnExactStepsTable': WHATEVER THE INPUT: true; the input reads as it did. -/
def fnExactStepsTableSpec : ChangeSpec := { name := "fnExactStepsTable", fn := fun _ => fun
  | [d] => { results := [.lit (.bool true)], args := [d] }
  | _ => none }
def fnExactStepsTableRow : OpenClaim := { program := "ytbpinhfjfjfbdaa", sum := "0c4c93899b7019045abe8aed5703a671850b75d427500d9deaf6e6a48ce8bd84", func := "loop.example/g01158/laws.FnExactStepsTable", spec := "fnExactStepsTable", unfollowed := true, recurses := true, plainKeys := false, apart := false }
def FnExactStepsTableSaid : Prop := fnExactStepsTableRow.holds Try.pinned (OpenSpec.ofChange fnExactStepsTableSpec)

/-- ITS FALSE NEIGHBOUR: 'it returns false'. Refute it at one input. -/
def fnExactStepsTableWrong : ChangeSpec := { name := "fnExactStepsTable", fn := fun _ => fun
  | [d] => { results := [.lit (.bool false)], args := [d] }
  | _ => none }
def FnExactStepsTableWrongFalsely : Prop := fnExactStepsTableRow.holds Try.pinned (OpenSpec.ofChange fnExactStepsTableWrong)

/-- 'laws.FnExactFirstWay': WHATEVER THE INPUT: true; the input reads as it did. -/
def fnExactFirstWaySpec : ChangeSpec := { name := "fnExactFirstWay", fn := fun _ => fun
  | [d] => { results := [.lit (.bool true)], args := [d] }
  | _ => none }
def fnExactFirstWayRow : OpenClaim := { program := "ytbpinhfjfjfbdaa", sum := "0c4c93899b7019045abe8aed5703a671850b75d427500d9deaf6e6a48ce8bd84", func := "loop.example/g01158/laws.FnExactFirstWay", spec := "fnExactFirstWay", unfollowed := true, recurses := true, plainKeys := false, apart := false }
def FnExactFirstWaySaid : Prop := fnExactFirstWayRow.holds Try.pinned (OpenSpec.ofChange fnExactFirstWaySpec)

/-- ITS FALSE NEIGHBOUR: 'it returns false'. Refute it at one input. -/
def fnExactFirstWayWrong : ChangeSpec := { name := "fnExactFirstWay", fn := fun _ => fun
  | [d] => { results := [.lit (.bool false)], args := [d] }
  | _ => none }
def FnExactFirstWayWrongFalsely : Prop := fnExactFirstWayRow.holds Try.pinned (OpenSpec.ofChange fnExactFirstWayWrong)

/-- 'laws.FnExactCountWays': WHATEVER THE INPUT: true; the input reads as it did. -/
def fnExactCountWaysSpec : ChangeSpec := { name := "fnExactCountWays", fn := fun _ => fun
  | [d] => { results := [.lit (.bool true)], args := [d] }
  | _ => none }
def fnExactCountWaysRow : OpenClaim := { program := "ytbpinhfjfjfbdaa", sum := "0c4c93899b7019045abe8aed5703a671850b75d427500d9deaf6e6a48ce8bd84", func := "loop.example/g01158/laws.FnExactCountWays", spec := "fnExactCountWays", unfollowed := true, recurses := true, plainKeys := false, apart := false }
def FnExactCountWaysSaid : Prop := fnExactCountWaysRow.holds Try.pinned (OpenSpec.ofChange fnExactCountWaysSpec)

/-- ITS FALSE NEIGHBOUR: 'it returns false'. Refute it at one input. -/
def fnExactCountWaysWrong : ChangeSpec := { name := "fnExactCountWays", fn := fun _ => fun
  | [d] => { results := [.lit (.bool false)], args := [d] }
  | _ => none }
def FnExactCountWaysWrongFalsely : Prop := fnExactCountWaysRow.holds Try.pinned (OpenSpec.ofChange fnExactCountWaysWrong)

/-- 'laws.FnExactStatesOf': WHATEVER THE INPUT: true; the input reads as it did. -/
def fnExactStatesOfSpec : ChangeSpec := { name := "fnExactStatesOf", fn := fun _ => fun
  | [d] => { results := [.lit (.bool true)], args := [d] }
  | _ => none }
def fnExactStatesOfRow : OpenClaim := { program := "ytbpinhfjfjfbdaa", sum := "0c4c93899b7019045abe8aed5703a671850b75d427500d9deaf6e6a48ce8bd84", func := "loop.example/g01158/laws.FnExactStatesOf", spec := "fnExactStatesOf", unfollowed := true, recurses := true, plainKeys := false, apart := false }
def FnExactStatesOfSaid : Prop := fnExactStatesOfRow.holds Try.pinned (OpenSpec.ofChange fnExactStatesOfSpec)

/-- ITS FALSE NEIGHBOUR: 'it returns false'. Refute it at one input. -/
def fnExactStatesOfWrong : ChangeSpec := { name := "fnExactStatesOf", fn := fun _ => fun
  | [d] => { results := [.lit (.bool false)], args := [d] }
  | _ => none }
def FnExactStatesOfWrongFalsely : Prop := fnExactStatesOfRow.holds Try.pinned (OpenSpec.ofChange fnExactStatesOfWrong)

/-- 'laws.FnExactRemainTable': WHATEVER THE INPUT: true; the input reads as it did. -/
def fnExactRemainTableSpec : ChangeSpec := { name := "fnExactRemainTable", fn := fun _ => fun
  | [d] => { results := [.lit (.bool true)], args := [d] }
  | _ => none }
def fnExactRemainTableRow : OpenClaim := { program := "ytbpinhfjfjfbdaa", sum := "0c4c93899b7019045abe8aed5703a671850b75d427500d9deaf6e6a48ce8bd84", func := "loop.example/g01158/laws.FnExactRemainTable", spec := "fnExactRemainTable", unfollowed := true, recurses := true, plainKeys := false, apart := false }
def FnExactRemainTableSaid : Prop := fnExactRemainTableRow.holds Try.pinned (OpenSpec.ofChange fnExactRemainTableSpec)

/-- ITS FALSE NEIGHBOUR: 'it returns false'. Refute it at one input. -/
def fnExactRemainTableWrong : ChangeSpec := { name := "fnExactRemainTable", fn := fun _ => fun
  | [d] => { results := [.lit (.bool false)], args := [d] }
  | _ => none }
def FnExactRemainTableWrongFalsely : Prop := fnExactRemainTableRow.holds Try.pinned (OpenSpec.ofChange fnExactRemainTableWrong)

/-- 'laws.FnExactFewestFrom': WHATEVER THE INPUT: true; the input reads as it did. -/
def fnExactFewestFromSpec : ChangeSpec := { name := "fnExactFewestFrom", fn := fun _ => fun
  | [d1, d2, d3] => { results := [.lit (.bool true)], args := [d1, d2, d3] }
  | _ => none }
def fnExactFewestFromRow : OpenClaim := { program := "ytbpinhfjfjfbdaa", sum := "0c4c93899b7019045abe8aed5703a671850b75d427500d9deaf6e6a48ce8bd84", func := "loop.example/g01158/laws.FnExactFewestFrom", spec := "fnExactFewestFrom", unfollowed := true, recurses := true, plainKeys := false, apart := false }
def FnExactFewestFromSaid : Prop := fnExactFewestFromRow.holds Try.pinned (OpenSpec.ofChange fnExactFewestFromSpec)

/-- ITS FALSE NEIGHBOUR: 'it returns false'. Refute it at one input. -/
def fnExactFewestFromWrong : ChangeSpec := { name := "fnExactFewestFrom", fn := fun _ => fun
  | [d1, d2, d3] => { results := [.lit (.bool false)], args := [d1, d2, d3] }
  | _ => none }
def FnExactFewestFromWrongFalsely : Prop := fnExactFewestFromRow.holds Try.pinned (OpenSpec.ofChange fnExactFewestFromWrong)

/-- 'laws.FnExactFewestWith': WHATEVER THE INPUT: true; the input reads as it did. -/
def fnExactFewestWithSpec : ChangeSpec := { name := "fnExactFewestWith", fn := fun _ => fun
  | [d1, d2] => { results := [.lit (.bool true)], args := [d1, d2] }
  | _ => none }
def fnExactFewestWithRow : OpenClaim := { program := "ytbpinhfjfjfbdaa", sum := "0c4c93899b7019045abe8aed5703a671850b75d427500d9deaf6e6a48ce8bd84", func := "loop.example/g01158/laws.FnExactFewestWith", spec := "fnExactFewestWith", unfollowed := true, recurses := true, plainKeys := false, apart := false }
def FnExactFewestWithSaid : Prop := fnExactFewestWithRow.holds Try.pinned (OpenSpec.ofChange fnExactFewestWithSpec)

/-- ITS FALSE NEIGHBOUR: 'it returns false'. Refute it at one input. -/
def fnExactFewestWithWrong : ChangeSpec := { name := "fnExactFewestWith", fn := fun _ => fun
  | [d1, d2] => { results := [.lit (.bool false)], args := [d1, d2] }
  | _ => none }
def FnExactFewestWithWrongFalsely : Prop := fnExactFewestWithRow.holds Try.pinned (OpenSpec.ofChange fnExactFewestWithWrong)

/-- 'laws.FnExactFewestKeys': WHATEVER THE INPUT: true; the input reads as it did. -/
def fnExactFewestKeysSpec : ChangeSpec := { name := "fnExactFewestKeys", fn := fun _ => fun
  | [d] => { results := [.lit (.bool true)], args := [d] }
  | _ => none }
def fnExactFewestKeysRow : OpenClaim := { program := "ytbpinhfjfjfbdaa", sum := "0c4c93899b7019045abe8aed5703a671850b75d427500d9deaf6e6a48ce8bd84", func := "loop.example/g01158/laws.FnExactFewestKeys", spec := "fnExactFewestKeys", unfollowed := true, recurses := true, plainKeys := false, apart := false }
def FnExactFewestKeysSaid : Prop := fnExactFewestKeysRow.holds Try.pinned (OpenSpec.ofChange fnExactFewestKeysSpec)

/-- ITS FALSE NEIGHBOUR: 'it returns false'. Refute it at one input. -/
def fnExactFewestKeysWrong : ChangeSpec := { name := "fnExactFewestKeys", fn := fun _ => fun
  | [d] => { results := [.lit (.bool false)], args := [d] }
  | _ => none }
def FnExactFewestKeysWrongFalsely : Prop := fnExactFewestKeysRow.holds Try.pinned (OpenSpec.ofChange fnExactFewestKeysWrong)

/-- 'laws.FnExactStepsAndKeys': WHATEVER THE INPUT: true; the input reads as it did. -/
def fnExactStepsAndKeysSpec : ChangeSpec := { name := "fnExactStepsAndKeys", fn := fun _ => fun
  | [d] => { results := [.lit (.bool true)], args := [d] }
  | _ => none }
def fnExactStepsAndKeysRow : OpenClaim := { program := "ytbpinhfjfjfbdaa", sum := "0c4c93899b7019045abe8aed5703a671850b75d427500d9deaf6e6a48ce8bd84", func := "loop.example/g01158/laws.FnExactStepsAndKeys", spec := "fnExactStepsAndKeys", unfollowed := true, recurses := true, plainKeys := false, apart := false }
def FnExactStepsAndKeysSaid : Prop := fnExactStepsAndKeysRow.holds Try.pinned (OpenSpec.ofChange fnExactStepsAndKeysSpec)

/-- ITS FALSE NEIGHBOUR: 'it returns false'. Refute it at one input. -/
def fnExactStepsAndKeysWrong : ChangeSpec := { name := "fnExactStepsAndKeys", fn := fun _ => fun
  | [d] => { results := [.lit (.bool false)], args := [d] }
  | _ => none }
def FnExactStepsAndKeysWrongFalsely : Prop := fnExactStepsAndKeysRow.holds Try.pinned (OpenSpec.ofChange fnExactStepsAndKeysWrong)

/-- 'laws.FnExactDetourOf': WHATEVER THE INPUT: true; the input reads as it did. -/
def fnExactDetourOfSpec : ChangeSpec := { name := "fnExactDetourOf", fn := fun _ => fun
  | [d] => { results := [.lit (.bool true)], args := [d] }
  | _ => none }
def fnExactDetourOfRow : OpenClaim := { program := "ytbpinhfjfjfbdaa", sum := "0c4c93899b7019045abe8aed5703a671850b75d427500d9deaf6e6a48ce8bd84", func := "loop.example/g01158/laws.FnExactDetourOf", spec := "fnExactDetourOf", unfollowed := true, recurses := true, plainKeys := false, apart := false }
def FnExactDetourOfSaid : Prop := fnExactDetourOfRow.holds Try.pinned (OpenSpec.ofChange fnExactDetourOfSpec)

/-- ITS FALSE NEIGHBOUR: 'it returns false'. Refute it at one input. -/
def fnExactDetourOfWrong : ChangeSpec := { name := "fnExactDetourOf", fn := fun _ => fun
  | [d] => { results := [.lit (.bool false)], args := [d] }
  | _ => none }
def FnExactDetourOfWrongFalsely : Prop := fnExactDetourOfRow.holds Try.pinned (OpenSpec.ofChange fnExactDetourOfWrong)

/-- 'laws.FnExactWayBack': WHATEVER THE INPUT: true; the input reads as it did. -/
def fnExactWayBackSpec : ChangeSpec := { name := "fnExactWayBack", fn := fun _ => fun
  | [d1, d2] => { results := [.lit (.bool true)], args := [d1, d2] }
  | _ => none }
def fnExactWayBackRow : OpenClaim := { program := "ytbpinhfjfjfbdaa", sum := "0c4c93899b7019045abe8aed5703a671850b75d427500d9deaf6e6a48ce8bd84", func := "loop.example/g01158/laws.FnExactWayBack", spec := "fnExactWayBack", unfollowed := true, recurses := true, plainKeys := false, apart := false }
def FnExactWayBackSaid : Prop := fnExactWayBackRow.holds Try.pinned (OpenSpec.ofChange fnExactWayBackSpec)

/-- ITS FALSE NEIGHBOUR: 'it returns false'. Refute it at one input. -/
def fnExactWayBackWrong : ChangeSpec := { name := "fnExactWayBack", fn := fun _ => fun
  | [d1, d2] => { results := [.lit (.bool false)], args := [d1, d2] }
  | _ => none }
def FnExactWayBackWrongFalsely : Prop := fnExactWayBackRow.holds Try.pinned (OpenSpec.ofChange fnExactWayBackWrong)

/- THE SECOND FORM. 'bulk': how many values and letters a reading holds, each counted each time it is reached (what is shared counts as often as it is met; a slice's spare places count too). A statement '..UptoSaid' is the law's where the arguments, and the package variables that the reading takes, are together of bulk at most 1048576: NARROWER than '..Said'. Prove '..Said' where nothing that the law and all that it calls make is longer than what came in: it says more and counts as full. Else prove '..UptoSaid'. A law counts once. -/
mutual
def uptoBulk {H : Type} : DataW H → Nat
  | .lit (.string bytes) => bytes.length + 1
  | .lit _ => 1
  | .nil => 1
  | .ptr d => uptoBulk d + 1
  | .slice elems spare => uptoBulkAll elems + uptoBulkAll spare + 1
  | .agg parts => uptoBulkAll parts + 1
  | .iface _ d => uptoBulk d + 1
  | .map entries => uptoBulkEntries entries + 1
  | .held _ => 1
def uptoBulkAll {H : Type} : List (DataW H) → Nat
  | [] => 0
  | d :: r => uptoBulk d + uptoBulkAll r
def uptoBulkEntries {H : Type} : List (Lit × DataW H) → Nat
  | [] => 0
  | x :: r => uptoBulkEntry x + uptoBulkEntries r
def uptoBulkEntry {H : Type} : Lit × DataW H → Nat
  | (.string bytes, d) => bytes.length + uptoBulk d + 1
  | (_, d) => uptoBulk d + 1
 end
def uptoSmall : (H : Type) → List (DataW H) → Bool := fun _ ds => decide (uptoBulkAll ds ≤ 1048576)
def OpenSpec.upto (s : _root_.Go.ChangeSpec) : _root_.Go.OpenSpec := { _root_.Go.OpenSpec.ofChange s with cond := some uptoSmall }

/-- 'laws.FnExactFewestSteps', WHERE WHAT IT READS IS OF BULK AT MOST 1048576: true; the input reads as it did. -/
def fnExactFewestStepsUptoRow : OpenClaim := { program := "ytbpinhfjfjfbdaa", sum := "0c4c93899b7019045abe8aed5703a671850b75d427500d9deaf6e6a48ce8bd84", func := "loop.example/g01158/laws.FnExactFewestSteps", spec := "fnExactFewestSteps", unfollowed := true, recurses := true, plainKeys := false, apart := false, narrowed := true }
def FnExactFewestStepsUptoSaid : Prop := fnExactFewestStepsUptoRow.holds Try.pinned (OpenSpec.upto fnExactFewestStepsSpec)

/-- 'laws.FnExactStepsTable', WHERE WHAT IT READS IS OF BULK AT MOST 1048576: true; the input reads as it did. -/
def fnExactStepsTableUptoRow : OpenClaim := { program := "ytbpinhfjfjfbdaa", sum := "0c4c93899b7019045abe8aed5703a671850b75d427500d9deaf6e6a48ce8bd84", func := "loop.example/g01158/laws.FnExactStepsTable", spec := "fnExactStepsTable", unfollowed := true, recurses := true, plainKeys := false, apart := false, narrowed := true }
def FnExactStepsTableUptoSaid : Prop := fnExactStepsTableUptoRow.holds Try.pinned (OpenSpec.upto fnExactStepsTableSpec)

/-- 'laws.FnExactFirstWay', WHERE WHAT IT READS IS OF BULK AT MOST 1048576: true; the input reads as it did. -/
def fnExactFirstWayUptoRow : OpenClaim := { program := "ytbpinhfjfjfbdaa", sum := "0c4c93899b7019045abe8aed5703a671850b75d427500d9deaf6e6a48ce8bd84", func := "loop.example/g01158/laws.FnExactFirstWay", spec := "fnExactFirstWay", unfollowed := true, recurses := true, plainKeys := false, apart := false, narrowed := true }
def FnExactFirstWayUptoSaid : Prop := fnExactFirstWayUptoRow.holds Try.pinned (OpenSpec.upto fnExactFirstWaySpec)

/-- 'laws.FnExactCountWays', WHERE WHAT IT READS IS OF BULK AT MOST 1048576: true; the input reads as it did. -/
def fnExactCountWaysUptoRow : OpenClaim := { program := "ytbpinhfjfjfbdaa", sum := "0c4c93899b7019045abe8aed5703a671850b75d427500d9deaf6e6a48ce8bd84", func := "loop.example/g01158/laws.FnExactCountWays", spec := "fnExactCountWays", unfollowed := true, recurses := true, plainKeys := false, apart := false, narrowed := true }
def FnExactCountWaysUptoSaid : Prop := fnExactCountWaysUptoRow.holds Try.pinned (OpenSpec.upto fnExactCountWaysSpec)

/-- 'laws.FnExactStatesOf', WHERE WHAT IT READS IS OF BULK AT MOST 1048576: true; the input reads as it did. -/
def fnExactStatesOfUptoRow : OpenClaim := { program := "ytbpinhfjfjfbdaa", sum := "0c4c93899b7019045abe8aed5703a671850b75d427500d9deaf6e6a48ce8bd84", func := "loop.example/g01158/laws.FnExactStatesOf", spec := "fnExactStatesOf", unfollowed := true, recurses := true, plainKeys := false, apart := false, narrowed := true }
def FnExactStatesOfUptoSaid : Prop := fnExactStatesOfUptoRow.holds Try.pinned (OpenSpec.upto fnExactStatesOfSpec)

/-- 'laws.FnExactRemainTable', WHERE WHAT IT READS IS OF BULK AT MOST 1048576: true; the input reads as it did. -/
def fnExactRemainTableUptoRow : OpenClaim := { program := "ytbpinhfjfjfbdaa", sum := "0c4c93899b7019045abe8aed5703a671850b75d427500d9deaf6e6a48ce8bd84", func := "loop.example/g01158/laws.FnExactRemainTable", spec := "fnExactRemainTable", unfollowed := true, recurses := true, plainKeys := false, apart := false, narrowed := true }
def FnExactRemainTableUptoSaid : Prop := fnExactRemainTableUptoRow.holds Try.pinned (OpenSpec.upto fnExactRemainTableSpec)

/-- 'laws.FnExactFewestFrom', WHERE WHAT IT READS IS OF BULK AT MOST 1048576: true; the input reads as it did. -/
def fnExactFewestFromUptoRow : OpenClaim := { program := "ytbpinhfjfjfbdaa", sum := "0c4c93899b7019045abe8aed5703a671850b75d427500d9deaf6e6a48ce8bd84", func := "loop.example/g01158/laws.FnExactFewestFrom", spec := "fnExactFewestFrom", unfollowed := true, recurses := true, plainKeys := false, apart := false, narrowed := true }
def FnExactFewestFromUptoSaid : Prop := fnExactFewestFromUptoRow.holds Try.pinned (OpenSpec.upto fnExactFewestFromSpec)

/-- 'laws.FnExactFewestWith', WHERE WHAT IT READS IS OF BULK AT MOST 1048576: true; the input reads as it did. -/
def fnExactFewestWithUptoRow : OpenClaim := { program := "ytbpinhfjfjfbdaa", sum := "0c4c93899b7019045abe8aed5703a671850b75d427500d9deaf6e6a48ce8bd84", func := "loop.example/g01158/laws.FnExactFewestWith", spec := "fnExactFewestWith", unfollowed := true, recurses := true, plainKeys := false, apart := false, narrowed := true }
def FnExactFewestWithUptoSaid : Prop := fnExactFewestWithUptoRow.holds Try.pinned (OpenSpec.upto fnExactFewestWithSpec)

/-- 'laws.FnExactFewestKeys', WHERE WHAT IT READS IS OF BULK AT MOST 1048576: true; the input reads as it did. -/
def fnExactFewestKeysUptoRow : OpenClaim := { program := "ytbpinhfjfjfbdaa", sum := "0c4c93899b7019045abe8aed5703a671850b75d427500d9deaf6e6a48ce8bd84", func := "loop.example/g01158/laws.FnExactFewestKeys", spec := "fnExactFewestKeys", unfollowed := true, recurses := true, plainKeys := false, apart := false, narrowed := true }
def FnExactFewestKeysUptoSaid : Prop := fnExactFewestKeysUptoRow.holds Try.pinned (OpenSpec.upto fnExactFewestKeysSpec)

/-- 'laws.FnExactStepsAndKeys', WHERE WHAT IT READS IS OF BULK AT MOST 1048576: true; the input reads as it did. -/
def fnExactStepsAndKeysUptoRow : OpenClaim := { program := "ytbpinhfjfjfbdaa", sum := "0c4c93899b7019045abe8aed5703a671850b75d427500d9deaf6e6a48ce8bd84", func := "loop.example/g01158/laws.FnExactStepsAndKeys", spec := "fnExactStepsAndKeys", unfollowed := true, recurses := true, plainKeys := false, apart := false, narrowed := true }
def FnExactStepsAndKeysUptoSaid : Prop := fnExactStepsAndKeysUptoRow.holds Try.pinned (OpenSpec.upto fnExactStepsAndKeysSpec)

/-- 'laws.FnExactDetourOf', WHERE WHAT IT READS IS OF BULK AT MOST 1048576: true; the input reads as it did. -/
def fnExactDetourOfUptoRow : OpenClaim := { program := "ytbpinhfjfjfbdaa", sum := "0c4c93899b7019045abe8aed5703a671850b75d427500d9deaf6e6a48ce8bd84", func := "loop.example/g01158/laws.FnExactDetourOf", spec := "fnExactDetourOf", unfollowed := true, recurses := true, plainKeys := false, apart := false, narrowed := true }
def FnExactDetourOfUptoSaid : Prop := fnExactDetourOfUptoRow.holds Try.pinned (OpenSpec.upto fnExactDetourOfSpec)

/-- 'laws.FnExactWayBack', WHERE WHAT IT READS IS OF BULK AT MOST 1048576: true; the input reads as it did. -/
def fnExactWayBackUptoRow : OpenClaim := { program := "ytbpinhfjfjfbdaa", sum := "0c4c93899b7019045abe8aed5703a671850b75d427500d9deaf6e6a48ce8bd84", func := "loop.example/g01158/laws.FnExactWayBack", spec := "fnExactWayBack", unfollowed := true, recurses := true, plainKeys := false, apart := false, narrowed := true }
def FnExactWayBackUptoSaid : Prop := fnExactWayBackUptoRow.holds Try.pinned (OpenSpec.upto fnExactWayBackSpec)

end Rows
end Go.Proofs.Ytbpinhfjfjfbdaa
