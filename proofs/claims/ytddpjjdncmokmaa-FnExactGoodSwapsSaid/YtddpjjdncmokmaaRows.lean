/-
  No cell of these rows narrows 'for every input' (looked for: loops, veiled, ifaces, maps, wideKeys, modest, calm, conditions, laid).
  DERIVED. THE GIVEN ROWS OF THIS SEAT. 12 by the template 'for every input the law returns true; each argument reads behind the call as it read before'; 0 by the template 'total and deterministic' (their statements: YtddpjjdncmokmaaTotals.lean).
  GIVEN WITH THE SEED: the statements are not yours to turn. If you find one false, say at which input.
  Laid BY PROGRAM, IN A SANDBOX (cutbox-rows.mjs): the forced cells as the released guide's own fill.sh prints them over the translation 489c13a7cf0ac2ca… (all of the seat's roots in one cut). By AI agents, Wed Nov 11 2026. No macro, syntax, notation, axiom, sorry.
-/
import Derived.Test.YtddpjjdncmokmaaChecked
import GoSem.Claim
import GoSem.ClaimJoined
import GoSem.ClaimMapViews
import Derived.JoinedTies
import Derived.KernelRfl
namespace Go.Proofs.Ytddpjjdncmokmaa
/- THE CELL 'sum', in the pinned program and in every row, IS THE sha256 OF THE DUMP (.gsa) THAT YtddpjjdncmokmaaProg.lean LOADS. Nothing in Lean hashes anything: it is a label: what it is worth is what the hold of that sum in a sandbox is worth. -/
noncomputable def Try.pinned : Pinned := { name := "ytddpjjdncmokmaa", sum := "489c13a7cf0ac2cad96d98be8a91f577536c3d2b251bb7bc0bd12e9bd91b9ab6", checked := Try.checked }
namespace Rows
def none {H : Type} : Left H := { results := [], args := [] }

/-- 'laws.FnExactLayKeys': WHATEVER THE INPUT: true; the input reads as it did. -/
def fnExactLayKeysSpec : ChangeSpec := { name := "fnExactLayKeys", fn := fun _ => fun
  | [d1, d2, d3] => { results := [.lit (.bool true)], args := [d1, d2, d3] }
  | _ => none }
def fnExactLayKeysRow : OpenClaim := { program := "ytddpjjdncmokmaa", sum := "489c13a7cf0ac2cad96d98be8a91f577536c3d2b251bb7bc0bd12e9bd91b9ab6", func := "loop.example/g01158/laws.FnExactLayKeys", spec := "fnExactLayKeys", unfollowed := true, recurses := true, apart := false }
def FnExactLayKeysSaid : Prop := fnExactLayKeysRow.holds Try.pinned (OpenSpec.ofChange fnExactLayKeysSpec)

/-- ITS FALSE NEIGHBOUR: 'it returns false'. Refute it at one input. -/
def fnExactLayKeysWrong : ChangeSpec := { name := "fnExactLayKeys", fn := fun _ => fun
  | [d1, d2, d3] => { results := [.lit (.bool false)], args := [d1, d2, d3] }
  | _ => none }
def FnExactLayKeysWrongFalsely : Prop := fnExactLayKeysRow.holds Try.pinned (OpenSpec.ofChange fnExactLayKeysWrong)

/-- 'laws.FnExactIsFilling': WHATEVER THE INPUT: true; the input reads as it did. -/
def fnExactIsFillingSpec : ChangeSpec := { name := "fnExactIsFilling", fn := fun _ => fun
  | [d1, d2, d3] => { results := [.lit (.bool true)], args := [d1, d2, d3] }
  | _ => none }
def fnExactIsFillingRow : OpenClaim := { program := "ytddpjjdncmokmaa", sum := "489c13a7cf0ac2cad96d98be8a91f577536c3d2b251bb7bc0bd12e9bd91b9ab6", func := "loop.example/g01158/laws.FnExactIsFilling", spec := "fnExactIsFilling", unfollowed := true, recurses := true, apart := false }
def FnExactIsFillingSaid : Prop := fnExactIsFillingRow.holds Try.pinned (OpenSpec.ofChange fnExactIsFillingSpec)

/-- ITS FALSE NEIGHBOUR: 'it returns false'. Refute it at one input. -/
def fnExactIsFillingWrong : ChangeSpec := { name := "fnExactIsFilling", fn := fun _ => fun
  | [d1, d2, d3] => { results := [.lit (.bool false)], args := [d1, d2, d3] }
  | _ => none }
def FnExactIsFillingWrongFalsely : Prop := fnExactIsFillingRow.holds Try.pinned (OpenSpec.ofChange fnExactIsFillingWrong)

/-- 'laws.FnExactFillingWins': WHATEVER THE INPUT: true; the input reads as it did. -/
def fnExactFillingWinsSpec : ChangeSpec := { name := "fnExactFillingWins", fn := fun _ => fun
  | [d1, d2, d3] => { results := [.lit (.bool true)], args := [d1, d2, d3] }
  | _ => none }
def fnExactFillingWinsRow : OpenClaim := { program := "ytddpjjdncmokmaa", sum := "489c13a7cf0ac2cad96d98be8a91f577536c3d2b251bb7bc0bd12e9bd91b9ab6", func := "loop.example/g01158/laws.FnExactFillingWins", spec := "fnExactFillingWins", unfollowed := true, recurses := true, apart := false }
def FnExactFillingWinsSaid : Prop := fnExactFillingWinsRow.holds Try.pinned (OpenSpec.ofChange fnExactFillingWinsSpec)

/-- ITS FALSE NEIGHBOUR: 'it returns false'. Refute it at one input. -/
def fnExactFillingWinsWrong : ChangeSpec := { name := "fnExactFillingWins", fn := fun _ => fun
  | [d1, d2, d3] => { results := [.lit (.bool false)], args := [d1, d2, d3] }
  | _ => none }
def FnExactFillingWinsWrongFalsely : Prop := fnExactFillingWinsRow.holds Try.pinned (OpenSpec.ofChange fnExactFillingWinsWrong)

/-- 'laws.FnExactFillingDepth': WHATEVER THE INPUT: true; the input reads as it did. -/
def fnExactFillingDepthSpec : ChangeSpec := { name := "fnExactFillingDepth", fn := fun _ => fun
  | [d1, d2, d3] => { results := [.lit (.bool true)], args := [d1, d2, d3] }
  | _ => none }
def fnExactFillingDepthRow : OpenClaim := { program := "ytddpjjdncmokmaa", sum := "489c13a7cf0ac2cad96d98be8a91f577536c3d2b251bb7bc0bd12e9bd91b9ab6", func := "loop.example/g01158/laws.FnExactFillingDepth", spec := "fnExactFillingDepth", unfollowed := true, recurses := true, apart := false }
def FnExactFillingDepthSaid : Prop := fnExactFillingDepthRow.holds Try.pinned (OpenSpec.ofChange fnExactFillingDepthSpec)

/-- ITS FALSE NEIGHBOUR: 'it returns false'. Refute it at one input. -/
def fnExactFillingDepthWrong : ChangeSpec := { name := "fnExactFillingDepth", fn := fun _ => fun
  | [d1, d2, d3] => { results := [.lit (.bool false)], args := [d1, d2, d3] }
  | _ => none }
def FnExactFillingDepthWrongFalsely : Prop := fnExactFillingDepthRow.holds Try.pinned (OpenSpec.ofChange fnExactFillingDepthWrong)

/-- 'laws.FnExactCountFillings': WHATEVER THE INPUT: true; the input reads as it did. -/
def fnExactCountFillingsSpec : ChangeSpec := { name := "fnExactCountFillings", fn := fun _ => fun
  | [d1, d2] => { results := [.lit (.bool true)], args := [d1, d2] }
  | _ => none }
def fnExactCountFillingsRow : OpenClaim := { program := "ytddpjjdncmokmaa", sum := "489c13a7cf0ac2cad96d98be8a91f577536c3d2b251bb7bc0bd12e9bd91b9ab6", func := "loop.example/g01158/laws.FnExactCountFillings", spec := "fnExactCountFillings", unfollowed := true, recurses := true, apart := false }
def FnExactCountFillingsSaid : Prop := fnExactCountFillingsRow.holds Try.pinned (OpenSpec.ofChange fnExactCountFillingsSpec)

/-- ITS FALSE NEIGHBOUR: 'it returns false'. Refute it at one input. -/
def fnExactCountFillingsWrong : ChangeSpec := { name := "fnExactCountFillings", fn := fun _ => fun
  | [d1, d2] => { results := [.lit (.bool false)], args := [d1, d2] }
  | _ => none }
def FnExactCountFillingsWrongFalsely : Prop := fnExactCountFillingsRow.holds Try.pinned (OpenSpec.ofChange fnExactCountFillingsWrong)

/-- 'laws.FnExactFirstFilling': WHATEVER THE INPUT: true; the input reads as it did. -/
def fnExactFirstFillingSpec : ChangeSpec := { name := "fnExactFirstFilling", fn := fun _ => fun
  | [d1, d2] => { results := [.lit (.bool true)], args := [d1, d2] }
  | _ => none }
def fnExactFirstFillingRow : OpenClaim := { program := "ytddpjjdncmokmaa", sum := "489c13a7cf0ac2cad96d98be8a91f577536c3d2b251bb7bc0bd12e9bd91b9ab6", func := "loop.example/g01158/laws.FnExactFirstFilling", spec := "fnExactFirstFilling", unfollowed := true, recurses := true, apart := false }
def FnExactFirstFillingSaid : Prop := fnExactFirstFillingRow.holds Try.pinned (OpenSpec.ofChange fnExactFirstFillingSpec)

/-- ITS FALSE NEIGHBOUR: 'it returns false'. Refute it at one input. -/
def fnExactFirstFillingWrong : ChangeSpec := { name := "fnExactFirstFilling", fn := fun _ => fun
  | [d1, d2] => { results := [.lit (.bool false)], args := [d1, d2] }
  | _ => none }
def FnExactFirstFillingWrongFalsely : Prop := fnExactFirstFillingRow.holds Try.pinned (OpenSpec.ofChange fnExactFirstFillingWrong)

/-- 'laws.FnExactDeepestFilling': WHATEVER THE INPUT: true; the input reads as it did. -/
def fnExactDeepestFillingSpec : ChangeSpec := { name := "fnExactDeepestFilling", fn := fun _ => fun
  | [d1, d2] => { results := [.lit (.bool true)], args := [d1, d2] }
  | _ => none }
def fnExactDeepestFillingRow : OpenClaim := { program := "ytddpjjdncmokmaa", sum := "489c13a7cf0ac2cad96d98be8a91f577536c3d2b251bb7bc0bd12e9bd91b9ab6", func := "loop.example/g01158/laws.FnExactDeepestFilling", spec := "fnExactDeepestFilling", unfollowed := true, recurses := true, apart := false }
def FnExactDeepestFillingSaid : Prop := fnExactDeepestFillingRow.holds Try.pinned (OpenSpec.ofChange fnExactDeepestFillingSpec)

/-- ITS FALSE NEIGHBOUR: 'it returns false'. Refute it at one input. -/
def fnExactDeepestFillingWrong : ChangeSpec := { name := "fnExactDeepestFilling", fn := fun _ => fun
  | [d1, d2] => { results := [.lit (.bool false)], args := [d1, d2] }
  | _ => none }
def FnExactDeepestFillingWrongFalsely : Prop := fnExactDeepestFillingRow.holds Try.pinned (OpenSpec.ofChange fnExactDeepestFillingWrong)

/-- 'laws.FnExactNodeCounts': WHATEVER THE INPUT: true; the input reads as it did. -/
def fnExactNodeCountsSpec : ChangeSpec := { name := "fnExactNodeCounts", fn := fun _ => fun
  | [d1, d2, d3] => { results := [.lit (.bool true)], args := [d1, d2, d3] }
  | _ => none }
def fnExactNodeCountsRow : OpenClaim := { program := "ytddpjjdncmokmaa", sum := "489c13a7cf0ac2cad96d98be8a91f577536c3d2b251bb7bc0bd12e9bd91b9ab6", func := "loop.example/g01158/laws.FnExactNodeCounts", spec := "fnExactNodeCounts", unfollowed := true, recurses := true, apart := false }
def FnExactNodeCountsSaid : Prop := fnExactNodeCountsRow.holds Try.pinned (OpenSpec.ofChange fnExactNodeCountsSpec)

/-- ITS FALSE NEIGHBOUR: 'it returns false'. Refute it at one input. -/
def fnExactNodeCountsWrong : ChangeSpec := { name := "fnExactNodeCounts", fn := fun _ => fun
  | [d1, d2, d3] => { results := [.lit (.bool false)], args := [d1, d2, d3] }
  | _ => none }
def FnExactNodeCountsWrongFalsely : Prop := fnExactNodeCountsRow.holds Try.pinned (OpenSpec.ofChange fnExactNodeCountsWrong)

/-- 'laws.FnExactAssumedFilling': WHATEVER THE INPUT: true; the input reads as it did. -/
def fnExactAssumedFillingSpec : ChangeSpec := { name := "fnExactAssumedFilling", fn := fun _ => fun
  | [d1, d2, d3, d4] => { results := [.lit (.bool true)], args := [d1, d2, d3, d4] }
  | _ => none }
def fnExactAssumedFillingRow : OpenClaim := { program := "ytddpjjdncmokmaa", sum := "489c13a7cf0ac2cad96d98be8a91f577536c3d2b251bb7bc0bd12e9bd91b9ab6", func := "loop.example/g01158/laws.FnExactAssumedFilling", spec := "fnExactAssumedFilling", unfollowed := true, recurses := true, apart := false }
def FnExactAssumedFillingSaid : Prop := fnExactAssumedFillingRow.holds Try.pinned (OpenSpec.ofChange fnExactAssumedFillingSpec)

/-- ITS FALSE NEIGHBOUR: 'it returns false'. Refute it at one input. -/
def fnExactAssumedFillingWrong : ChangeSpec := { name := "fnExactAssumedFilling", fn := fun _ => fun
  | [d1, d2, d3, d4] => { results := [.lit (.bool false)], args := [d1, d2, d3, d4] }
  | _ => none }
def FnExactAssumedFillingWrongFalsely : Prop := fnExactAssumedFillingRow.holds Try.pinned (OpenSpec.ofChange fnExactAssumedFillingWrong)

/-- 'laws.FnExactForwardFilling': WHATEVER THE INPUT: true; the input reads as it did. -/
def fnExactForwardFillingSpec : ChangeSpec := { name := "fnExactForwardFilling", fn := fun _ => fun
  | [d1, d2, d3, d4] => { results := [.lit (.bool true)], args := [d1, d2, d3, d4] }
  | _ => none }
def fnExactForwardFillingRow : OpenClaim := { program := "ytddpjjdncmokmaa", sum := "489c13a7cf0ac2cad96d98be8a91f577536c3d2b251bb7bc0bd12e9bd91b9ab6", func := "loop.example/g01158/laws.FnExactForwardFilling", spec := "fnExactForwardFilling", unfollowed := true, recurses := true, apart := false }
def FnExactForwardFillingSaid : Prop := fnExactForwardFillingRow.holds Try.pinned (OpenSpec.ofChange fnExactForwardFillingSpec)

/-- ITS FALSE NEIGHBOUR: 'it returns false'. Refute it at one input. -/
def fnExactForwardFillingWrong : ChangeSpec := { name := "fnExactForwardFilling", fn := fun _ => fun
  | [d1, d2, d3, d4] => { results := [.lit (.bool false)], args := [d1, d2, d3, d4] }
  | _ => none }
def FnExactForwardFillingWrongFalsely : Prop := fnExactForwardFillingRow.holds Try.pinned (OpenSpec.ofChange fnExactForwardFillingWrong)

/-- 'laws.FnExactSwapFilling': WHATEVER THE INPUT: true; the input reads as it did. -/
def fnExactSwapFillingSpec : ChangeSpec := { name := "fnExactSwapFilling", fn := fun _ => fun
  | [d1, d2, d3, d4, d5] => { results := [.lit (.bool true)], args := [d1, d2, d3, d4, d5] }
  | _ => none }
def fnExactSwapFillingRow : OpenClaim := { program := "ytddpjjdncmokmaa", sum := "489c13a7cf0ac2cad96d98be8a91f577536c3d2b251bb7bc0bd12e9bd91b9ab6", func := "loop.example/g01158/laws.FnExactSwapFilling", spec := "fnExactSwapFilling", unfollowed := true, recurses := true, apart := false }
def FnExactSwapFillingSaid : Prop := fnExactSwapFillingRow.holds Try.pinned (OpenSpec.ofChange fnExactSwapFillingSpec)

/-- ITS FALSE NEIGHBOUR: 'it returns false'. Refute it at one input. -/
def fnExactSwapFillingWrong : ChangeSpec := { name := "fnExactSwapFilling", fn := fun _ => fun
  | [d1, d2, d3, d4, d5] => { results := [.lit (.bool false)], args := [d1, d2, d3, d4, d5] }
  | _ => none }
def FnExactSwapFillingWrongFalsely : Prop := fnExactSwapFillingRow.holds Try.pinned (OpenSpec.ofChange fnExactSwapFillingWrong)

/-- 'laws.FnExactGoodSwaps': WHATEVER THE INPUT: true; the input reads as it did. -/
def fnExactGoodSwapsSpec : ChangeSpec := { name := "fnExactGoodSwaps", fn := fun _ => fun
  | [d1, d2, d3] => { results := [.lit (.bool true)], args := [d1, d2, d3] }
  | _ => none }
def fnExactGoodSwapsRow : OpenClaim := { program := "ytddpjjdncmokmaa", sum := "489c13a7cf0ac2cad96d98be8a91f577536c3d2b251bb7bc0bd12e9bd91b9ab6", func := "loop.example/g01158/laws.FnExactGoodSwaps", spec := "fnExactGoodSwaps", unfollowed := true, recurses := true, apart := false }
def FnExactGoodSwapsSaid : Prop := fnExactGoodSwapsRow.holds Try.pinned (OpenSpec.ofChange fnExactGoodSwapsSpec)

/-- ITS FALSE NEIGHBOUR: 'it returns false'. Refute it at one input. -/
def fnExactGoodSwapsWrong : ChangeSpec := { name := "fnExactGoodSwaps", fn := fun _ => fun
  | [d1, d2, d3] => { results := [.lit (.bool false)], args := [d1, d2, d3] }
  | _ => none }
def FnExactGoodSwapsWrongFalsely : Prop := fnExactGoodSwapsRow.holds Try.pinned (OpenSpec.ofChange fnExactGoodSwapsWrong)

/- THE SECOND FORM. 'bulk': how many values and letters a reading holds, each counted each time it is reached (what is shared counts as often as it is met; a slice's spare places count too). A statement '..UptoSaid' is the law's where the arguments, and the package variables that the reading takes, are together of bulk at most 1048576: NARROWER than '..Said'. Prove '..Said' where nothing that the law and all that it calls make is longer than what came in: it says more and counts as full. Else prove '..UptoSaid'. A law counts once. -/
mutual
def uptoBulk {H : Type} : DataW H → Nat
  | .lit (.string bytes) => bytes.length + 1
  | .lit _ => 1
  | .nil => 1
  | .ptr d => uptoBulk d + 1
  | .slice elems spare => uptoBulkAll elems + uptoBulkAll spare + 1
  | .agg parts => uptoBulkAll parts + 1
  | .iface _ d => uptoBulk d + 1
  | .map entries => uptoBulkEntries entries + 1
  | .held _ => 1
def uptoBulkAll {H : Type} : List (DataW H) → Nat
  | [] => 0
  | d :: r => uptoBulk d + uptoBulkAll r
def uptoBulkEntries {H : Type} : List (Lit × DataW H) → Nat
  | [] => 0
  | x :: r => uptoBulkEntry x + uptoBulkEntries r
def uptoBulkEntry {H : Type} : Lit × DataW H → Nat
  | (.string bytes, d) => bytes.length + uptoBulk d + 1
  | (_, d) => uptoBulk d + 1
 end
def uptoSmall : (H : Type) → List (DataW H) → Bool := fun _ ds => decide (uptoBulkAll ds ≤ 1048576)
def OpenSpec.upto (s : _root_.Go.ChangeSpec) : _root_.Go.OpenSpec := { _root_.Go.OpenSpec.ofChange s with cond := some uptoSmall }

/-- 'laws.FnExactLayKeys', WHERE WHAT IT READS IS OF BULK AT MOST 1048576: true; the input reads as it did. -/
def fnExactLayKeysUptoRow : OpenClaim := { program := "ytddpjjdncmokmaa", sum := "489c13a7cf0ac2cad96d98be8a91f577536c3d2b251bb7bc0bd12e9bd91b9ab6", func := "loop.example/g01158/laws.FnExactLayKeys", spec := "fnExactLayKeys", unfollowed := true, recurses := true, apart := false, narrowed := true }
def FnExactLayKeysUptoSaid : Prop := fnExactLayKeysUptoRow.holds Try.pinned (OpenSpec.upto fnExactLayKeysSpec)

/-- 'laws.FnExactIsFilling', WHERE WHAT IT READS IS OF BULK AT MOST 1048576: true; the input reads as it did. -/
def fnExactIsFillingUptoRow : OpenClaim := { program := "ytddpjjdncmokmaa", sum := "489c13a7cf0ac2cad96d98be8a91f577536c3d2b251bb7bc0bd12e9bd91b9ab6", func := "loop.example/g01158/laws.FnExactIsFilling", spec := "fnExactIsFilling", unfollowed := true, recurses := true, apart := false, narrowed := true }
def FnExactIsFillingUptoSaid : Prop := fnExactIsFillingUptoRow.holds Try.pinned (OpenSpec.upto fnExactIsFillingSpec)

/-- 'laws.FnExactFillingWins', WHERE WHAT IT READS IS OF BULK AT MOST 1048576: true; the input reads as it did. -/
def fnExactFillingWinsUptoRow : OpenClaim := { program := "ytddpjjdncmokmaa", sum := "489c13a7cf0ac2cad96d98be8a91f577536c3d2b251bb7bc0bd12e9bd91b9ab6", func := "loop.example/g01158/laws.FnExactFillingWins", spec := "fnExactFillingWins", unfollowed := true, recurses := true, apart := false, narrowed := true }
def FnExactFillingWinsUptoSaid : Prop := fnExactFillingWinsUptoRow.holds Try.pinned (OpenSpec.upto fnExactFillingWinsSpec)

/-- 'laws.FnExactFillingDepth', WHERE WHAT IT READS IS OF BULK AT MOST 1048576: true; the input reads as it did. -/
def fnExactFillingDepthUptoRow : OpenClaim := { program := "ytddpjjdncmokmaa", sum := "489c13a7cf0ac2cad96d98be8a91f577536c3d2b251bb7bc0bd12e9bd91b9ab6", func := "loop.example/g01158/laws.FnExactFillingDepth", spec := "fnExactFillingDepth", unfollowed := true, recurses := true, apart := false, narrowed := true }
def FnExactFillingDepthUptoSaid : Prop := fnExactFillingDepthUptoRow.holds Try.pinned (OpenSpec.upto fnExactFillingDepthSpec)

/-- 'laws.FnExactCountFillings', WHERE WHAT IT READS IS OF BULK AT MOST 1048576: true; the input reads as it did. -/
def fnExactCountFillingsUptoRow : OpenClaim := { program := "ytddpjjdncmokmaa", sum := "489c13a7cf0ac2cad96d98be8a91f577536c3d2b251bb7bc0bd12e9bd91b9ab6", func := "loop.example/g01158/laws.FnExactCountFillings", spec := "fnExactCountFillings", unfollowed := true, recurses := true, apart := false, narrowed := true }
def FnExactCountFillingsUptoSaid : Prop := fnExactCountFillingsUptoRow.holds Try.pinned (OpenSpec.upto fnExactCountFillingsSpec)

/-- 'laws.FnExactFirstFilling', WHERE WHAT IT READS IS OF BULK AT MOST 1048576: true; the input reads as it did. -/
def fnExactFirstFillingUptoRow : OpenClaim := { program := "ytddpjjdncmokmaa", sum := "489c13a7cf0ac2cad96d98be8a91f577536c3d2b251bb7bc0bd12e9bd91b9ab6", func := "loop.example/g01158/laws.FnExactFirstFilling", spec := "fnExactFirstFilling", unfollowed := true, recurses := true, apart := false, narrowed := true }
def FnExactFirstFillingUptoSaid : Prop := fnExactFirstFillingUptoRow.holds Try.pinned (OpenSpec.upto fnExactFirstFillingSpec)

/-- 'laws.FnExactDeepestFilling', WHERE WHAT IT READS IS OF BULK AT MOST 1048576: true; the input reads as it did. -/
def fnExactDeepestFillingUptoRow : OpenClaim := { program := "ytddpjjdncmokmaa", sum := "489c13a7cf0ac2cad96d98be8a91f577536c3d2b251bb7bc0bd12e9bd91b9ab6", func := "loop.example/g01158/laws.FnExactDeepestFilling", spec := "fnExactDeepestFilling", unfollowed := true, recurses := true, apart := false, narrowed := true }
def FnExactDeepestFillingUptoSaid : Prop := fnExactDeepestFillingUptoRow.holds Try.pinned (OpenSpec.upto fnExactDeepestFillingSpec)

/-- 'laws.FnExactNodeCounts', WHERE WHAT IT READS IS OF BULK AT MOST 1048576: true; the input reads as it did. -/
def fnExactNodeCountsUptoRow : OpenClaim := { program := "ytddpjjdncmokmaa", sum := "489c13a7cf0ac2cad96d98be8a91f577536c3d2b251bb7bc0bd12e9bd91b9ab6", func := "loop.example/g01158/laws.FnExactNodeCounts", spec := "fnExactNodeCounts", unfollowed := true, recurses := true, apart := false, narrowed := true }
def FnExactNodeCountsUptoSaid : Prop := fnExactNodeCountsUptoRow.holds Try.pinned (OpenSpec.upto fnExactNodeCountsSpec)

/-- 'laws.FnExactAssumedFilling', WHERE WHAT IT READS IS OF BULK AT MOST 1048576: true; the input reads as it did. -/
def fnExactAssumedFillingUptoRow : OpenClaim := { program := "ytddpjjdncmokmaa", sum := "489c13a7cf0ac2cad96d98be8a91f577536c3d2b251bb7bc0bd12e9bd91b9ab6", func := "loop.example/g01158/laws.FnExactAssumedFilling", spec := "fnExactAssumedFilling", unfollowed := true, recurses := true, apart := false, narrowed := true }
def FnExactAssumedFillingUptoSaid : Prop := fnExactAssumedFillingUptoRow.holds Try.pinned (OpenSpec.upto fnExactAssumedFillingSpec)

/-- 'laws.FnExactForwardFilling', WHERE WHAT IT READS IS OF BULK AT MOST 1048576: true; the input reads as it did. -/
def fnExactForwardFillingUptoRow : OpenClaim := { program := "ytddpjjdncmokmaa", sum := "489c13a7cf0ac2cad96d98be8a91f577536c3d2b251bb7bc0bd12e9bd91b9ab6", func := "loop.example/g01158/laws.FnExactForwardFilling", spec := "fnExactForwardFilling", unfollowed := true, recurses := true, apart := false, narrowed := true }
def FnExactForwardFillingUptoSaid : Prop := fnExactForwardFillingUptoRow.holds Try.pinned (OpenSpec.upto fnExactForwardFillingSpec)

/-- 'laws.FnExactSwapFilling', WHERE WHAT IT READS IS OF BULK AT MOST 1048576: true; the input reads as it did. -/
def fnExactSwapFillingUptoRow : OpenClaim := { program := "ytddpjjdncmokmaa", sum := "489c13a7cf0ac2cad96d98be8a91f577536c3d2b251bb7bc0bd12e9bd91b9ab6", func := "loop.example/g01158/laws.FnExactSwapFilling", spec := "fnExactSwapFilling", unfollowed := true, recurses := true, apart := false, narrowed := true }
def FnExactSwapFillingUptoSaid : Prop := fnExactSwapFillingUptoRow.holds Try.pinned (OpenSpec.upto fnExactSwapFillingSpec)

/-- 'laws.FnExactGoodSwaps', WHERE WHAT IT READS IS OF BULK AT MOST 1048576: true; the input reads as it did. -/
def fnExactGoodSwapsUptoRow : OpenClaim := { program := "ytddpjjdncmokmaa", sum := "489c13a7cf0ac2cad96d98be8a91f577536c3d2b251bb7bc0bd12e9bd91b9ab6", func := "loop.example/g01158/laws.FnExactGoodSwaps", spec := "fnExactGoodSwaps", unfollowed := true, recurses := true, apart := false, narrowed := true }
def FnExactGoodSwapsUptoSaid : Prop := fnExactGoodSwapsUptoRow.holds Try.pinned (OpenSpec.upto fnExactGoodSwapsSpec)

end Rows
end Go.Proofs.Ytddpjjdncmokmaa
