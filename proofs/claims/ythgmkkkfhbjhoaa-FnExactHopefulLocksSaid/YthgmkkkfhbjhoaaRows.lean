/-
  No cell of these rows narrows 'for every input' (looked for: loops, veiled, ifaces, maps, wideKeys, modest, calm, conditions, laid).
  DERIVED. THE GIVEN ROWS OF THIS SEAT. 13 by the template 'for every input the law returns true; each argument reads behind the call as it read before'; 0 by the template 'total and deterministic' (their statements: YthgmkkkfhbjhoaaTotals.lean).
  GIVEN WITH THE SEED: the statements are not yours to turn. If you find one false, say at which input.
  Laid BY PROGRAM, IN A SANDBOX (cutbox-rows.mjs): the forced cells as the released guide's own fill.sh prints them over the translation afc61717cf180799… (all of the seat's roots in one cut). By AI agents, Wed Nov 11 2026. No macro, syntax, notation, axiom, sorry.
-/
import Derived.Test.YthgmkkkfhbjhoaaChecked
import GoSem.Claim
import GoSem.ClaimJoined
import GoSem.ClaimMapViews
import Derived.JoinedTies
import Derived.KernelRfl
namespace Go.Proofs.Ythgmkkkfhbjhoaa
/- THE CELL 'sum', in the pinned program and in every row, IS THE sha256 OF THE DUMP (.gsa) THAT YthgmkkkfhbjhoaaProg.lean LOADS. Nothing in Lean hashes anything: it is a label: what it is worth is what the hold of that sum in a sandbox is worth. -/
noncomputable def Try.pinned : Pinned := { name := "ythgmkkkfhbjhoaa", sum := "afc61717cf1807994f34cbe87e08bc7eacf9960f29ae48a8b2d1032a618e504d", checked := Try.checked }
namespace Rows
def none {H : Type} : Left H := { results := [], args := [] }

/-- 'laws.FnExactLocksOf': WHATEVER THE INPUT: true; the input reads as it did. -/
def fnExactLocksOfSpec : ChangeSpec := { name := "fnExactLocksOf", fn := fun _ => fun
  | [d] => { results := [.lit (.bool true)], args := [d] }
  | _ => none }
def fnExactLocksOfRow : OpenClaim := { program := "ythgmkkkfhbjhoaa", sum := "afc61717cf1807994f34cbe87e08bc7eacf9960f29ae48a8b2d1032a618e504d", func := "loop.example/g01158/laws.FnExactLocksOf", spec := "fnExactLocksOf", unfollowed := true, recurses := true, plainKeys := false, apart := false }
def FnExactLocksOfSaid : Prop := fnExactLocksOfRow.holds Try.pinned (OpenSpec.ofChange fnExactLocksOfSpec)

/-- ITS FALSE NEIGHBOUR: 'it returns false'. Refute it at one input. -/
def fnExactLocksOfWrong : ChangeSpec := { name := "fnExactLocksOf", fn := fun _ => fun
  | [d] => { results := [.lit (.bool false)], args := [d] }
  | _ => none }
def FnExactLocksOfWrongFalsely : Prop := fnExactLocksOfRow.holds Try.pinned (OpenSpec.ofChange fnExactLocksOfWrong)

/-- 'laws.FnExactIsOpening': WHATEVER THE INPUT: true; the input reads as it did. -/
def fnExactIsOpeningSpec : ChangeSpec := { name := "fnExactIsOpening", fn := fun _ => fun
  | [d1, d2] => { results := [.lit (.bool true)], args := [d1, d2] }
  | _ => none }
def fnExactIsOpeningRow : OpenClaim := { program := "ythgmkkkfhbjhoaa", sum := "afc61717cf1807994f34cbe87e08bc7eacf9960f29ae48a8b2d1032a618e504d", func := "loop.example/g01158/laws.FnExactIsOpening", spec := "fnExactIsOpening", unfollowed := true, recurses := true, plainKeys := false, apart := false }
def FnExactIsOpeningSaid : Prop := fnExactIsOpeningRow.holds Try.pinned (OpenSpec.ofChange fnExactIsOpeningSpec)

/-- ITS FALSE NEIGHBOUR: 'it returns false'. Refute it at one input. -/
def fnExactIsOpeningWrong : ChangeSpec := { name := "fnExactIsOpening", fn := fun _ => fun
  | [d1, d2] => { results := [.lit (.bool false)], args := [d1, d2] }
  | _ => none }
def FnExactIsOpeningWrongFalsely : Prop := fnExactIsOpeningRow.holds Try.pinned (OpenSpec.ofChange fnExactIsOpeningWrong)

/-- 'laws.FnExactNearNodes': WHATEVER THE INPUT: true; the input reads as it did. -/
def fnExactNearNodesSpec : ChangeSpec := { name := "fnExactNearNodes", fn := fun _ => fun
  | [d1, d2] => { results := [.lit (.bool true)], args := [d1, d2] }
  | _ => none }
def fnExactNearNodesRow : OpenClaim := { program := "ythgmkkkfhbjhoaa", sum := "afc61717cf1807994f34cbe87e08bc7eacf9960f29ae48a8b2d1032a618e504d", func := "loop.example/g01158/laws.FnExactNearNodes", spec := "fnExactNearNodes", unfollowed := true, recurses := true, plainKeys := false, apart := false }
def FnExactNearNodesSaid : Prop := fnExactNearNodesRow.holds Try.pinned (OpenSpec.ofChange fnExactNearNodesSpec)

/-- ITS FALSE NEIGHBOUR: 'it returns false'. Refute it at one input. -/
def fnExactNearNodesWrong : ChangeSpec := { name := "fnExactNearNodes", fn := fun _ => fun
  | [d1, d2] => { results := [.lit (.bool false)], args := [d1, d2] }
  | _ => none }
def FnExactNearNodesWrongFalsely : Prop := fnExactNearNodesRow.holds Try.pinned (OpenSpec.ofChange fnExactNearNodesWrong)

/-- 'laws.FnExactKeysLeft': WHATEVER THE INPUT: true; the input reads as it did. -/
def fnExactKeysLeftSpec : ChangeSpec := { name := "fnExactKeysLeft", fn := fun _ => fun
  | [d1, d2] => { results := [.lit (.bool true)], args := [d1, d2] }
  | _ => none }
def fnExactKeysLeftRow : OpenClaim := { program := "ythgmkkkfhbjhoaa", sum := "afc61717cf1807994f34cbe87e08bc7eacf9960f29ae48a8b2d1032a618e504d", func := "loop.example/g01158/laws.FnExactKeysLeft", spec := "fnExactKeysLeft", unfollowed := true, recurses := true, plainKeys := false, apart := false }
def FnExactKeysLeftSaid : Prop := fnExactKeysLeftRow.holds Try.pinned (OpenSpec.ofChange fnExactKeysLeftSpec)

/-- ITS FALSE NEIGHBOUR: 'it returns false'. Refute it at one input. -/
def fnExactKeysLeftWrong : ChangeSpec := { name := "fnExactKeysLeft", fn := fun _ => fun
  | [d1, d2] => { results := [.lit (.bool false)], args := [d1, d2] }
  | _ => none }
def FnExactKeysLeftWrongFalsely : Prop := fnExactKeysLeftRow.holds Try.pinned (OpenSpec.ofChange fnExactKeysLeftWrong)

/-- 'laws.FnExactNextLocks': WHATEVER THE INPUT: true; the input reads as it did. -/
def fnExactNextLocksSpec : ChangeSpec := { name := "fnExactNextLocks", fn := fun _ => fun
  | [d1, d2] => { results := [.lit (.bool true)], args := [d1, d2] }
  | _ => none }
def fnExactNextLocksRow : OpenClaim := { program := "ythgmkkkfhbjhoaa", sum := "afc61717cf1807994f34cbe87e08bc7eacf9960f29ae48a8b2d1032a618e504d", func := "loop.example/g01158/laws.FnExactNextLocks", spec := "fnExactNextLocks", unfollowed := true, recurses := true, plainKeys := false, apart := false }
def FnExactNextLocksSaid : Prop := fnExactNextLocksRow.holds Try.pinned (OpenSpec.ofChange fnExactNextLocksSpec)

/-- ITS FALSE NEIGHBOUR: 'it returns false'. Refute it at one input. -/
def fnExactNextLocksWrong : ChangeSpec := { name := "fnExactNextLocks", fn := fun _ => fun
  | [d1, d2] => { results := [.lit (.bool false)], args := [d1, d2] }
  | _ => none }
def FnExactNextLocksWrongFalsely : Prop := fnExactNextLocksRow.holds Try.pinned (OpenSpec.ofChange fnExactNextLocksWrong)

/-- 'laws.FnExactWinsBy': WHATEVER THE INPUT: true; the input reads as it did. -/
def fnExactWinsBySpec : ChangeSpec := { name := "fnExactWinsBy", fn := fun _ => fun
  | [d1, d2] => { results := [.lit (.bool true)], args := [d1, d2] }
  | _ => none }
def fnExactWinsByRow : OpenClaim := { program := "ythgmkkkfhbjhoaa", sum := "afc61717cf1807994f34cbe87e08bc7eacf9960f29ae48a8b2d1032a618e504d", func := "loop.example/g01158/laws.FnExactWinsBy", spec := "fnExactWinsBy", unfollowed := true, recurses := true, plainKeys := false, apart := false }
def FnExactWinsBySaid : Prop := fnExactWinsByRow.holds Try.pinned (OpenSpec.ofChange fnExactWinsBySpec)

/-- ITS FALSE NEIGHBOUR: 'it returns false'. Refute it at one input. -/
def fnExactWinsByWrong : ChangeSpec := { name := "fnExactWinsBy", fn := fun _ => fun
  | [d1, d2] => { results := [.lit (.bool false)], args := [d1, d2] }
  | _ => none }
def FnExactWinsByWrongFalsely : Prop := fnExactWinsByRow.holds Try.pinned (OpenSpec.ofChange fnExactWinsByWrong)

/-- 'laws.FnExactFirstWin': WHATEVER THE INPUT: true; the input reads as it did. -/
def fnExactFirstWinSpec : ChangeSpec := { name := "fnExactFirstWin", fn := fun _ => fun
  | [d] => { results := [.lit (.bool true)], args := [d] }
  | _ => none }
def fnExactFirstWinRow : OpenClaim := { program := "ythgmkkkfhbjhoaa", sum := "afc61717cf1807994f34cbe87e08bc7eacf9960f29ae48a8b2d1032a618e504d", func := "loop.example/g01158/laws.FnExactFirstWin", spec := "fnExactFirstWin", unfollowed := true, recurses := true, plainKeys := false, apart := false }
def FnExactFirstWinSaid : Prop := fnExactFirstWinRow.holds Try.pinned (OpenSpec.ofChange fnExactFirstWinSpec)

/-- ITS FALSE NEIGHBOUR: 'it returns false'. Refute it at one input. -/
def fnExactFirstWinWrong : ChangeSpec := { name := "fnExactFirstWin", fn := fun _ => fun
  | [d] => { results := [.lit (.bool false)], args := [d] }
  | _ => none }
def FnExactFirstWinWrongFalsely : Prop := fnExactFirstWinRow.holds Try.pinned (OpenSpec.ofChange fnExactFirstWinWrong)

/-- 'laws.FnExactFirstStuck': WHATEVER THE INPUT: true; the input reads as it did. -/
def fnExactFirstStuckSpec : ChangeSpec := { name := "fnExactFirstStuck", fn := fun _ => fun
  | [d] => { results := [.lit (.bool true)], args := [d] }
  | _ => none }
def fnExactFirstStuckRow : OpenClaim := { program := "ythgmkkkfhbjhoaa", sum := "afc61717cf1807994f34cbe87e08bc7eacf9960f29ae48a8b2d1032a618e504d", func := "loop.example/g01158/laws.FnExactFirstStuck", spec := "fnExactFirstStuck", unfollowed := true, recurses := true, plainKeys := false, apart := false }
def FnExactFirstStuckSaid : Prop := fnExactFirstStuckRow.holds Try.pinned (OpenSpec.ofChange fnExactFirstStuckSpec)

/-- ITS FALSE NEIGHBOUR: 'it returns false'. Refute it at one input. -/
def fnExactFirstStuckWrong : ChangeSpec := { name := "fnExactFirstStuck", fn := fun _ => fun
  | [d] => { results := [.lit (.bool false)], args := [d] }
  | _ => none }
def FnExactFirstStuckWrongFalsely : Prop := fnExactFirstStuckRow.holds Try.pinned (OpenSpec.ofChange fnExactFirstStuckWrong)

/-- 'laws.FnExactIsSafe': WHATEVER THE INPUT: true; the input reads as it did. -/
def fnExactIsSafeSpec : ChangeSpec := { name := "fnExactIsSafe", fn := fun _ => fun
  | [d] => { results := [.lit (.bool true)], args := [d] }
  | _ => none }
def fnExactIsSafeRow : OpenClaim := { program := "ythgmkkkfhbjhoaa", sum := "afc61717cf1807994f34cbe87e08bc7eacf9960f29ae48a8b2d1032a618e504d", func := "loop.example/g01158/laws.FnExactIsSafe", spec := "fnExactIsSafe", unfollowed := true, recurses := true, plainKeys := false, apart := false }
def FnExactIsSafeSaid : Prop := fnExactIsSafeRow.holds Try.pinned (OpenSpec.ofChange fnExactIsSafeSpec)

/-- ITS FALSE NEIGHBOUR: 'it returns false'. Refute it at one input. -/
def fnExactIsSafeWrong : ChangeSpec := { name := "fnExactIsSafe", fn := fun _ => fun
  | [d] => { results := [.lit (.bool false)], args := [d] }
  | _ => none }
def FnExactIsSafeWrongFalsely : Prop := fnExactIsSafeRow.holds Try.pinned (OpenSpec.ofChange fnExactIsSafeWrong)

/-- 'laws.FnExactCountStates': WHATEVER THE INPUT: true; the input reads as it did. -/
def fnExactCountStatesSpec : ChangeSpec := { name := "fnExactCountStates", fn := fun _ => fun
  | [d] => { results := [.lit (.bool true)], args := [d] }
  | _ => none }
def fnExactCountStatesRow : OpenClaim := { program := "ythgmkkkfhbjhoaa", sum := "afc61717cf1807994f34cbe87e08bc7eacf9960f29ae48a8b2d1032a618e504d", func := "loop.example/g01158/laws.FnExactCountStates", spec := "fnExactCountStates", unfollowed := true, recurses := true, plainKeys := false, apart := false }
def FnExactCountStatesSaid : Prop := fnExactCountStatesRow.holds Try.pinned (OpenSpec.ofChange fnExactCountStatesSpec)

/-- ITS FALSE NEIGHBOUR: 'it returns false'. Refute it at one input. -/
def fnExactCountStatesWrong : ChangeSpec := { name := "fnExactCountStates", fn := fun _ => fun
  | [d] => { results := [.lit (.bool false)], args := [d] }
  | _ => none }
def FnExactCountStatesWrongFalsely : Prop := fnExactCountStatesRow.holds Try.pinned (OpenSpec.ofChange fnExactCountStatesWrong)

/-- 'laws.FnExactHopefulLocks': WHATEVER THE INPUT: true; the input reads as it did. -/
def fnExactHopefulLocksSpec : ChangeSpec := { name := "fnExactHopefulLocks", fn := fun _ => fun
  | [d1, d2] => { results := [.lit (.bool true)], args := [d1, d2] }
  | _ => none }
def fnExactHopefulLocksRow : OpenClaim := { program := "ythgmkkkfhbjhoaa", sum := "afc61717cf1807994f34cbe87e08bc7eacf9960f29ae48a8b2d1032a618e504d", func := "loop.example/g01158/laws.FnExactHopefulLocks", spec := "fnExactHopefulLocks", unfollowed := true, recurses := true, plainKeys := false, apart := false }
def FnExactHopefulLocksSaid : Prop := fnExactHopefulLocksRow.holds Try.pinned (OpenSpec.ofChange fnExactHopefulLocksSpec)

/-- ITS FALSE NEIGHBOUR: 'it returns false'. Refute it at one input. -/
def fnExactHopefulLocksWrong : ChangeSpec := { name := "fnExactHopefulLocks", fn := fun _ => fun
  | [d1, d2] => { results := [.lit (.bool false)], args := [d1, d2] }
  | _ => none }
def FnExactHopefulLocksWrongFalsely : Prop := fnExactHopefulLocksRow.holds Try.pinned (OpenSpec.ofChange fnExactHopefulLocksWrong)

/-- 'laws.FnExactLockNeeds': WHATEVER THE INPUT: true; the input reads as it did. -/
def fnExactLockNeedsSpec : ChangeSpec := { name := "fnExactLockNeeds", fn := fun _ => fun
  | [d] => { results := [.lit (.bool true)], args := [d] }
  | _ => none }
def fnExactLockNeedsRow : OpenClaim := { program := "ythgmkkkfhbjhoaa", sum := "afc61717cf1807994f34cbe87e08bc7eacf9960f29ae48a8b2d1032a618e504d", func := "loop.example/g01158/laws.FnExactLockNeeds", spec := "fnExactLockNeeds", unfollowed := true, recurses := true, plainKeys := false, apart := false }
def FnExactLockNeedsSaid : Prop := fnExactLockNeedsRow.holds Try.pinned (OpenSpec.ofChange fnExactLockNeedsSpec)

/-- ITS FALSE NEIGHBOUR: 'it returns false'. Refute it at one input. -/
def fnExactLockNeedsWrong : ChangeSpec := { name := "fnExactLockNeeds", fn := fun _ => fun
  | [d] => { results := [.lit (.bool false)], args := [d] }
  | _ => none }
def FnExactLockNeedsWrongFalsely : Prop := fnExactLockNeedsRow.holds Try.pinned (OpenSpec.ofChange fnExactLockNeedsWrong)

/-- 'laws.FnExactAllOpened': WHATEVER THE INPUT: true; the input reads as it did. -/
def fnExactAllOpenedSpec : ChangeSpec := { name := "fnExactAllOpened", fn := fun _ => fun
  | [d] => { results := [.lit (.bool true)], args := [d] }
  | _ => none }
def fnExactAllOpenedRow : OpenClaim := { program := "ythgmkkkfhbjhoaa", sum := "afc61717cf1807994f34cbe87e08bc7eacf9960f29ae48a8b2d1032a618e504d", func := "loop.example/g01158/laws.FnExactAllOpened", spec := "fnExactAllOpened", unfollowed := true, recurses := true, plainKeys := false, apart := false }
def FnExactAllOpenedSaid : Prop := fnExactAllOpenedRow.holds Try.pinned (OpenSpec.ofChange fnExactAllOpenedSpec)

/-- ITS FALSE NEIGHBOUR: 'it returns false'. Refute it at one input. -/
def fnExactAllOpenedWrong : ChangeSpec := { name := "fnExactAllOpened", fn := fun _ => fun
  | [d] => { results := [.lit (.bool false)], args := [d] }
  | _ => none }
def FnExactAllOpenedWrongFalsely : Prop := fnExactAllOpenedRow.holds Try.pinned (OpenSpec.ofChange fnExactAllOpenedWrong)

/- THE SECOND FORM. 'bulk': how many values and letters a reading holds, each counted each time it is reached (what is shared counts as often as it is met; a slice's spare places count too). A statement '..UptoSaid' is the law's where the arguments, and the package variables that the reading takes, are together of bulk at most 1048576: NARROWER than '..Said'. Prove '..Said' where nothing that the law and all that it calls make is longer than what came in: it says more and counts as full. Else prove '..UptoSaid'. A law counts once. -/
mutual
def uptoBulk {H : Type} : DataW H → Nat
  | .lit (.string bytes) => bytes.length + 1
  | .lit _ => 1
  | .nil => 1
  | .ptr d => uptoBulk d + 1
  | .slice elems spare => uptoBulkAll elems + uptoBulkAll spare + 1
  | .agg parts => uptoBulkAll parts + 1
  | .iface _ d => uptoBulk d + 1
  | .map entries => uptoBulkEntries entries + 1
  | .held _ => 1
def uptoBulkAll {H : Type} : List (DataW H) → Nat
  | [] => 0
  | d :: r => uptoBulk d + uptoBulkAll r
def uptoBulkEntries {H : Type} : List (Lit × DataW H) → Nat
  | [] => 0
  | x :: r => uptoBulkEntry x + uptoBulkEntries r
def uptoBulkEntry {H : Type} : Lit × DataW H → Nat
  | (.string bytes, d) => bytes.length + uptoBulk d + 1
  | (_, d) => uptoBulk d + 1
 end
def uptoSmall : (H : Type) → List (DataW H) → Bool := fun _ ds => decide (uptoBulkAll ds ≤ 1048576)
def OpenSpec.upto (s : _root_.Go.ChangeSpec) : _root_.Go.OpenSpec := { _root_.Go.OpenSpec.ofChange s with cond := some uptoSmall }

/-- 'laws.FnExactLocksOf', WHERE WHAT IT READS IS OF BULK AT MOST 1048576: true; the input reads as it did. -/
def fnExactLocksOfUptoRow : OpenClaim := { program := "ythgmkkkfhbjhoaa", sum := "afc61717cf1807994f34cbe87e08bc7eacf9960f29ae48a8b2d1032a618e504d", func := "loop.example/g01158/laws.FnExactLocksOf", spec := "fnExactLocksOf", unfollowed := true, recurses := true, plainKeys := false, apart := false, narrowed := true }
def FnExactLocksOfUptoSaid : Prop := fnExactLocksOfUptoRow.holds Try.pinned (OpenSpec.upto fnExactLocksOfSpec)

/-- 'laws.FnExactIsOpening', WHERE WHAT IT READS IS OF BULK AT MOST 1048576: true; the input reads as it did. -/
def fnExactIsOpeningUptoRow : OpenClaim := { program := "ythgmkkkfhbjhoaa", sum := "afc61717cf1807994f34cbe87e08bc7eacf9960f29ae48a8b2d1032a618e504d", func := "loop.example/g01158/laws.FnExactIsOpening", spec := "fnExactIsOpening", unfollowed := true, recurses := true, plainKeys := false, apart := false, narrowed := true }
def FnExactIsOpeningUptoSaid : Prop := fnExactIsOpeningUptoRow.holds Try.pinned (OpenSpec.upto fnExactIsOpeningSpec)

/-- 'laws.FnExactNearNodes', WHERE WHAT IT READS IS OF BULK AT MOST 1048576: true; the input reads as it did. -/
def fnExactNearNodesUptoRow : OpenClaim := { program := "ythgmkkkfhbjhoaa", sum := "afc61717cf1807994f34cbe87e08bc7eacf9960f29ae48a8b2d1032a618e504d", func := "loop.example/g01158/laws.FnExactNearNodes", spec := "fnExactNearNodes", unfollowed := true, recurses := true, plainKeys := false, apart := false, narrowed := true }
def FnExactNearNodesUptoSaid : Prop := fnExactNearNodesUptoRow.holds Try.pinned (OpenSpec.upto fnExactNearNodesSpec)

/-- 'laws.FnExactKeysLeft', WHERE WHAT IT READS IS OF BULK AT MOST 1048576: true; the input reads as it did. -/
def fnExactKeysLeftUptoRow : OpenClaim := { program := "ythgmkkkfhbjhoaa", sum := "afc61717cf1807994f34cbe87e08bc7eacf9960f29ae48a8b2d1032a618e504d", func := "loop.example/g01158/laws.FnExactKeysLeft", spec := "fnExactKeysLeft", unfollowed := true, recurses := true, plainKeys := false, apart := false, narrowed := true }
def FnExactKeysLeftUptoSaid : Prop := fnExactKeysLeftUptoRow.holds Try.pinned (OpenSpec.upto fnExactKeysLeftSpec)

/-- 'laws.FnExactNextLocks', WHERE WHAT IT READS IS OF BULK AT MOST 1048576: true; the input reads as it did. -/
def fnExactNextLocksUptoRow : OpenClaim := { program := "ythgmkkkfhbjhoaa", sum := "afc61717cf1807994f34cbe87e08bc7eacf9960f29ae48a8b2d1032a618e504d", func := "loop.example/g01158/laws.FnExactNextLocks", spec := "fnExactNextLocks", unfollowed := true, recurses := true, plainKeys := false, apart := false, narrowed := true }
def FnExactNextLocksUptoSaid : Prop := fnExactNextLocksUptoRow.holds Try.pinned (OpenSpec.upto fnExactNextLocksSpec)

/-- 'laws.FnExactWinsBy', WHERE WHAT IT READS IS OF BULK AT MOST 1048576: true; the input reads as it did. -/
def fnExactWinsByUptoRow : OpenClaim := { program := "ythgmkkkfhbjhoaa", sum := "afc61717cf1807994f34cbe87e08bc7eacf9960f29ae48a8b2d1032a618e504d", func := "loop.example/g01158/laws.FnExactWinsBy", spec := "fnExactWinsBy", unfollowed := true, recurses := true, plainKeys := false, apart := false, narrowed := true }
def FnExactWinsByUptoSaid : Prop := fnExactWinsByUptoRow.holds Try.pinned (OpenSpec.upto fnExactWinsBySpec)

/-- 'laws.FnExactFirstWin', WHERE WHAT IT READS IS OF BULK AT MOST 1048576: true; the input reads as it did. -/
def fnExactFirstWinUptoRow : OpenClaim := { program := "ythgmkkkfhbjhoaa", sum := "afc61717cf1807994f34cbe87e08bc7eacf9960f29ae48a8b2d1032a618e504d", func := "loop.example/g01158/laws.FnExactFirstWin", spec := "fnExactFirstWin", unfollowed := true, recurses := true, plainKeys := false, apart := false, narrowed := true }
def FnExactFirstWinUptoSaid : Prop := fnExactFirstWinUptoRow.holds Try.pinned (OpenSpec.upto fnExactFirstWinSpec)

/-- 'laws.FnExactFirstStuck', WHERE WHAT IT READS IS OF BULK AT MOST 1048576: true; the input reads as it did. -/
def fnExactFirstStuckUptoRow : OpenClaim := { program := "ythgmkkkfhbjhoaa", sum := "afc61717cf1807994f34cbe87e08bc7eacf9960f29ae48a8b2d1032a618e504d", func := "loop.example/g01158/laws.FnExactFirstStuck", spec := "fnExactFirstStuck", unfollowed := true, recurses := true, plainKeys := false, apart := false, narrowed := true }
def FnExactFirstStuckUptoSaid : Prop := fnExactFirstStuckUptoRow.holds Try.pinned (OpenSpec.upto fnExactFirstStuckSpec)

/-- 'laws.FnExactIsSafe', WHERE WHAT IT READS IS OF BULK AT MOST 1048576: true; the input reads as it did. -/
def fnExactIsSafeUptoRow : OpenClaim := { program := "ythgmkkkfhbjhoaa", sum := "afc61717cf1807994f34cbe87e08bc7eacf9960f29ae48a8b2d1032a618e504d", func := "loop.example/g01158/laws.FnExactIsSafe", spec := "fnExactIsSafe", unfollowed := true, recurses := true, plainKeys := false, apart := false, narrowed := true }
def FnExactIsSafeUptoSaid : Prop := fnExactIsSafeUptoRow.holds Try.pinned (OpenSpec.upto fnExactIsSafeSpec)

/-- 'laws.FnExactCountStates', WHERE WHAT IT READS IS OF BULK AT MOST 1048576: true; the input reads as it did. -/
def fnExactCountStatesUptoRow : OpenClaim := { program := "ythgmkkkfhbjhoaa", sum := "afc61717cf1807994f34cbe87e08bc7eacf9960f29ae48a8b2d1032a618e504d", func := "loop.example/g01158/laws.FnExactCountStates", spec := "fnExactCountStates", unfollowed := true, recurses := true, plainKeys := false, apart := false, narrowed := true }
def FnExactCountStatesUptoSaid : Prop := fnExactCountStatesUptoRow.holds Try.pinned (OpenSpec.upto fnExactCountStatesSpec)

/-- 'laws.FnExactHopefulLocks', WHERE WHAT IT READS IS OF BULK AT MOST 1048576: true; the input reads as it did. -/
def fnExactHopefulLocksUptoRow : OpenClaim := { program := "ythgmkkkfhbjhoaa", sum := "afc61717cf1807994f34cbe87e08bc7eacf9960f29ae48a8b2d1032a618e504d", func := "loop.example/g01158/laws.FnExactHopefulLocks", spec := "fnExactHopefulLocks", unfollowed := true, recurses := true, plainKeys := false, apart := false, narrowed := true }
def FnExactHopefulLocksUptoSaid : Prop := fnExactHopefulLocksUptoRow.holds Try.pinned (OpenSpec.upto fnExactHopefulLocksSpec)

/-- 'laws.FnExactLockNeeds', WHERE WHAT IT READS IS OF BULK AT MOST 1048576: true; the input reads as it did. -/
def fnExactLockNeedsUptoRow : OpenClaim := { program := "ythgmkkkfhbjhoaa", sum := "afc61717cf1807994f34cbe87e08bc7eacf9960f29ae48a8b2d1032a618e504d", func := "loop.example/g01158/laws.FnExactLockNeeds", spec := "fnExactLockNeeds", unfollowed := true, recurses := true, plainKeys := false, apart := false, narrowed := true }
def FnExactLockNeedsUptoSaid : Prop := fnExactLockNeedsUptoRow.holds Try.pinned (OpenSpec.upto fnExactLockNeedsSpec)

/-- 'laws.FnExactAllOpened', WHERE WHAT IT READS IS OF BULK AT MOST 1048576: true; the input reads as it did. -/
def fnExactAllOpenedUptoRow : OpenClaim := { program := "ythgmkkkfhbjhoaa", sum := "afc61717cf1807994f34cbe87e08bc7eacf9960f29ae48a8b2d1032a618e504d", func := "loop.example/g01158/laws.FnExactAllOpened", spec := "fnExactAllOpened", unfollowed := true, recurses := true, plainKeys := false, apart := false, narrowed := true }
def FnExactAllOpenedUptoSaid : Prop := fnExactAllOpenedUptoRow.holds Try.pinned (OpenSpec.upto fnExactAllOpenedSpec)

end Rows
end Go.Proofs.Ythgmkkkfhbjhoaa
