/-
  No cell of these rows narrows 'for every input' (looked for: loops, veiled, ifaces, maps, wideKeys, modest, calm, conditions, laid).
  DERIVED. THE GIVEN ROWS OF THIS SEAT. 14 by the template 'for every input the law returns true; each argument reads behind the call as it read before'; 0 by the template 'total and deterministic' (their statements: YtdgfceiobpnchaaTotals.lean).
  GIVEN WITH THE SEED: the statements are not yours to turn. If you find one false, say at which input.
  Laid BY PROGRAM, IN A SANDBOX (cutbox-rows.mjs): the forced cells as the released guide's own fill.sh prints them over the translation df5f66cce3f35632… (all of the seat's roots in one cut). By AI agents, Wed Nov 11 2026. No macro, syntax, notation, axiom, sorry.
-/
import Derived.Test.YtdgfceiobpnchaaChecked
import GoSem.Claim
import GoSem.ClaimJoined
import GoSem.ClaimMapViews
import Derived.JoinedTies
import Derived.KernelRfl
namespace Go.Proofs.Ytdgfceiobpnchaa
/- THE CELL 'sum', in the pinned program and in every row, IS THE sha256 OF THE DUMP (.gsa) THAT YtdgfceiobpnchaaProg.lean LOADS. Nothing in Lean hashes anything: it is a label: what it is worth is what the hold of that sum in a sandbox is worth. -/
noncomputable def Try.pinned : Pinned := { name := "ytdgfceiobpnchaa", sum := "df5f66cce3f356328ba9db08fb617bef65788b76a87394688b21bb1dc424f13e", checked := Try.checked }
namespace Rows
def none {H : Type} : Left H := { results := [], args := [] }

/-- 'laws.FnExactIsWorks': WHATEVER THE INPUT: true; the input reads as it did. -/
def fnExactIsWorksSpec : ChangeSpec := { name := "fnExactIsWorks", fn := fun _ => fun
  | [d] => { results := [.lit (.bool true)], args := [d] }
  | _ => none }
def fnExactIsWorksRow : OpenClaim := { program := "ytdgfceiobpnchaa", sum := "df5f66cce3f356328ba9db08fb617bef65788b76a87394688b21bb1dc424f13e", func := "loop.example/g01158/laws.FnExactIsWorks", spec := "fnExactIsWorks", unfollowed := true, recurses := true, plainKeys := false, apart := false }
def FnExactIsWorksSaid : Prop := fnExactIsWorksRow.holds Try.pinned (OpenSpec.ofChange fnExactIsWorksSpec)

/-- ITS FALSE NEIGHBOUR: 'it returns false'. Refute it at one input. -/
def fnExactIsWorksWrong : ChangeSpec := { name := "fnExactIsWorks", fn := fun _ => fun
  | [d] => { results := [.lit (.bool false)], args := [d] }
  | _ => none }
def FnExactIsWorksWrongFalsely : Prop := fnExactIsWorksRow.holds Try.pinned (OpenSpec.ofChange fnExactIsWorksWrong)

/-- 'laws.FnExactGateOpen': WHATEVER THE INPUT: true; the input reads as it did. -/
def fnExactGateOpenSpec : ChangeSpec := { name := "fnExactGateOpen", fn := fun _ => fun
  | [d1, d2, d3] => { results := [.lit (.bool true)], args := [d1, d2, d3] }
  | _ => none }
def fnExactGateOpenRow : OpenClaim := { program := "ytdgfceiobpnchaa", sum := "df5f66cce3f356328ba9db08fb617bef65788b76a87394688b21bb1dc424f13e", func := "loop.example/g01158/laws.FnExactGateOpen", spec := "fnExactGateOpen", unfollowed := true, recurses := true, plainKeys := false, apart := false }
def FnExactGateOpenSaid : Prop := fnExactGateOpenRow.holds Try.pinned (OpenSpec.ofChange fnExactGateOpenSpec)

/-- ITS FALSE NEIGHBOUR: 'it returns false'. Refute it at one input. -/
def fnExactGateOpenWrong : ChangeSpec := { name := "fnExactGateOpen", fn := fun _ => fun
  | [d1, d2, d3] => { results := [.lit (.bool false)], args := [d1, d2, d3] }
  | _ => none }
def FnExactGateOpenWrongFalsely : Prop := fnExactGateOpenRow.holds Try.pinned (OpenSpec.ofChange fnExactGateOpenWrong)

/-- 'laws.FnExactActsAt': WHATEVER THE INPUT: true; the input reads as it did. -/
def fnExactActsAtSpec : ChangeSpec := { name := "fnExactActsAt", fn := fun _ => fun
  | [d1, d2, d3] => { results := [.lit (.bool true)], args := [d1, d2, d3] }
  | _ => none }
def fnExactActsAtRow : OpenClaim := { program := "ytdgfceiobpnchaa", sum := "df5f66cce3f356328ba9db08fb617bef65788b76a87394688b21bb1dc424f13e", func := "loop.example/g01158/laws.FnExactActsAt", spec := "fnExactActsAt", unfollowed := true, recurses := true, plainKeys := false, apart := false }
def FnExactActsAtSaid : Prop := fnExactActsAtRow.holds Try.pinned (OpenSpec.ofChange fnExactActsAtSpec)

/-- ITS FALSE NEIGHBOUR: 'it returns false'. Refute it at one input. -/
def fnExactActsAtWrong : ChangeSpec := { name := "fnExactActsAt", fn := fun _ => fun
  | [d1, d2, d3] => { results := [.lit (.bool false)], args := [d1, d2, d3] }
  | _ => none }
def FnExactActsAtWrongFalsely : Prop := fnExactActsAtRow.holds Try.pinned (OpenSpec.ofChange fnExactActsAtWrong)

/-- 'laws.FnExactDoAct': WHATEVER THE INPUT: true; the input reads as it did. -/
def fnExactDoActSpec : ChangeSpec := { name := "fnExactDoAct", fn := fun _ => fun
  | [d1, d2, d3, d4] => { results := [.lit (.bool true)], args := [d1, d2, d3, d4] }
  | _ => none }
def fnExactDoActRow : OpenClaim := { program := "ytdgfceiobpnchaa", sum := "df5f66cce3f356328ba9db08fb617bef65788b76a87394688b21bb1dc424f13e", func := "loop.example/g01158/laws.FnExactDoAct", spec := "fnExactDoAct", unfollowed := true, recurses := true, plainKeys := false, apart := false }
def FnExactDoActSaid : Prop := fnExactDoActRow.holds Try.pinned (OpenSpec.ofChange fnExactDoActSpec)

/-- ITS FALSE NEIGHBOUR: 'it returns false'. Refute it at one input. -/
def fnExactDoActWrong : ChangeSpec := { name := "fnExactDoAct", fn := fun _ => fun
  | [d1, d2, d3, d4] => { results := [.lit (.bool false)], args := [d1, d2, d3, d4] }
  | _ => none }
def FnExactDoActWrongFalsely : Prop := fnExactDoActRow.holds Try.pinned (OpenSpec.ofChange fnExactDoActWrong)

/-- 'laws.FnExactIsPlan': WHATEVER THE INPUT: true; the input reads as it did. -/
def fnExactIsPlanSpec : ChangeSpec := { name := "fnExactIsPlan", fn := fun _ => fun
  | [d1, d2] => { results := [.lit (.bool true)], args := [d1, d2] }
  | _ => none }
def fnExactIsPlanRow : OpenClaim := { program := "ytdgfceiobpnchaa", sum := "df5f66cce3f356328ba9db08fb617bef65788b76a87394688b21bb1dc424f13e", func := "loop.example/g01158/laws.FnExactIsPlan", spec := "fnExactIsPlan", unfollowed := true, recurses := true, plainKeys := false, apart := false }
def FnExactIsPlanSaid : Prop := fnExactIsPlanRow.holds Try.pinned (OpenSpec.ofChange fnExactIsPlanSpec)

/-- ITS FALSE NEIGHBOUR: 'it returns false'. Refute it at one input. -/
def fnExactIsPlanWrong : ChangeSpec := { name := "fnExactIsPlan", fn := fun _ => fun
  | [d1, d2] => { results := [.lit (.bool false)], args := [d1, d2] }
  | _ => none }
def FnExactIsPlanWrongFalsely : Prop := fnExactIsPlanRow.holds Try.pinned (OpenSpec.ofChange fnExactIsPlanWrong)

/-- 'laws.FnExactRunPlan': WHATEVER THE INPUT: true; the input reads as it did. -/
def fnExactRunPlanSpec : ChangeSpec := { name := "fnExactRunPlan", fn := fun _ => fun
  | [d1, d2] => { results := [.lit (.bool true)], args := [d1, d2] }
  | _ => none }
def fnExactRunPlanRow : OpenClaim := { program := "ytdgfceiobpnchaa", sum := "df5f66cce3f356328ba9db08fb617bef65788b76a87394688b21bb1dc424f13e", func := "loop.example/g01158/laws.FnExactRunPlan", spec := "fnExactRunPlan", unfollowed := true, recurses := true, plainKeys := false, apart := false }
def FnExactRunPlanSaid : Prop := fnExactRunPlanRow.holds Try.pinned (OpenSpec.ofChange fnExactRunPlanSpec)

/-- ITS FALSE NEIGHBOUR: 'it returns false'. Refute it at one input. -/
def fnExactRunPlanWrong : ChangeSpec := { name := "fnExactRunPlan", fn := fun _ => fun
  | [d1, d2] => { results := [.lit (.bool false)], args := [d1, d2] }
  | _ => none }
def FnExactRunPlanWrongFalsely : Prop := fnExactRunPlanRow.holds Try.pinned (OpenSpec.ofChange fnExactRunPlanWrong)

/-- 'laws.FnExactFewestActs': WHATEVER THE INPUT: true; the input reads as it did. -/
def fnExactFewestActsSpec : ChangeSpec := { name := "fnExactFewestActs", fn := fun _ => fun
  | [d] => { results := [.lit (.bool true)], args := [d] }
  | _ => none }
def fnExactFewestActsRow : OpenClaim := { program := "ytdgfceiobpnchaa", sum := "df5f66cce3f356328ba9db08fb617bef65788b76a87394688b21bb1dc424f13e", func := "loop.example/g01158/laws.FnExactFewestActs", spec := "fnExactFewestActs", unfollowed := true, recurses := true, plainKeys := false, apart := false }
def FnExactFewestActsSaid : Prop := fnExactFewestActsRow.holds Try.pinned (OpenSpec.ofChange fnExactFewestActsSpec)

/-- ITS FALSE NEIGHBOUR: 'it returns false'. Refute it at one input. -/
def fnExactFewestActsWrong : ChangeSpec := { name := "fnExactFewestActs", fn := fun _ => fun
  | [d] => { results := [.lit (.bool false)], args := [d] }
  | _ => none }
def FnExactFewestActsWrongFalsely : Prop := fnExactFewestActsRow.holds Try.pinned (OpenSpec.ofChange fnExactFewestActsWrong)

/-- 'laws.FnExactFirstPlan': WHATEVER THE INPUT: true; the input reads as it did. -/
def fnExactFirstPlanSpec : ChangeSpec := { name := "fnExactFirstPlan", fn := fun _ => fun
  | [d] => { results := [.lit (.bool true)], args := [d] }
  | _ => none }
def fnExactFirstPlanRow : OpenClaim := { program := "ytdgfceiobpnchaa", sum := "df5f66cce3f356328ba9db08fb617bef65788b76a87394688b21bb1dc424f13e", func := "loop.example/g01158/laws.FnExactFirstPlan", spec := "fnExactFirstPlan", unfollowed := true, recurses := true, plainKeys := false, apart := false }
def FnExactFirstPlanSaid : Prop := fnExactFirstPlanRow.holds Try.pinned (OpenSpec.ofChange fnExactFirstPlanSpec)

/-- ITS FALSE NEIGHBOUR: 'it returns false'. Refute it at one input. -/
def fnExactFirstPlanWrong : ChangeSpec := { name := "fnExactFirstPlan", fn := fun _ => fun
  | [d] => { results := [.lit (.bool false)], args := [d] }
  | _ => none }
def FnExactFirstPlanWrongFalsely : Prop := fnExactFirstPlanRow.holds Try.pinned (OpenSpec.ofChange fnExactFirstPlanWrong)

/-- 'laws.FnExactCountVisits': WHATEVER THE INPUT: true; the input reads as it did. -/
def fnExactCountVisitsSpec : ChangeSpec := { name := "fnExactCountVisits", fn := fun _ => fun
  | [d] => { results := [.lit (.bool true)], args := [d] }
  | _ => none }
def fnExactCountVisitsRow : OpenClaim := { program := "ytdgfceiobpnchaa", sum := "df5f66cce3f356328ba9db08fb617bef65788b76a87394688b21bb1dc424f13e", func := "loop.example/g01158/laws.FnExactCountVisits", spec := "fnExactCountVisits", unfollowed := true, recurses := true, plainKeys := false, apart := false }
def FnExactCountVisitsSaid : Prop := fnExactCountVisitsRow.holds Try.pinned (OpenSpec.ofChange fnExactCountVisitsSpec)

/-- ITS FALSE NEIGHBOUR: 'it returns false'. Refute it at one input. -/
def fnExactCountVisitsWrong : ChangeSpec := { name := "fnExactCountVisits", fn := fun _ => fun
  | [d] => { results := [.lit (.bool false)], args := [d] }
  | _ => none }
def FnExactCountVisitsWrongFalsely : Prop := fnExactCountVisitsRow.holds Try.pinned (OpenSpec.ofChange fnExactCountVisitsWrong)

/-- 'laws.FnExactReachTable': WHATEVER THE INPUT: true; the input reads as it did. -/
def fnExactReachTableSpec : ChangeSpec := { name := "fnExactReachTable", fn := fun _ => fun
  | [d] => { results := [.lit (.bool true)], args := [d] }
  | _ => none }
def fnExactReachTableRow : OpenClaim := { program := "ytdgfceiobpnchaa", sum := "df5f66cce3f356328ba9db08fb617bef65788b76a87394688b21bb1dc424f13e", func := "loop.example/g01158/laws.FnExactReachTable", spec := "fnExactReachTable", unfollowed := true, recurses := true, plainKeys := false, apart := false }
def FnExactReachTableSaid : Prop := fnExactReachTableRow.holds Try.pinned (OpenSpec.ofChange fnExactReachTableSpec)

/-- ITS FALSE NEIGHBOUR: 'it returns false'. Refute it at one input. -/
def fnExactReachTableWrong : ChangeSpec := { name := "fnExactReachTable", fn := fun _ => fun
  | [d] => { results := [.lit (.bool false)], args := [d] }
  | _ => none }
def FnExactReachTableWrongFalsely : Prop := fnExactReachTableRow.holds Try.pinned (OpenSpec.ofChange fnExactReachTableWrong)

/-- 'laws.FnExactFewestPulls': WHATEVER THE INPUT: true; the input reads as it did. -/
def fnExactFewestPullsSpec : ChangeSpec := { name := "fnExactFewestPulls", fn := fun _ => fun
  | [d] => { results := [.lit (.bool true)], args := [d] }
  | _ => none }
def fnExactFewestPullsRow : OpenClaim := { program := "ytdgfceiobpnchaa", sum := "df5f66cce3f356328ba9db08fb617bef65788b76a87394688b21bb1dc424f13e", func := "loop.example/g01158/laws.FnExactFewestPulls", spec := "fnExactFewestPulls", unfollowed := true, recurses := true, plainKeys := false, apart := false }
def FnExactFewestPullsSaid : Prop := fnExactFewestPullsRow.holds Try.pinned (OpenSpec.ofChange fnExactFewestPullsSpec)

/-- ITS FALSE NEIGHBOUR: 'it returns false'. Refute it at one input. -/
def fnExactFewestPullsWrong : ChangeSpec := { name := "fnExactFewestPulls", fn := fun _ => fun
  | [d] => { results := [.lit (.bool false)], args := [d] }
  | _ => none }
def FnExactFewestPullsWrongFalsely : Prop := fnExactFewestPullsRow.holds Try.pinned (OpenSpec.ofChange fnExactFewestPullsWrong)

/-- 'laws.FnExactSpanOfPulls': WHATEVER THE INPUT: true; the input reads as it did. -/
def fnExactSpanOfPullsSpec : ChangeSpec := { name := "fnExactSpanOfPulls", fn := fun _ => fun
  | [d] => { results := [.lit (.bool true)], args := [d] }
  | _ => none }
def fnExactSpanOfPullsRow : OpenClaim := { program := "ytdgfceiobpnchaa", sum := "df5f66cce3f356328ba9db08fb617bef65788b76a87394688b21bb1dc424f13e", func := "loop.example/g01158/laws.FnExactSpanOfPulls", spec := "fnExactSpanOfPulls", unfollowed := true, recurses := true, plainKeys := false, apart := false }
def FnExactSpanOfPullsSaid : Prop := fnExactSpanOfPullsRow.holds Try.pinned (OpenSpec.ofChange fnExactSpanOfPullsSpec)

/-- ITS FALSE NEIGHBOUR: 'it returns false'. Refute it at one input. -/
def fnExactSpanOfPullsWrong : ChangeSpec := { name := "fnExactSpanOfPulls", fn := fun _ => fun
  | [d] => { results := [.lit (.bool false)], args := [d] }
  | _ => none }
def FnExactSpanOfPullsWrongFalsely : Prop := fnExactSpanOfPullsRow.holds Try.pinned (OpenSpec.ofChange fnExactSpanOfPullsWrong)

/-- 'laws.FnExactAreApart': WHATEVER THE INPUT: true; the input reads as it did. -/
def fnExactAreApartSpec : ChangeSpec := { name := "fnExactAreApart", fn := fun _ => fun
  | [d1, d2, d3, d4, d5] => { results := [.lit (.bool true)], args := [d1, d2, d3, d4, d5] }
  | _ => none }
def fnExactAreApartRow : OpenClaim := { program := "ytdgfceiobpnchaa", sum := "df5f66cce3f356328ba9db08fb617bef65788b76a87394688b21bb1dc424f13e", func := "loop.example/g01158/laws.FnExactAreApart", spec := "fnExactAreApart", unfollowed := true, recurses := true, plainKeys := false, apart := false }
def FnExactAreApartSaid : Prop := fnExactAreApartRow.holds Try.pinned (OpenSpec.ofChange fnExactAreApartSpec)

/-- ITS FALSE NEIGHBOUR: 'it returns false'. Refute it at one input. -/
def fnExactAreApartWrong : ChangeSpec := { name := "fnExactAreApart", fn := fun _ => fun
  | [d1, d2, d3, d4, d5] => { results := [.lit (.bool false)], args := [d1, d2, d3, d4, d5] }
  | _ => none }
def FnExactAreApartWrongFalsely : Prop := fnExactAreApartRow.holds Try.pinned (OpenSpec.ofChange fnExactAreApartWrong)

/-- 'laws.FnExactTurnLevers': WHATEVER THE INPUT: true; the input reads as it did. -/
def fnExactTurnLeversSpec : ChangeSpec := { name := "fnExactTurnLevers", fn := fun _ => fun
  | [d1, d2] => { results := [.lit (.bool true)], args := [d1, d2] }
  | _ => none }
def fnExactTurnLeversRow : OpenClaim := { program := "ytdgfceiobpnchaa", sum := "df5f66cce3f356328ba9db08fb617bef65788b76a87394688b21bb1dc424f13e", func := "loop.example/g01158/laws.FnExactTurnLevers", spec := "fnExactTurnLevers", unfollowed := true, recurses := true, plainKeys := false, apart := false }
def FnExactTurnLeversSaid : Prop := fnExactTurnLeversRow.holds Try.pinned (OpenSpec.ofChange fnExactTurnLeversSpec)

/-- ITS FALSE NEIGHBOUR: 'it returns false'. Refute it at one input. -/
def fnExactTurnLeversWrong : ChangeSpec := { name := "fnExactTurnLevers", fn := fun _ => fun
  | [d1, d2] => { results := [.lit (.bool false)], args := [d1, d2] }
  | _ => none }
def FnExactTurnLeversWrongFalsely : Prop := fnExactTurnLeversRow.holds Try.pinned (OpenSpec.ofChange fnExactTurnLeversWrong)

/- THE SECOND FORM. 'bulk': how many values and letters a reading holds, each counted each time it is reached (what is shared counts as often as it is met; a slice's spare places count too). A statement '..UptoSaid' is the law's where the arguments, and the package variables that the reading takes, are together of bulk at most 1048576: NARROWER than '..Said'. Prove '..Said' where nothing that the law and all that it calls make is longer than what came in: it says more and counts as full. Else prove '..UptoSaid'. A law counts once. -/
mutual
def uptoBulk {H : Type} : DataW H → Nat
  | .lit (.string bytes) => bytes.length + 1
  | .lit _ => 1
  | .nil => 1
  | .ptr d => uptoBulk d + 1
  | .slice elems spare => uptoBulkAll elems + uptoBulkAll spare + 1
  | .agg parts => uptoBulkAll parts + 1
  | .iface _ d => uptoBulk d + 1
  | .map entries => uptoBulkEntries entries + 1
  | .held _ => 1
def uptoBulkAll {H : Type} : List (DataW H) → Nat
  | [] => 0
  | d :: r => uptoBulk d + uptoBulkAll r
def uptoBulkEntries {H : Type} : List (Lit × DataW H) → Nat
  | [] => 0
  | x :: r => uptoBulkEntry x + uptoBulkEntries r
def uptoBulkEntry {H : Type} : Lit × DataW H → Nat
  | (.string bytes, d) => bytes.length + uptoBulk d + 1
  | (_, d) => uptoBulk d + 1
 end
def uptoSmall : (H : Type) → List (DataW H) → Bool := fun _ ds => decide (uptoBulkAll ds ≤ 1048576)
def OpenSpec.upto (s : _root_.Go.ChangeSpec) : _root_.Go.OpenSpec := { _root_.Go.OpenSpec.ofChange s with cond := some uptoSmall }

/-- 'laws.FnExactIsWorks', WHERE WHAT IT READS IS OF BULK AT MOST 1048576: true; the input reads as it did. -/
def fnExactIsWorksUptoRow : OpenClaim := { program := "ytdgfceiobpnchaa", sum := "df5f66cce3f356328ba9db08fb617bef65788b76a87394688b21bb1dc424f13e", func := "loop.example/g01158/laws.FnExactIsWorks", spec := "fnExactIsWorks", unfollowed := true, recurses := true, plainKeys := false, apart := false, narrowed := true }
def FnExactIsWorksUptoSaid : Prop := fnExactIsWorksUptoRow.holds Try.pinned (OpenSpec.upto fnExactIsWorksSpec)

/-- 'laws.FnExactGateOpen', WHERE WHAT IT READS IS OF BULK AT MOST 1048576: true; the input reads as it did. -/
def fnExactGateOpenUptoRow : OpenClaim := { program := "ytdgfceiobpnchaa", sum := "df5f66cce3f356328ba9db08fb617bef65788b76a87394688b21bb1dc424f13e", func := "loop.example/g01158/laws.FnExactGateOpen", spec := "fnExactGateOpen", unfollowed := true, recurses := true, plainKeys := false, apart := false, narrowed := true }
def FnExactGateOpenUptoSaid : Prop := fnExactGateOpenUptoRow.holds Try.pinned (OpenSpec.upto fnExactGateOpenSpec)

/-- 'laws.FnExactActsAt', WHERE WHAT IT READS IS OF BULK AT MOST 1048576: true; the input reads as it did. -/
def fnExactActsAtUptoRow : OpenClaim := { program := "ytdgfceiobpnchaa", sum := "df5f66cce3f356328ba9db08fb617bef65788b76a87394688b21bb1dc424f13e", func := "loop.example/g01158/laws.FnExactActsAt", spec := "fnExactActsAt", unfollowed := true, recurses := true, plainKeys := false, apart := false, narrowed := true }
def FnExactActsAtUptoSaid : Prop := fnExactActsAtUptoRow.holds Try.pinned (OpenSpec.upto fnExactActsAtSpec)

/-- 'laws.FnExactDoAct', WHERE WHAT IT READS IS OF BULK AT MOST 1048576: true; the input reads as it did. -/
def fnExactDoActUptoRow : OpenClaim := { program := "ytdgfceiobpnchaa", sum := "df5f66cce3f356328ba9db08fb617bef65788b76a87394688b21bb1dc424f13e", func := "loop.example/g01158/laws.FnExactDoAct", spec := "fnExactDoAct", unfollowed := true, recurses := true, plainKeys := false, apart := false, narrowed := true }
def FnExactDoActUptoSaid : Prop := fnExactDoActUptoRow.holds Try.pinned (OpenSpec.upto fnExactDoActSpec)

/-- 'laws.FnExactIsPlan', WHERE WHAT IT READS IS OF BULK AT MOST 1048576: true; the input reads as it did. -/
def fnExactIsPlanUptoRow : OpenClaim := { program := "ytdgfceiobpnchaa", sum := "df5f66cce3f356328ba9db08fb617bef65788b76a87394688b21bb1dc424f13e", func := "loop.example/g01158/laws.FnExactIsPlan", spec := "fnExactIsPlan", unfollowed := true, recurses := true, plainKeys := false, apart := false, narrowed := true }
def FnExactIsPlanUptoSaid : Prop := fnExactIsPlanUptoRow.holds Try.pinned (OpenSpec.upto fnExactIsPlanSpec)

/-- 'laws.FnExactRunPlan', WHERE WHAT IT READS IS OF BULK AT MOST 1048576: true; the input reads as it did. -/
def fnExactRunPlanUptoRow : OpenClaim := { program := "ytdgfceiobpnchaa", sum := "df5f66cce3f356328ba9db08fb617bef65788b76a87394688b21bb1dc424f13e", func := "loop.example/g01158/laws.FnExactRunPlan", spec := "fnExactRunPlan", unfollowed := true, recurses := true, plainKeys := false, apart := false, narrowed := true }
def FnExactRunPlanUptoSaid : Prop := fnExactRunPlanUptoRow.holds Try.pinned (OpenSpec.upto fnExactRunPlanSpec)

/-- 'laws.FnExactFewestActs', WHERE WHAT IT READS IS OF BULK AT MOST 1048576: true; the input reads as it did. -/
def fnExactFewestActsUptoRow : OpenClaim := { program := "ytdgfceiobpnchaa", sum := "df5f66cce3f356328ba9db08fb617bef65788b76a87394688b21bb1dc424f13e", func := "loop.example/g01158/laws.FnExactFewestActs", spec := "fnExactFewestActs", unfollowed := true, recurses := true, plainKeys := false, apart := false, narrowed := true }
def FnExactFewestActsUptoSaid : Prop := fnExactFewestActsUptoRow.holds Try.pinned (OpenSpec.upto fnExactFewestActsSpec)

/-- 'laws.FnExactFirstPlan', WHERE WHAT IT READS IS OF BULK AT MOST 1048576: true; the input reads as it did. -/
def fnExactFirstPlanUptoRow : OpenClaim := { program := "ytdgfceiobpnchaa", sum := "df5f66cce3f356328ba9db08fb617bef65788b76a87394688b21bb1dc424f13e", func := "loop.example/g01158/laws.FnExactFirstPlan", spec := "fnExactFirstPlan", unfollowed := true, recurses := true, plainKeys := false, apart := false, narrowed := true }
def FnExactFirstPlanUptoSaid : Prop := fnExactFirstPlanUptoRow.holds Try.pinned (OpenSpec.upto fnExactFirstPlanSpec)

/-- 'laws.FnExactCountVisits', WHERE WHAT IT READS IS OF BULK AT MOST 1048576: true; the input reads as it did. -/
def fnExactCountVisitsUptoRow : OpenClaim := { program := "ytdgfceiobpnchaa", sum := "df5f66cce3f356328ba9db08fb617bef65788b76a87394688b21bb1dc424f13e", func := "loop.example/g01158/laws.FnExactCountVisits", spec := "fnExactCountVisits", unfollowed := true, recurses := true, plainKeys := false, apart := false, narrowed := true }
def FnExactCountVisitsUptoSaid : Prop := fnExactCountVisitsUptoRow.holds Try.pinned (OpenSpec.upto fnExactCountVisitsSpec)

/-- 'laws.FnExactReachTable', WHERE WHAT IT READS IS OF BULK AT MOST 1048576: true; the input reads as it did. -/
def fnExactReachTableUptoRow : OpenClaim := { program := "ytdgfceiobpnchaa", sum := "df5f66cce3f356328ba9db08fb617bef65788b76a87394688b21bb1dc424f13e", func := "loop.example/g01158/laws.FnExactReachTable", spec := "fnExactReachTable", unfollowed := true, recurses := true, plainKeys := false, apart := false, narrowed := true }
def FnExactReachTableUptoSaid : Prop := fnExactReachTableUptoRow.holds Try.pinned (OpenSpec.upto fnExactReachTableSpec)

/-- 'laws.FnExactFewestPulls', WHERE WHAT IT READS IS OF BULK AT MOST 1048576: true; the input reads as it did. -/
def fnExactFewestPullsUptoRow : OpenClaim := { program := "ytdgfceiobpnchaa", sum := "df5f66cce3f356328ba9db08fb617bef65788b76a87394688b21bb1dc424f13e", func := "loop.example/g01158/laws.FnExactFewestPulls", spec := "fnExactFewestPulls", unfollowed := true, recurses := true, plainKeys := false, apart := false, narrowed := true }
def FnExactFewestPullsUptoSaid : Prop := fnExactFewestPullsUptoRow.holds Try.pinned (OpenSpec.upto fnExactFewestPullsSpec)

/-- 'laws.FnExactSpanOfPulls', WHERE WHAT IT READS IS OF BULK AT MOST 1048576: true; the input reads as it did. -/
def fnExactSpanOfPullsUptoRow : OpenClaim := { program := "ytdgfceiobpnchaa", sum := "df5f66cce3f356328ba9db08fb617bef65788b76a87394688b21bb1dc424f13e", func := "loop.example/g01158/laws.FnExactSpanOfPulls", spec := "fnExactSpanOfPulls", unfollowed := true, recurses := true, plainKeys := false, apart := false, narrowed := true }
def FnExactSpanOfPullsUptoSaid : Prop := fnExactSpanOfPullsUptoRow.holds Try.pinned (OpenSpec.upto fnExactSpanOfPullsSpec)

/-- 'laws.FnExactAreApart', WHERE WHAT IT READS IS OF BULK AT MOST 1048576: true; the input reads as it did. -/
def fnExactAreApartUptoRow : OpenClaim := { program := "ytdgfceiobpnchaa", sum := "df5f66cce3f356328ba9db08fb617bef65788b76a87394688b21bb1dc424f13e", func := "loop.example/g01158/laws.FnExactAreApart", spec := "fnExactAreApart", unfollowed := true, recurses := true, plainKeys := false, apart := false, narrowed := true }
def FnExactAreApartUptoSaid : Prop := fnExactAreApartUptoRow.holds Try.pinned (OpenSpec.upto fnExactAreApartSpec)

/-- 'laws.FnExactTurnLevers', WHERE WHAT IT READS IS OF BULK AT MOST 1048576: true; the input reads as it did. -/
def fnExactTurnLeversUptoRow : OpenClaim := { program := "ytdgfceiobpnchaa", sum := "df5f66cce3f356328ba9db08fb617bef65788b76a87394688b21bb1dc424f13e", func := "loop.example/g01158/laws.FnExactTurnLevers", spec := "fnExactTurnLevers", unfollowed := true, recurses := true, plainKeys := false, apart := false, narrowed := true }
def FnExactTurnLeversUptoSaid : Prop := fnExactTurnLeversUptoRow.holds Try.pinned (OpenSpec.upto fnExactTurnLeversSpec)

end Rows
end Go.Proofs.Ytdgfceiobpnchaa
