/-
  No cell of these rows narrows 'for every input' (looked for: loops, veiled, ifaces, maps, wideKeys, modest, calm, conditions, laid).
  DERIVED. THE GIVEN ROWS OF THIS SEAT. 5 by the template 'for every input the law returns true; each argument reads behind the call as it read before'; 0 by the template 'total and deterministic' (their statements: YtmccpjdgnenmeaaTotals.lean).
  GIVEN WITH THE SEED: the statements are not yours to turn. If you find one false, say at which input.
  Laid BY PROGRAM, IN A SANDBOX (cutbox-rows.mjs): the forced cells as the released guide's own fill.sh prints them over the translation dc9dab0663b7dd79… (all of the seat's roots in one cut). By AI agents, Wed Nov 11 2026. No macro, syntax, notation, axiom, sorry.
-/
import Derived.Test.YtmccpjdgnenmeaaChecked
import GoSem.Claim
import GoSem.ClaimJoined
import GoSem.ClaimMapViews
import Derived.JoinedTies
import Derived.KernelRfl
namespace Go.Proofs.Ytmccpjdgnenmeaa
/- THE CELL 'sum', in the pinned program and in every row, IS THE sha256 OF THE DUMP (.gsa) THAT YtmccpjdgnenmeaaProg.lean LOADS. Nothing in Lean hashes anything: it is a label: what it is worth is what the hold of that sum in a sandbox is worth. -/
noncomputable def Try.pinned : Pinned := { name := "ytmccpjdgnenmeaa", sum := "dc9dab0663b7dd79753832beab6c5f88c27aa3746f2fbba8763c5d21fb95bcb5", checked := Try.checked }
namespace Rows
def none {H : Type} : Left H := { results := [], args := [] }

/-- 'laws.FnWithout': WHATEVER THE INPUT: true; the input reads as it did. -/
def fnWithoutSpec : ChangeSpec := { name := "fnWithout", fn := fun _ => fun
  | [d] => { results := [.lit (.bool true)], args := [d] }
  | _ => none }
def fnWithoutRow : OpenClaim := { program := "ytmccpjdgnenmeaa", sum := "dc9dab0663b7dd79753832beab6c5f88c27aa3746f2fbba8763c5d21fb95bcb5", func := "loop.example/g01158/laws.FnWithout", spec := "fnWithout", unfollowed := true, recurses := true, apart := false }
def FnWithoutSaid : Prop := fnWithoutRow.holds Try.pinned (OpenSpec.ofChange fnWithoutSpec)

/-- ITS FALSE NEIGHBOUR: 'it returns false'. Refute it at one input. -/
def fnWithoutWrong : ChangeSpec := { name := "fnWithout", fn := fun _ => fun
  | [d] => { results := [.lit (.bool false)], args := [d] }
  | _ => none }
def FnWithoutWrongFalsely : Prop := fnWithoutRow.holds Try.pinned (OpenSpec.ofChange fnWithoutWrong)

/-- 'laws.FnExactMirrorMaze': WHATEVER THE INPUT: true; the input reads as it did. -/
def fnExactMirrorMazeSpec : ChangeSpec := { name := "fnExactMirrorMaze", fn := fun _ => fun
  | [d] => { results := [.lit (.bool true)], args := [d] }
  | _ => none }
def fnExactMirrorMazeRow : OpenClaim := { program := "ytmccpjdgnenmeaa", sum := "dc9dab0663b7dd79753832beab6c5f88c27aa3746f2fbba8763c5d21fb95bcb5", func := "loop.example/g01158/laws.FnExactMirrorMaze", spec := "fnExactMirrorMaze", unfollowed := true, recurses := true, apart := false }
def FnExactMirrorMazeSaid : Prop := fnExactMirrorMazeRow.holds Try.pinned (OpenSpec.ofChange fnExactMirrorMazeSpec)

/-- ITS FALSE NEIGHBOUR: 'it returns false'. Refute it at one input. -/
def fnExactMirrorMazeWrong : ChangeSpec := { name := "fnExactMirrorMaze", fn := fun _ => fun
  | [d] => { results := [.lit (.bool false)], args := [d] }
  | _ => none }
def FnExactMirrorMazeWrongFalsely : Prop := fnExactMirrorMazeRow.holds Try.pinned (OpenSpec.ofChange fnExactMirrorMazeWrong)

/-- 'laws.FnExactNumberMaze': WHATEVER THE INPUT: true; the input reads as it did. -/
def fnExactNumberMazeSpec : ChangeSpec := { name := "fnExactNumberMaze", fn := fun _ => fun
  | [d1, d2] => { results := [.lit (.bool true)], args := [d1, d2] }
  | _ => none }
def fnExactNumberMazeRow : OpenClaim := { program := "ytmccpjdgnenmeaa", sum := "dc9dab0663b7dd79753832beab6c5f88c27aa3746f2fbba8763c5d21fb95bcb5", func := "loop.example/g01158/laws.FnExactNumberMaze", spec := "fnExactNumberMaze", unfollowed := true, recurses := true, apart := false }
def FnExactNumberMazeSaid : Prop := fnExactNumberMazeRow.holds Try.pinned (OpenSpec.ofChange fnExactNumberMazeSpec)

/-- ITS FALSE NEIGHBOUR: 'it returns false'. Refute it at one input. -/
def fnExactNumberMazeWrong : ChangeSpec := { name := "fnExactNumberMaze", fn := fun _ => fun
  | [d1, d2] => { results := [.lit (.bool false)], args := [d1, d2] }
  | _ => none }
def FnExactNumberMazeWrongFalsely : Prop := fnExactNumberMazeRow.holds Try.pinned (OpenSpec.ofChange fnExactNumberMazeWrong)

/-- 'laws.FnExactJoinMazes': WHATEVER THE INPUT: true; the input reads as it did. -/
def fnExactJoinMazesSpec : ChangeSpec := { name := "fnExactJoinMazes", fn := fun _ => fun
  | [d1, d2] => { results := [.lit (.bool true)], args := [d1, d2] }
  | _ => none }
def fnExactJoinMazesRow : OpenClaim := { program := "ytmccpjdgnenmeaa", sum := "dc9dab0663b7dd79753832beab6c5f88c27aa3746f2fbba8763c5d21fb95bcb5", func := "loop.example/g01158/laws.FnExactJoinMazes", spec := "fnExactJoinMazes", unfollowed := true, recurses := true, apart := false }
def FnExactJoinMazesSaid : Prop := fnExactJoinMazesRow.holds Try.pinned (OpenSpec.ofChange fnExactJoinMazesSpec)

/-- ITS FALSE NEIGHBOUR: 'it returns false'. Refute it at one input. -/
def fnExactJoinMazesWrong : ChangeSpec := { name := "fnExactJoinMazes", fn := fun _ => fun
  | [d1, d2] => { results := [.lit (.bool false)], args := [d1, d2] }
  | _ => none }
def FnExactJoinMazesWrongFalsely : Prop := fnExactJoinMazesRow.holds Try.pinned (OpenSpec.ofChange fnExactJoinMazesWrong)

/-- 'laws.FnExactRepaintMaze': WHATEVER THE INPUT: true; the input reads as it did. -/
def fnExactRepaintMazeSpec : ChangeSpec := { name := "fnExactRepaintMaze", fn := fun _ => fun
  | [d1, d2] => { results := [.lit (.bool true)], args := [d1, d2] }
  | _ => none }
def fnExactRepaintMazeRow : OpenClaim := { program := "ytmccpjdgnenmeaa", sum := "dc9dab0663b7dd79753832beab6c5f88c27aa3746f2fbba8763c5d21fb95bcb5", func := "loop.example/g01158/laws.FnExactRepaintMaze", spec := "fnExactRepaintMaze", unfollowed := true, recurses := true, apart := false }
def FnExactRepaintMazeSaid : Prop := fnExactRepaintMazeRow.holds Try.pinned (OpenSpec.ofChange fnExactRepaintMazeSpec)

/-- ITS FALSE NEIGHBOUR: 'it returns false'. Refute it at one input. -/
def fnExactRepaintMazeWrong : ChangeSpec := { name := "fnExactRepaintMaze", fn := fun _ => fun
  | [d1, d2] => { results := [.lit (.bool false)], args := [d1, d2] }
  | _ => none }
def FnExactRepaintMazeWrongFalsely : Prop := fnExactRepaintMazeRow.holds Try.pinned (OpenSpec.ofChange fnExactRepaintMazeWrong)

/- THE SECOND FORM. 'bulk': how many values and letters a reading holds, each counted each time it is reached (what is shared counts as often as it is met; a slice's spare places count too). A statement '..UptoSaid' is the law's where the arguments, and the package variables that the reading takes, are together of bulk at most 1048576: NARROWER than '..Said'. Prove '..Said' where nothing that the law and all that it calls make is longer than what came in: it says more and counts as full. Else prove '..UptoSaid'. A law counts once. -/
mutual
def uptoBulk {H : Type} : DataW H → Nat
  | .lit (.string bytes) => bytes.length + 1
  | .lit _ => 1
  | .nil => 1
  | .ptr d => uptoBulk d + 1
  | .slice elems spare => uptoBulkAll elems + uptoBulkAll spare + 1
  | .agg parts => uptoBulkAll parts + 1
  | .iface _ d => uptoBulk d + 1
  | .map entries => uptoBulkEntries entries + 1
  | .held _ => 1
def uptoBulkAll {H : Type} : List (DataW H) → Nat
  | [] => 0
  | d :: r => uptoBulk d + uptoBulkAll r
def uptoBulkEntries {H : Type} : List (Lit × DataW H) → Nat
  | [] => 0
  | x :: r => uptoBulkEntry x + uptoBulkEntries r
def uptoBulkEntry {H : Type} : Lit × DataW H → Nat
  | (.string bytes, d) => bytes.length + uptoBulk d + 1
  | (_, d) => uptoBulk d + 1
 end
def uptoSmall : (H : Type) → List (DataW H) → Bool := fun _ ds => decide (uptoBulkAll ds ≤ 1048576)
def OpenSpec.upto (s : _root_.Go.ChangeSpec) : _root_.Go.OpenSpec := { _root_.Go.OpenSpec.ofChange s with cond := some uptoSmall }

/-- 'laws.FnWithout', WHERE WHAT IT READS IS OF BULK AT MOST 1048576: true; the input reads as it did. -/
def fnWithoutUptoRow : OpenClaim := { program := "ytmccpjdgnenmeaa", sum := "dc9dab0663b7dd79753832beab6c5f88c27aa3746f2fbba8763c5d21fb95bcb5", func := "loop.example/g01158/laws.FnWithout", spec := "fnWithout", unfollowed := true, recurses := true, apart := false, narrowed := true }
def FnWithoutUptoSaid : Prop := fnWithoutUptoRow.holds Try.pinned (OpenSpec.upto fnWithoutSpec)

/-- 'laws.FnExactMirrorMaze', WHERE WHAT IT READS IS OF BULK AT MOST 1048576: true; the input reads as it did. -/
def fnExactMirrorMazeUptoRow : OpenClaim := { program := "ytmccpjdgnenmeaa", sum := "dc9dab0663b7dd79753832beab6c5f88c27aa3746f2fbba8763c5d21fb95bcb5", func := "loop.example/g01158/laws.FnExactMirrorMaze", spec := "fnExactMirrorMaze", unfollowed := true, recurses := true, apart := false, narrowed := true }
def FnExactMirrorMazeUptoSaid : Prop := fnExactMirrorMazeUptoRow.holds Try.pinned (OpenSpec.upto fnExactMirrorMazeSpec)

/-- 'laws.FnExactNumberMaze', WHERE WHAT IT READS IS OF BULK AT MOST 1048576: true; the input reads as it did. -/
def fnExactNumberMazeUptoRow : OpenClaim := { program := "ytmccpjdgnenmeaa", sum := "dc9dab0663b7dd79753832beab6c5f88c27aa3746f2fbba8763c5d21fb95bcb5", func := "loop.example/g01158/laws.FnExactNumberMaze", spec := "fnExactNumberMaze", unfollowed := true, recurses := true, apart := false, narrowed := true }
def FnExactNumberMazeUptoSaid : Prop := fnExactNumberMazeUptoRow.holds Try.pinned (OpenSpec.upto fnExactNumberMazeSpec)

/-- 'laws.FnExactJoinMazes', WHERE WHAT IT READS IS OF BULK AT MOST 1048576: true; the input reads as it did. -/
def fnExactJoinMazesUptoRow : OpenClaim := { program := "ytmccpjdgnenmeaa", sum := "dc9dab0663b7dd79753832beab6c5f88c27aa3746f2fbba8763c5d21fb95bcb5", func := "loop.example/g01158/laws.FnExactJoinMazes", spec := "fnExactJoinMazes", unfollowed := true, recurses := true, apart := false, narrowed := true }
def FnExactJoinMazesUptoSaid : Prop := fnExactJoinMazesUptoRow.holds Try.pinned (OpenSpec.upto fnExactJoinMazesSpec)

/-- 'laws.FnExactRepaintMaze', WHERE WHAT IT READS IS OF BULK AT MOST 1048576: true; the input reads as it did. -/
def fnExactRepaintMazeUptoRow : OpenClaim := { program := "ytmccpjdgnenmeaa", sum := "dc9dab0663b7dd79753832beab6c5f88c27aa3746f2fbba8763c5d21fb95bcb5", func := "loop.example/g01158/laws.FnExactRepaintMaze", spec := "fnExactRepaintMaze", unfollowed := true, recurses := true, apart := false, narrowed := true }
def FnExactRepaintMazeUptoSaid : Prop := fnExactRepaintMazeUptoRow.holds Try.pinned (OpenSpec.upto fnExactRepaintMazeSpec)

end Rows
end Go.Proofs.Ytmccpjdgnenmeaa
