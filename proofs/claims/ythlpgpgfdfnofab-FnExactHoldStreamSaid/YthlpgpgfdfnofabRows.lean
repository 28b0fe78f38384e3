/-
  No cell of these rows narrows 'for every input' (looked for: loops, veiled, ifaces, maps, wideKeys, modest, calm, conditions, laid).
  DERIVED. THE GIVEN ROWS OF THIS SEAT. 4 by the template 'for every input the law returns true; each argument reads behind the call as it read before'; 0 by the template 'total and deterministic' (their statements: YthlpgpgfdfnofabTotals.lean).
  GIVEN WITH THE SEED: the statements are not yours to turn. If you find one false, say at which input.
  Laid BY PROGRAM, IN A SANDBOX (cutbox-rows.mjs): the forced cells as the released guide's own fill.sh prints them over the translation 1c16fc24a2ca29f4… (all of the seat's roots in one cut). By AI agents, Wed Nov 11 2026. No macro, syntax, notation, axiom, sorry.
-/
import Derived.Test.YthlpgpgfdfnofabChecked
import GoSem.Claim
import GoSem.ClaimJoined
import GoSem.ClaimMapViews
import Derived.JoinedTies
import Derived.KernelRfl
namespace Go.Proofs.Ythlpgpgfdfnofab
/- THE CELL 'sum', in the pinned program and in every row, IS THE sha256 OF THE DUMP (.gsa) THAT YthlpgpgfdfnofabProg.lean LOADS. Nothing in Lean hashes anything: it is a label: what it is worth is what the hold of that sum in a sandbox is worth. -/
noncomputable def Try.pinned : Pinned := { name := "ythlpgpgfdfnofab", sum := "1c16fc24a2ca29f44f603fc38e671300f4b0a3db7447a4ca3fe27ccad737b591", checked := Try.checked }
namespace Rows
def none {H : Type} : Left H := { results := [], args := [] }

/-- 'laws.FnExactRouteStream': WHATEVER THE INPUT: true; the input reads as it did. -/
def fnExactRouteStreamSpec : ChangeSpec := { name := "fnExactRouteStream", fn := fun _ => fun
  | [d1, d2] => { results := [.lit (.bool true)], args := [d1, d2] }
  | _ => none }
def fnExactRouteStreamRow : OpenClaim := { program := "ythlpgpgfdfnofab", sum := "1c16fc24a2ca29f44f603fc38e671300f4b0a3db7447a4ca3fe27ccad737b591", func := "loop.example/g03224/laws.FnExactRouteStream", spec := "fnExactRouteStream", apart := false }
def FnExactRouteStreamSaid : Prop := fnExactRouteStreamRow.holds Try.pinned (OpenSpec.ofChange fnExactRouteStreamSpec)

/-- ITS FALSE NEIGHBOUR: 'it returns false'. Refute it at one input. -/
def fnExactRouteStreamWrong : ChangeSpec := { name := "fnExactRouteStream", fn := fun _ => fun
  | [d1, d2] => { results := [.lit (.bool false)], args := [d1, d2] }
  | _ => none }
def FnExactRouteStreamWrongFalsely : Prop := fnExactRouteStreamRow.holds Try.pinned (OpenSpec.ofChange fnExactRouteStreamWrong)

/-- 'laws.FnExactSumsOf': WHATEVER THE INPUT: true; the input reads as it did. -/
def fnExactSumsOfSpec : ChangeSpec := { name := "fnExactSumsOf", fn := fun _ => fun
  | [d] => { results := [.lit (.bool true)], args := [d] }
  | _ => none }
def fnExactSumsOfRow : OpenClaim := { program := "ythlpgpgfdfnofab", sum := "1c16fc24a2ca29f44f603fc38e671300f4b0a3db7447a4ca3fe27ccad737b591", func := "loop.example/g03224/laws.FnExactSumsOf", spec := "fnExactSumsOf", apart := false }
def FnExactSumsOfSaid : Prop := fnExactSumsOfRow.holds Try.pinned (OpenSpec.ofChange fnExactSumsOfSpec)

/-- ITS FALSE NEIGHBOUR: 'it returns false'. Refute it at one input. -/
def fnExactSumsOfWrong : ChangeSpec := { name := "fnExactSumsOf", fn := fun _ => fun
  | [d] => { results := [.lit (.bool false)], args := [d] }
  | _ => none }
def FnExactSumsOfWrongFalsely : Prop := fnExactSumsOfRow.holds Try.pinned (OpenSpec.ofChange fnExactSumsOfWrong)

/-- 'laws.FnExactStepsOf': WHATEVER THE INPUT: true; the input reads as it did. -/
def fnExactStepsOfSpec : ChangeSpec := { name := "fnExactStepsOf", fn := fun _ => fun
  | [d] => { results := [.lit (.bool true)], args := [d] }
  | _ => none }
def fnExactStepsOfRow : OpenClaim := { program := "ythlpgpgfdfnofab", sum := "1c16fc24a2ca29f44f603fc38e671300f4b0a3db7447a4ca3fe27ccad737b591", func := "loop.example/g03224/laws.FnExactStepsOf", spec := "fnExactStepsOf", apart := false }
def FnExactStepsOfSaid : Prop := fnExactStepsOfRow.holds Try.pinned (OpenSpec.ofChange fnExactStepsOfSpec)

/-- ITS FALSE NEIGHBOUR: 'it returns false'. Refute it at one input. -/
def fnExactStepsOfWrong : ChangeSpec := { name := "fnExactStepsOf", fn := fun _ => fun
  | [d] => { results := [.lit (.bool false)], args := [d] }
  | _ => none }
def FnExactStepsOfWrongFalsely : Prop := fnExactStepsOfRow.holds Try.pinned (OpenSpec.ofChange fnExactStepsOfWrong)

/-- 'laws.FnExactHoldStream': WHATEVER THE INPUT: true; the input reads as it did. -/
def fnExactHoldStreamSpec : ChangeSpec := { name := "fnExactHoldStream", fn := fun _ => fun
  | [d1, d2] => { results := [.lit (.bool true)], args := [d1, d2] }
  | _ => none }
def fnExactHoldStreamRow : OpenClaim := { program := "ythlpgpgfdfnofab", sum := "1c16fc24a2ca29f44f603fc38e671300f4b0a3db7447a4ca3fe27ccad737b591", func := "loop.example/g03224/laws.FnExactHoldStream", spec := "fnExactHoldStream", apart := false }
def FnExactHoldStreamSaid : Prop := fnExactHoldStreamRow.holds Try.pinned (OpenSpec.ofChange fnExactHoldStreamSpec)

/-- ITS FALSE NEIGHBOUR: 'it returns false'. Refute it at one input. -/
def fnExactHoldStreamWrong : ChangeSpec := { name := "fnExactHoldStream", fn := fun _ => fun
  | [d1, d2] => { results := [.lit (.bool false)], args := [d1, d2] }
  | _ => none }
def FnExactHoldStreamWrongFalsely : Prop := fnExactHoldStreamRow.holds Try.pinned (OpenSpec.ofChange fnExactHoldStreamWrong)

/- THE SECOND FORM. 'bulk': how many values and letters a reading holds, each counted each time it is reached (what is shared counts as often as it is met; a slice's spare places count too). A statement '..UptoSaid' is the law's where the arguments, and the package variables that the reading takes, are together of bulk at most 1048576: NARROWER than '..Said'. Prove '..Said' where nothing that the law and all that it calls make is longer than what came in: it says more and counts as full. Else prove '..UptoSaid'. A law counts once. -/
mutual
def uptoBulk {H : Type} : DataW H → Nat
  | .lit (.string bytes) => bytes.length + 1
  | .lit _ => 1
  | .nil => 1
  | .ptr d => uptoBulk d + 1
  | .slice elems spare => uptoBulkAll elems + uptoBulkAll spare + 1
  | .agg parts => uptoBulkAll parts + 1
  | .iface _ d => uptoBulk d + 1
  | .map entries => uptoBulkEntries entries + 1
  | .held _ => 1
def uptoBulkAll {H : Type} : List (DataW H) → Nat
  | [] => 0
  | d :: r => uptoBulk d + uptoBulkAll r
def uptoBulkEntries {H : Type} : List (Lit × DataW H) → Nat
  | [] => 0
  | x :: r => uptoBulkEntry x + uptoBulkEntries r
def uptoBulkEntry {H : Type} : Lit × DataW H → Nat
  | (.string bytes, d) => bytes.length + uptoBulk d + 1
  | (_, d) => uptoBulk d + 1
 end
def uptoSmall : (H : Type) → List (DataW H) → Bool := fun _ ds => decide (uptoBulkAll ds ≤ 1048576)
def OpenSpec.upto (s : _root_.Go.ChangeSpec) : _root_.Go.OpenSpec := { _root_.Go.OpenSpec.ofChange s with cond := some uptoSmall }

/-- 'laws.FnExactRouteStream', WHERE WHAT IT READS IS OF BULK AT MOST 1048576: true; the input reads as it did. -/
def fnExactRouteStreamUptoRow : OpenClaim := { program := "ythlpgpgfdfnofab", sum := "1c16fc24a2ca29f44f603fc38e671300f4b0a3db7447a4ca3fe27ccad737b591", func := "loop.example/g03224/laws.FnExactRouteStream", spec := "fnExactRouteStream", apart := false, narrowed := true }
def FnExactRouteStreamUptoSaid : Prop := fnExactRouteStreamUptoRow.holds Try.pinned (OpenSpec.upto fnExactRouteStreamSpec)

/-- 'laws.FnExactSumsOf', WHERE WHAT IT READS IS OF BULK AT MOST 1048576: true; the input reads as it did. -/
def fnExactSumsOfUptoRow : OpenClaim := { program := "ythlpgpgfdfnofab", sum := "1c16fc24a2ca29f44f603fc38e671300f4b0a3db7447a4ca3fe27ccad737b591", func := "loop.example/g03224/laws.FnExactSumsOf", spec := "fnExactSumsOf", apart := false, narrowed := true }
def FnExactSumsOfUptoSaid : Prop := fnExactSumsOfUptoRow.holds Try.pinned (OpenSpec.upto fnExactSumsOfSpec)

/-- 'laws.FnExactStepsOf', WHERE WHAT IT READS IS OF BULK AT MOST 1048576: true; the input reads as it did. -/
def fnExactStepsOfUptoRow : OpenClaim := { program := "ythlpgpgfdfnofab", sum := "1c16fc24a2ca29f44f603fc38e671300f4b0a3db7447a4ca3fe27ccad737b591", func := "loop.example/g03224/laws.FnExactStepsOf", spec := "fnExactStepsOf", apart := false, narrowed := true }
def FnExactStepsOfUptoSaid : Prop := fnExactStepsOfUptoRow.holds Try.pinned (OpenSpec.upto fnExactStepsOfSpec)

/-- 'laws.FnExactHoldStream', WHERE WHAT IT READS IS OF BULK AT MOST 1048576: true; the input reads as it did. -/
def fnExactHoldStreamUptoRow : OpenClaim := { program := "ythlpgpgfdfnofab", sum := "1c16fc24a2ca29f44f603fc38e671300f4b0a3db7447a4ca3fe27ccad737b591", func := "loop.example/g03224/laws.FnExactHoldStream", spec := "fnExactHoldStream", apart := false, narrowed := true }
def FnExactHoldStreamUptoSaid : Prop := fnExactHoldStreamUptoRow.holds Try.pinned (OpenSpec.upto fnExactHoldStreamSpec)

end Rows
end Go.Proofs.Ythlpgpgfdfnofab
