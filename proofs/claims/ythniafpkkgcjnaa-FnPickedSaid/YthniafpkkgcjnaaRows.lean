/-
  No cell of these rows narrows 'for every input' (looked for: loops, veiled, ifaces, maps, wideKeys, modest, calm, conditions, laid).
  DERIVED. THE GIVEN ROWS OF THIS SEAT. 12 by the template 'for every input the law returns true; each argument reads behind the call as it read before'; 0 by the template 'total and deterministic' (their statements: YthniafpkkgcjnaaTotals.lean).
  GIVEN WITH THE SEED: the statements are not yours to turn. If you find one false, say at which input.
  Laid BY PROGRAM, IN A SANDBOX (cutbox-rows.mjs): the forced cells as the released guide's own fill.sh prints them over the translation c81a1aacbf5ad620… (all of the seat's roots in one cut). By AI agents, Wed Nov 11 2026. No macro, syntax, notation, axiom, sorry.
-/
import Derived.Test.YthniafpkkgcjnaaChecked
import GoSem.Claim
import GoSem.ClaimJoined
import GoSem.ClaimMapViews
import Derived.JoinedTies
import Derived.KernelRfl
namespace Go.Proofs.Ythniafpkkgcjnaa
/- THE CELL 'sum', in the pinned program and in every row, IS THE sha256 OF THE DUMP (.gsa) THAT YthniafpkkgcjnaaProg.lean LOADS. Nothing in Lean hashes anything: it is a label: what it is worth is what the hold of that sum in a sandbox is worth. -/
noncomputable def Try.pinned : Pinned := { name := "ythniafpkkgcjnaa", sum := "c81a1aacbf5ad620f50502ba1aa87ac0f66eea9ccadc8c1ce31f8b21d16e63f3", checked := Try.checked }
namespace Rows
def none {H : Type} : Left H := { results := [], args := [] }

/-- 'laws.FnSamples': WHATEVER THE INPUT: true; the input reads as it did. -/
def fnSamplesSpec : ChangeSpec := { name := "fnSamples", fn := fun _ => fun
  | [d] => { results := [.lit (.bool true)], args := [d] }
  | _ => none }
def fnSamplesRow : OpenClaim := { program := "ythniafpkkgcjnaa", sum := "c81a1aacbf5ad620f50502ba1aa87ac0f66eea9ccadc8c1ce31f8b21d16e63f3", func := "loop.example/g03224/laws.FnSamples", spec := "fnSamples", plainKeys := false, apart := false }
def FnSamplesSaid : Prop := fnSamplesRow.holds Try.pinned (OpenSpec.ofChange fnSamplesSpec)

/-- ITS FALSE NEIGHBOUR: 'it returns false'. Refute it at one input. -/
def fnSamplesWrong : ChangeSpec := { name := "fnSamples", fn := fun _ => fun
  | [d] => { results := [.lit (.bool false)], args := [d] }
  | _ => none }
def FnSamplesWrongFalsely : Prop := fnSamplesRow.holds Try.pinned (OpenSpec.ofChange fnSamplesWrong)

/-- 'laws.FnProcess': WHATEVER THE INPUT: true; the input reads as it did. -/
def fnProcessSpec : ChangeSpec := { name := "fnProcess", fn := fun _ => fun
  | [d] => { results := [.lit (.bool true)], args := [d] }
  | _ => none }
def fnProcessRow : OpenClaim := { program := "ythniafpkkgcjnaa", sum := "c81a1aacbf5ad620f50502ba1aa87ac0f66eea9ccadc8c1ce31f8b21d16e63f3", func := "loop.example/g03224/laws.FnProcess", spec := "fnProcess", plainKeys := false, apart := false }
def FnProcessSaid : Prop := fnProcessRow.holds Try.pinned (OpenSpec.ofChange fnProcessSpec)

/-- ITS FALSE NEIGHBOUR: 'it returns false'. Refute it at one input. -/
def fnProcessWrong : ChangeSpec := { name := "fnProcess", fn := fun _ => fun
  | [d] => { results := [.lit (.bool false)], args := [d] }
  | _ => none }
def FnProcessWrongFalsely : Prop := fnProcessRow.holds Try.pinned (OpenSpec.ofChange fnProcessWrong)

/-- 'laws.FnReached': WHATEVER THE INPUT: true; the input reads as it did. -/
def fnReachedSpec : ChangeSpec := { name := "fnReached", fn := fun _ => fun
  | [d] => { results := [.lit (.bool true)], args := [d] }
  | _ => none }
def fnReachedRow : OpenClaim := { program := "ythniafpkkgcjnaa", sum := "c81a1aacbf5ad620f50502ba1aa87ac0f66eea9ccadc8c1ce31f8b21d16e63f3", func := "loop.example/g03224/laws.FnReached", spec := "fnReached", unfollowed := true, recurses := true, plainKeys := false, apart := false }
def FnReachedSaid : Prop := fnReachedRow.holds Try.pinned (OpenSpec.ofChange fnReachedSpec)

/-- ITS FALSE NEIGHBOUR: 'it returns false'. Refute it at one input. -/
def fnReachedWrong : ChangeSpec := { name := "fnReached", fn := fun _ => fun
  | [d] => { results := [.lit (.bool false)], args := [d] }
  | _ => none }
def FnReachedWrongFalsely : Prop := fnReachedRow.holds Try.pinned (OpenSpec.ofChange fnReachedWrong)

/-- 'laws.FnPicked': WHATEVER THE INPUT: true; the input reads as it did. -/
def fnPickedSpec : ChangeSpec := { name := "fnPicked", fn := fun _ => fun
  | [d] => { results := [.lit (.bool true)], args := [d] }
  | _ => none }
def fnPickedRow : OpenClaim := { program := "ythniafpkkgcjnaa", sum := "c81a1aacbf5ad620f50502ba1aa87ac0f66eea9ccadc8c1ce31f8b21d16e63f3", func := "loop.example/g03224/laws.FnPicked", spec := "fnPicked", plainKeys := false, apart := false }
def FnPickedSaid : Prop := fnPickedRow.holds Try.pinned (OpenSpec.ofChange fnPickedSpec)

/-- ITS FALSE NEIGHBOUR: 'it returns false'. Refute it at one input. -/
def fnPickedWrong : ChangeSpec := { name := "fnPicked", fn := fun _ => fun
  | [d] => { results := [.lit (.bool false)], args := [d] }
  | _ => none }
def FnPickedWrongFalsely : Prop := fnPickedRow.holds Try.pinned (OpenSpec.ofChange fnPickedWrong)

/-- 'laws.FnTokens': WHATEVER THE INPUT: true; the input reads as it did. -/
def fnTokensSpec : ChangeSpec := { name := "fnTokens", fn := fun _ => fun
  | [d] => { results := [.lit (.bool true)], args := [d] }
  | _ => none }
def fnTokensRow : OpenClaim := { program := "ythniafpkkgcjnaa", sum := "c81a1aacbf5ad620f50502ba1aa87ac0f66eea9ccadc8c1ce31f8b21d16e63f3", func := "loop.example/g03224/laws.FnTokens", spec := "fnTokens", plainKeys := false, apart := false }
def FnTokensSaid : Prop := fnTokensRow.holds Try.pinned (OpenSpec.ofChange fnTokensSpec)

/-- ITS FALSE NEIGHBOUR: 'it returns false'. Refute it at one input. -/
def fnTokensWrong : ChangeSpec := { name := "fnTokens", fn := fun _ => fun
  | [d] => { results := [.lit (.bool false)], args := [d] }
  | _ => none }
def FnTokensWrongFalsely : Prop := fnTokensRow.holds Try.pinned (OpenSpec.ofChange fnTokensWrong)

/-- 'laws.FnExactStepActor': WHATEVER THE INPUT: true; the input reads as it did. -/
def fnExactStepActorSpec : ChangeSpec := { name := "fnExactStepActor", fn := fun _ => fun
  | [d1, d2, d3] => { results := [.lit (.bool true)], args := [d1, d2, d3] }
  | _ => none }
def fnExactStepActorRow : OpenClaim := { program := "ythniafpkkgcjnaa", sum := "c81a1aacbf5ad620f50502ba1aa87ac0f66eea9ccadc8c1ce31f8b21d16e63f3", func := "loop.example/g03224/laws.FnExactStepActor", spec := "fnExactStepActor", plainKeys := false, apart := false }
def FnExactStepActorSaid : Prop := fnExactStepActorRow.holds Try.pinned (OpenSpec.ofChange fnExactStepActorSpec)

/-- ITS FALSE NEIGHBOUR: 'it returns false'. Refute it at one input. -/
def fnExactStepActorWrong : ChangeSpec := { name := "fnExactStepActor", fn := fun _ => fun
  | [d1, d2, d3] => { results := [.lit (.bool false)], args := [d1, d2, d3] }
  | _ => none }
def FnExactStepActorWrongFalsely : Prop := fnExactStepActorRow.holds Try.pinned (OpenSpec.ofChange fnExactStepActorWrong)

/-- 'laws.FnExactRunProcess': WHATEVER THE INPUT: true; the input reads as it did. -/
def fnExactRunProcessSpec : ChangeSpec := { name := "fnExactRunProcess", fn := fun _ => fun
  | [d1, d2, d3] => { results := [.lit (.bool true)], args := [d1, d2, d3] }
  | _ => none }
def fnExactRunProcessRow : OpenClaim := { program := "ythniafpkkgcjnaa", sum := "c81a1aacbf5ad620f50502ba1aa87ac0f66eea9ccadc8c1ce31f8b21d16e63f3", func := "loop.example/g03224/laws.FnExactRunProcess", spec := "fnExactRunProcess", plainKeys := false, apart := false }
def FnExactRunProcessSaid : Prop := fnExactRunProcessRow.holds Try.pinned (OpenSpec.ofChange fnExactRunProcessSpec)

/-- ITS FALSE NEIGHBOUR: 'it returns false'. Refute it at one input. -/
def fnExactRunProcessWrong : ChangeSpec := { name := "fnExactRunProcess", fn := fun _ => fun
  | [d1, d2, d3] => { results := [.lit (.bool false)], args := [d1, d2, d3] }
  | _ => none }
def FnExactRunProcessWrongFalsely : Prop := fnExactRunProcessRow.holds Try.pinned (OpenSpec.ofChange fnExactRunProcessWrong)

/-- 'laws.FnExactSampleProgram': WHATEVER THE INPUT: true; the input reads as it did. -/
def fnExactSampleProgramSpec : ChangeSpec := { name := "fnExactSampleProgram", fn := fun _ => fun
  | [d] => { results := [.lit (.bool true)], args := [d] }
  | _ => none }
def fnExactSampleProgramRow : OpenClaim := { program := "ythniafpkkgcjnaa", sum := "c81a1aacbf5ad620f50502ba1aa87ac0f66eea9ccadc8c1ce31f8b21d16e63f3", func := "loop.example/g03224/laws.FnExactSampleProgram", spec := "fnExactSampleProgram", plainKeys := false, apart := false }
def FnExactSampleProgramSaid : Prop := fnExactSampleProgramRow.holds Try.pinned (OpenSpec.ofChange fnExactSampleProgramSpec)

/-- ITS FALSE NEIGHBOUR: 'it returns false'. Refute it at one input. -/
def fnExactSampleProgramWrong : ChangeSpec := { name := "fnExactSampleProgram", fn := fun _ => fun
  | [d] => { results := [.lit (.bool false)], args := [d] }
  | _ => none }
def FnExactSampleProgramWrongFalsely : Prop := fnExactSampleProgramRow.holds Try.pinned (OpenSpec.ofChange fnExactSampleProgramWrong)

/-- 'laws.FnExactIsNetwork': WHATEVER THE INPUT: true; the input reads as it did. -/
def fnExactIsNetworkSpec : ChangeSpec := { name := "fnExactIsNetwork", fn := fun _ => fun
  | [d] => { results := [.lit (.bool true)], args := [d] }
  | _ => none }
def fnExactIsNetworkRow : OpenClaim := { program := "ythniafpkkgcjnaa", sum := "c81a1aacbf5ad620f50502ba1aa87ac0f66eea9ccadc8c1ce31f8b21d16e63f3", func := "loop.example/g03224/laws.FnExactIsNetwork", spec := "fnExactIsNetwork", unfollowed := true, recurses := true, plainKeys := false, apart := false }
def FnExactIsNetworkSaid : Prop := fnExactIsNetworkRow.holds Try.pinned (OpenSpec.ofChange fnExactIsNetworkSpec)

/-- ITS FALSE NEIGHBOUR: 'it returns false'. Refute it at one input. -/
def fnExactIsNetworkWrong : ChangeSpec := { name := "fnExactIsNetwork", fn := fun _ => fun
  | [d] => { results := [.lit (.bool false)], args := [d] }
  | _ => none }
def FnExactIsNetworkWrongFalsely : Prop := fnExactIsNetworkRow.holds Try.pinned (OpenSpec.ofChange fnExactIsNetworkWrong)

/-- 'laws.FnExactInputsOf': WHATEVER THE INPUT: true; the input reads as it did. -/
def fnExactInputsOfSpec : ChangeSpec := { name := "fnExactInputsOf", fn := fun _ => fun
  | [d] => { results := [.lit (.bool true)], args := [d] }
  | _ => none }
def fnExactInputsOfRow : OpenClaim := { program := "ythniafpkkgcjnaa", sum := "c81a1aacbf5ad620f50502ba1aa87ac0f66eea9ccadc8c1ce31f8b21d16e63f3", func := "loop.example/g03224/laws.FnExactInputsOf", spec := "fnExactInputsOf", unfollowed := true, recurses := true, plainKeys := false, apart := false }
def FnExactInputsOfSaid : Prop := fnExactInputsOfRow.holds Try.pinned (OpenSpec.ofChange fnExactInputsOfSpec)

/-- ITS FALSE NEIGHBOUR: 'it returns false'. Refute it at one input. -/
def fnExactInputsOfWrong : ChangeSpec := { name := "fnExactInputsOf", fn := fun _ => fun
  | [d] => { results := [.lit (.bool false)], args := [d] }
  | _ => none }
def FnExactInputsOfWrongFalsely : Prop := fnExactInputsOfRow.holds Try.pinned (OpenSpec.ofChange fnExactInputsOfWrong)

/-- 'laws.FnExactOutputsOf': WHATEVER THE INPUT: true; the input reads as it did. -/
def fnExactOutputsOfSpec : ChangeSpec := { name := "fnExactOutputsOf", fn := fun _ => fun
  | [d] => { results := [.lit (.bool true)], args := [d] }
  | _ => none }
def fnExactOutputsOfRow : OpenClaim := { program := "ythniafpkkgcjnaa", sum := "c81a1aacbf5ad620f50502ba1aa87ac0f66eea9ccadc8c1ce31f8b21d16e63f3", func := "loop.example/g03224/laws.FnExactOutputsOf", spec := "fnExactOutputsOf", unfollowed := true, recurses := true, plainKeys := false, apart := false }
def FnExactOutputsOfSaid : Prop := fnExactOutputsOfRow.holds Try.pinned (OpenSpec.ofChange fnExactOutputsOfSpec)

/-- ITS FALSE NEIGHBOUR: 'it returns false'. Refute it at one input. -/
def fnExactOutputsOfWrong : ChangeSpec := { name := "fnExactOutputsOf", fn := fun _ => fun
  | [d] => { results := [.lit (.bool false)], args := [d] }
  | _ => none }
def FnExactOutputsOfWrongFalsely : Prop := fnExactOutputsOfRow.holds Try.pinned (OpenSpec.ofChange fnExactOutputsOfWrong)

/-- 'laws.FnExactLinkTo': WHATEVER THE INPUT: true; the input reads as it did. -/
def fnExactLinkToSpec : ChangeSpec := { name := "fnExactLinkTo", fn := fun _ => fun
  | [d1, d2, d3] => { results := [.lit (.bool true)], args := [d1, d2, d3] }
  | _ => none }
def fnExactLinkToRow : OpenClaim := { program := "ythniafpkkgcjnaa", sum := "c81a1aacbf5ad620f50502ba1aa87ac0f66eea9ccadc8c1ce31f8b21d16e63f3", func := "loop.example/g03224/laws.FnExactLinkTo", spec := "fnExactLinkTo", unfollowed := true, recurses := true, plainKeys := false, apart := false }
def FnExactLinkToSaid : Prop := fnExactLinkToRow.holds Try.pinned (OpenSpec.ofChange fnExactLinkToSpec)

/-- ITS FALSE NEIGHBOUR: 'it returns false'. Refute it at one input. -/
def fnExactLinkToWrong : ChangeSpec := { name := "fnExactLinkTo", fn := fun _ => fun
  | [d1, d2, d3] => { results := [.lit (.bool false)], args := [d1, d2, d3] }
  | _ => none }
def FnExactLinkToWrongFalsely : Prop := fnExactLinkToRow.holds Try.pinned (OpenSpec.ofChange fnExactLinkToWrong)

/- THE SECOND FORM. 'bulk': how many values and letters a reading holds, each counted each time it is reached (what is shared counts as often as it is met; a slice's spare places count too). A statement '..UptoSaid' is the law's where the arguments, and the package variables that the reading takes, are together of bulk at most 1048576: NARROWER than '..Said'. Prove '..Said' where nothing that the law and all that it calls make is longer than what came in: it says more and counts as full. Else prove '..UptoSaid'. A law counts once. -/
mutual
def uptoBulk {H : Type} : DataW H → Nat
  | .lit (.string bytes) => bytes.length + 1
  | .lit _ => 1
  | .nil => 1
  | .ptr d => uptoBulk d + 1
  | .slice elems spare => uptoBulkAll elems + uptoBulkAll spare + 1
  | .agg parts => uptoBulkAll parts + 1
  | .iface _ d => uptoBulk d + 1
  | .map entries => uptoBulkEntries entries + 1
  | .held _ => 1
def uptoBulkAll {H : Type} : List (DataW H) → Nat
  | [] => 0
  | d :: r => uptoBulk d + uptoBulkAll r
def uptoBulkEntries {H : Type} : List (Lit × DataW H) → Nat
  | [] => 0
  | x :: r => uptoBulkEntry x + uptoBulkEntries r
def uptoBulkEntry {H : Type} : Lit × DataW H → Nat
  | (.string bytes, d) => bytes.length + uptoBulk d + 1
  | (_, d) => uptoBulk d + 1
 end
def uptoSmall : (H : Type) → List (DataW H) → Bool := fun _ ds => decide (uptoBulkAll ds ≤ 1048576)
def OpenSpec.upto (s : _root_.Go.ChangeSpec) : _root_.Go.OpenSpec := { _root_.Go.OpenSpec.ofChange s with cond := some uptoSmall }

/-- 'laws.FnSamples', WHERE WHAT IT READS IS OF BULK AT MOST 1048576: true; the input reads as it did. -/
def fnSamplesUptoRow : OpenClaim := { program := "ythniafpkkgcjnaa", sum := "c81a1aacbf5ad620f50502ba1aa87ac0f66eea9ccadc8c1ce31f8b21d16e63f3", func := "loop.example/g03224/laws.FnSamples", spec := "fnSamples", plainKeys := false, apart := false, narrowed := true }
def FnSamplesUptoSaid : Prop := fnSamplesUptoRow.holds Try.pinned (OpenSpec.upto fnSamplesSpec)

/-- 'laws.FnProcess', WHERE WHAT IT READS IS OF BULK AT MOST 1048576: true; the input reads as it did. -/
def fnProcessUptoRow : OpenClaim := { program := "ythniafpkkgcjnaa", sum := "c81a1aacbf5ad620f50502ba1aa87ac0f66eea9ccadc8c1ce31f8b21d16e63f3", func := "loop.example/g03224/laws.FnProcess", spec := "fnProcess", plainKeys := false, apart := false, narrowed := true }
def FnProcessUptoSaid : Prop := fnProcessUptoRow.holds Try.pinned (OpenSpec.upto fnProcessSpec)

/-- 'laws.FnReached', WHERE WHAT IT READS IS OF BULK AT MOST 1048576: true; the input reads as it did. -/
def fnReachedUptoRow : OpenClaim := { program := "ythniafpkkgcjnaa", sum := "c81a1aacbf5ad620f50502ba1aa87ac0f66eea9ccadc8c1ce31f8b21d16e63f3", func := "loop.example/g03224/laws.FnReached", spec := "fnReached", unfollowed := true, recurses := true, plainKeys := false, apart := false, narrowed := true }
def FnReachedUptoSaid : Prop := fnReachedUptoRow.holds Try.pinned (OpenSpec.upto fnReachedSpec)

/-- 'laws.FnPicked', WHERE WHAT IT READS IS OF BULK AT MOST 1048576: true; the input reads as it did. -/
def fnPickedUptoRow : OpenClaim := { program := "ythniafpkkgcjnaa", sum := "c81a1aacbf5ad620f50502ba1aa87ac0f66eea9ccadc8c1ce31f8b21d16e63f3", func := "loop.example/g03224/laws.FnPicked", spec := "fnPicked", plainKeys := false, apart := false, narrowed := true }
def FnPickedUptoSaid : Prop := fnPickedUptoRow.holds Try.pinned (OpenSpec.upto fnPickedSpec)

/-- 'laws.FnTokens', WHERE WHAT IT READS IS OF BULK AT MOST 1048576: true; the input reads as it did. -/
def fnTokensUptoRow : OpenClaim := { program := "ythniafpkkgcjnaa", sum := "c81a1aacbf5ad620f50502ba1aa87ac0f66eea9ccadc8c1ce31f8b21d16e63f3", func := "loop.example/g03224/laws.FnTokens", spec := "fnTokens", plainKeys := false, apart := false, narrowed := true }
def FnTokensUptoSaid : Prop := fnTokensUptoRow.holds Try.pinned (OpenSpec.upto fnTokensSpec)

/-- 'laws.FnExactStepActor', WHERE WHAT IT READS IS OF BULK AT MOST 1048576: true; the input reads as it did. -/
def fnExactStepActorUptoRow : OpenClaim := { program := "ythniafpkkgcjnaa", sum := "c81a1aacbf5ad620f50502ba1aa87ac0f66eea9ccadc8c1ce31f8b21d16e63f3", func := "loop.example/g03224/laws.FnExactStepActor", spec := "fnExactStepActor", plainKeys := false, apart := false, narrowed := true }
def FnExactStepActorUptoSaid : Prop := fnExactStepActorUptoRow.holds Try.pinned (OpenSpec.upto fnExactStepActorSpec)

/-- 'laws.FnExactRunProcess', WHERE WHAT IT READS IS OF BULK AT MOST 1048576: true; the input reads as it did. -/
def fnExactRunProcessUptoRow : OpenClaim := { program := "ythniafpkkgcjnaa", sum := "c81a1aacbf5ad620f50502ba1aa87ac0f66eea9ccadc8c1ce31f8b21d16e63f3", func := "loop.example/g03224/laws.FnExactRunProcess", spec := "fnExactRunProcess", plainKeys := false, apart := false, narrowed := true }
def FnExactRunProcessUptoSaid : Prop := fnExactRunProcessUptoRow.holds Try.pinned (OpenSpec.upto fnExactRunProcessSpec)

/-- 'laws.FnExactSampleProgram', WHERE WHAT IT READS IS OF BULK AT MOST 1048576: true; the input reads as it did. -/
def fnExactSampleProgramUptoRow : OpenClaim := { program := "ythniafpkkgcjnaa", sum := "c81a1aacbf5ad620f50502ba1aa87ac0f66eea9ccadc8c1ce31f8b21d16e63f3", func := "loop.example/g03224/laws.FnExactSampleProgram", spec := "fnExactSampleProgram", plainKeys := false, apart := false, narrowed := true }
def FnExactSampleProgramUptoSaid : Prop := fnExactSampleProgramUptoRow.holds Try.pinned (OpenSpec.upto fnExactSampleProgramSpec)

/-- 'laws.FnExactIsNetwork', WHERE WHAT IT READS IS OF BULK AT MOST 1048576: true; the input reads as it did. -/
def fnExactIsNetworkUptoRow : OpenClaim := { program := "ythniafpkkgcjnaa", sum := "c81a1aacbf5ad620f50502ba1aa87ac0f66eea9ccadc8c1ce31f8b21d16e63f3", func := "loop.example/g03224/laws.FnExactIsNetwork", spec := "fnExactIsNetwork", unfollowed := true, recurses := true, plainKeys := false, apart := false, narrowed := true }
def FnExactIsNetworkUptoSaid : Prop := fnExactIsNetworkUptoRow.holds Try.pinned (OpenSpec.upto fnExactIsNetworkSpec)

/-- 'laws.FnExactInputsOf', WHERE WHAT IT READS IS OF BULK AT MOST 1048576: true; the input reads as it did. -/
def fnExactInputsOfUptoRow : OpenClaim := { program := "ythniafpkkgcjnaa", sum := "c81a1aacbf5ad620f50502ba1aa87ac0f66eea9ccadc8c1ce31f8b21d16e63f3", func := "loop.example/g03224/laws.FnExactInputsOf", spec := "fnExactInputsOf", unfollowed := true, recurses := true, plainKeys := false, apart := false, narrowed := true }
def FnExactInputsOfUptoSaid : Prop := fnExactInputsOfUptoRow.holds Try.pinned (OpenSpec.upto fnExactInputsOfSpec)

/-- 'laws.FnExactOutputsOf', WHERE WHAT IT READS IS OF BULK AT MOST 1048576: true; the input reads as it did. -/
def fnExactOutputsOfUptoRow : OpenClaim := { program := "ythniafpkkgcjnaa", sum := "c81a1aacbf5ad620f50502ba1aa87ac0f66eea9ccadc8c1ce31f8b21d16e63f3", func := "loop.example/g03224/laws.FnExactOutputsOf", spec := "fnExactOutputsOf", unfollowed := true, recurses := true, plainKeys := false, apart := false, narrowed := true }
def FnExactOutputsOfUptoSaid : Prop := fnExactOutputsOfUptoRow.holds Try.pinned (OpenSpec.upto fnExactOutputsOfSpec)

/-- 'laws.FnExactLinkTo', WHERE WHAT IT READS IS OF BULK AT MOST 1048576: true; the input reads as it did. -/
def fnExactLinkToUptoRow : OpenClaim := { program := "ythniafpkkgcjnaa", sum := "c81a1aacbf5ad620f50502ba1aa87ac0f66eea9ccadc8c1ce31f8b21d16e63f3", func := "loop.example/g03224/laws.FnExactLinkTo", spec := "fnExactLinkTo", unfollowed := true, recurses := true, plainKeys := false, apart := false, narrowed := true }
def FnExactLinkToUptoSaid : Prop := fnExactLinkToUptoRow.holds Try.pinned (OpenSpec.upto fnExactLinkToSpec)

end Rows
end Go.Proofs.Ythniafpkkgcjnaa
