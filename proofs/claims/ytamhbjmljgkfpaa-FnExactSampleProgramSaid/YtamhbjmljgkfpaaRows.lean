/-
  No cell of these rows narrows 'for every input' (looked for: loops, veiled, ifaces, maps, wideKeys, modest, calm, conditions, laid).
  DERIVED. THE GIVEN ROWS OF THIS SEAT. 11 by the template 'for every input the law returns true; each argument reads behind the call as it read before'; 0 by the template 'total and deterministic' (their statements: YtamhbjmljgkfpaaTotals.lean).
  GIVEN WITH THE SEED: the statements are not yours to turn. If you find one false, say at which input.
  Laid BY PROGRAM, IN A SANDBOX (cutbox-rows.mjs): the forced cells as the released guide's own fill.sh prints them over the translation a038d16f77816190… (all of the seat's roots in one cut). By AI agents, Wed Nov 11 2026. No macro, syntax, notation, axiom, sorry.
-/
import Derived.Test.YtamhbjmljgkfpaaChecked
import GoSem.Claim
import GoSem.ClaimJoined
import GoSem.ClaimMapViews
import Derived.JoinedTies
import Derived.KernelRfl
namespace Go.Proofs.Ytamhbjmljgkfpaa
/- THE CELL 'sum', in the pinned program and in every row, IS THE sha256 OF THE DUMP (.gsa) THAT YtamhbjmljgkfpaaProg.lean LOADS. Nothing in Lean hashes anything: it is a label: what it is worth is what the hold of that sum in a sandbox is worth. -/
noncomputable def Try.pinned : Pinned := { name := "ytamhbjmljgkfpaa", sum := "a038d16f7781619012ae8f274865723f835f48cce87afddc774384003634ca16", checked := Try.checked }
namespace Rows
def none {H : Type} : Left H := { results := [], args := [] }

/-- 'laws.FnSamples': WHATEVER THE INPUT: true; the input reads as it did. -/
def fnSamplesSpec : ChangeSpec := { name := "fnSamples", fn := fun _ => fun
  | [d] => { results := [.lit (.bool true)], args := [d] }
  | _ => none }
def fnSamplesRow : OpenClaim := { program := "ytamhbjmljgkfpaa", sum := "a038d16f7781619012ae8f274865723f835f48cce87afddc774384003634ca16", func := "loop.example/g03224/laws.FnSamples", spec := "fnSamples", apart := false }
def FnSamplesSaid : Prop := fnSamplesRow.holds Try.pinned (OpenSpec.ofChange fnSamplesSpec)

/-- ITS FALSE NEIGHBOUR: 'it returns false'. Refute it at one input. -/
def fnSamplesWrong : ChangeSpec := { name := "fnSamples", fn := fun _ => fun
  | [d] => { results := [.lit (.bool false)], args := [d] }
  | _ => none }
def FnSamplesWrongFalsely : Prop := fnSamplesRow.holds Try.pinned (OpenSpec.ofChange fnSamplesWrong)

/-- 'laws.FnProcess': WHATEVER THE INPUT: true; the input reads as it did. -/
def fnProcessSpec : ChangeSpec := { name := "fnProcess", fn := fun _ => fun
  | [d] => { results := [.lit (.bool true)], args := [d] }
  | _ => none }
def fnProcessRow : OpenClaim := { program := "ytamhbjmljgkfpaa", sum := "a038d16f7781619012ae8f274865723f835f48cce87afddc774384003634ca16", func := "loop.example/g03224/laws.FnProcess", spec := "fnProcess", apart := false }
def FnProcessSaid : Prop := fnProcessRow.holds Try.pinned (OpenSpec.ofChange fnProcessSpec)

/-- ITS FALSE NEIGHBOUR: 'it returns false'. Refute it at one input. -/
def fnProcessWrong : ChangeSpec := { name := "fnProcess", fn := fun _ => fun
  | [d] => { results := [.lit (.bool false)], args := [d] }
  | _ => none }
def FnProcessWrongFalsely : Prop := fnProcessRow.holds Try.pinned (OpenSpec.ofChange fnProcessWrong)

/-- 'laws.FnPicked': WHATEVER THE INPUT: true; the input reads as it did. -/
def fnPickedSpec : ChangeSpec := { name := "fnPicked", fn := fun _ => fun
  | [d] => { results := [.lit (.bool true)], args := [d] }
  | _ => none }
def fnPickedRow : OpenClaim := { program := "ytamhbjmljgkfpaa", sum := "a038d16f7781619012ae8f274865723f835f48cce87afddc774384003634ca16", func := "loop.example/g03224/laws.FnPicked", spec := "fnPicked", apart := false }
def FnPickedSaid : Prop := fnPickedRow.holds Try.pinned (OpenSpec.ofChange fnPickedSpec)

/-- ITS FALSE NEIGHBOUR: 'it returns false'. Refute it at one input. -/
def fnPickedWrong : ChangeSpec := { name := "fnPicked", fn := fun _ => fun
  | [d] => { results := [.lit (.bool false)], args := [d] }
  | _ => none }
def FnPickedWrongFalsely : Prop := fnPickedRow.holds Try.pinned (OpenSpec.ofChange fnPickedWrong)

/-- 'laws.FnTokens': WHATEVER THE INPUT: true; the input reads as it did. -/
def fnTokensSpec : ChangeSpec := { name := "fnTokens", fn := fun _ => fun
  | [d] => { results := [.lit (.bool true)], args := [d] }
  | _ => none }
def fnTokensRow : OpenClaim := { program := "ytamhbjmljgkfpaa", sum := "a038d16f7781619012ae8f274865723f835f48cce87afddc774384003634ca16", func := "loop.example/g03224/laws.FnTokens", spec := "fnTokens", apart := false }
def FnTokensSaid : Prop := fnTokensRow.holds Try.pinned (OpenSpec.ofChange fnTokensSpec)

/-- ITS FALSE NEIGHBOUR: 'it returns false'. Refute it at one input. -/
def fnTokensWrong : ChangeSpec := { name := "fnTokens", fn := fun _ => fun
  | [d] => { results := [.lit (.bool false)], args := [d] }
  | _ => none }
def FnTokensWrongFalsely : Prop := fnTokensRow.holds Try.pinned (OpenSpec.ofChange fnTokensWrong)

/-- 'laws.FnExactIsProgram': WHATEVER THE INPUT: true; the input reads as it did. -/
def fnExactIsProgramSpec : ChangeSpec := { name := "fnExactIsProgram", fn := fun _ => fun
  | [d] => { results := [.lit (.bool true)], args := [d] }
  | _ => none }
def fnExactIsProgramRow : OpenClaim := { program := "ytamhbjmljgkfpaa", sum := "a038d16f7781619012ae8f274865723f835f48cce87afddc774384003634ca16", func := "loop.example/g03224/laws.FnExactIsProgram", spec := "fnExactIsProgram", apart := false }
def FnExactIsProgramSaid : Prop := fnExactIsProgramRow.holds Try.pinned (OpenSpec.ofChange fnExactIsProgramSpec)

/-- ITS FALSE NEIGHBOUR: 'it returns false'. Refute it at one input. -/
def fnExactIsProgramWrong : ChangeSpec := { name := "fnExactIsProgram", fn := fun _ => fun
  | [d] => { results := [.lit (.bool false)], args := [d] }
  | _ => none }
def FnExactIsProgramWrongFalsely : Prop := fnExactIsProgramRow.holds Try.pinned (OpenSpec.ofChange fnExactIsProgramWrong)

/-- 'laws.FnExactNewActor': WHATEVER THE INPUT: true; the input reads as it did. -/
def fnExactNewActorSpec : ChangeSpec := { name := "fnExactNewActor", fn := fun _ => fun
  | [d] => { results := [.lit (.bool true)], args := [d] }
  | _ => none }
def fnExactNewActorRow : OpenClaim := { program := "ytamhbjmljgkfpaa", sum := "a038d16f7781619012ae8f274865723f835f48cce87afddc774384003634ca16", func := "loop.example/g03224/laws.FnExactNewActor", spec := "fnExactNewActor", apart := false }
def FnExactNewActorSaid : Prop := fnExactNewActorRow.holds Try.pinned (OpenSpec.ofChange fnExactNewActorSpec)

/-- ITS FALSE NEIGHBOUR: 'it returns false'. Refute it at one input. -/
def fnExactNewActorWrong : ChangeSpec := { name := "fnExactNewActor", fn := fun _ => fun
  | [d] => { results := [.lit (.bool false)], args := [d] }
  | _ => none }
def FnExactNewActorWrongFalsely : Prop := fnExactNewActorRow.holds Try.pinned (OpenSpec.ofChange fnExactNewActorWrong)

/-- 'laws.FnExactIsActor': WHATEVER THE INPUT: true; the input reads as it did. -/
def fnExactIsActorSpec : ChangeSpec := { name := "fnExactIsActor", fn := fun _ => fun
  | [d1, d2] => { results := [.lit (.bool true)], args := [d1, d2] }
  | _ => none }
def fnExactIsActorRow : OpenClaim := { program := "ytamhbjmljgkfpaa", sum := "a038d16f7781619012ae8f274865723f835f48cce87afddc774384003634ca16", func := "loop.example/g03224/laws.FnExactIsActor", spec := "fnExactIsActor", apart := false }
def FnExactIsActorSaid : Prop := fnExactIsActorRow.holds Try.pinned (OpenSpec.ofChange fnExactIsActorSpec)

/-- ITS FALSE NEIGHBOUR: 'it returns false'. Refute it at one input. -/
def fnExactIsActorWrong : ChangeSpec := { name := "fnExactIsActor", fn := fun _ => fun
  | [d1, d2] => { results := [.lit (.bool false)], args := [d1, d2] }
  | _ => none }
def FnExactIsActorWrongFalsely : Prop := fnExactIsActorRow.holds Try.pinned (OpenSpec.ofChange fnExactIsActorWrong)

/-- 'laws.FnExactWantOf': WHATEVER THE INPUT: true; the input reads as it did. -/
def fnExactWantOfSpec : ChangeSpec := { name := "fnExactWantOf", fn := fun _ => fun
  | [d1, d2] => { results := [.lit (.bool true)], args := [d1, d2] }
  | _ => none }
def fnExactWantOfRow : OpenClaim := { program := "ytamhbjmljgkfpaa", sum := "a038d16f7781619012ae8f274865723f835f48cce87afddc774384003634ca16", func := "loop.example/g03224/laws.FnExactWantOf", spec := "fnExactWantOf", apart := false }
def FnExactWantOfSaid : Prop := fnExactWantOfRow.holds Try.pinned (OpenSpec.ofChange fnExactWantOfSpec)

/-- ITS FALSE NEIGHBOUR: 'it returns false'. Refute it at one input. -/
def fnExactWantOfWrong : ChangeSpec := { name := "fnExactWantOf", fn := fun _ => fun
  | [d1, d2] => { results := [.lit (.bool false)], args := [d1, d2] }
  | _ => none }
def FnExactWantOfWrongFalsely : Prop := fnExactWantOfRow.holds Try.pinned (OpenSpec.ofChange fnExactWantOfWrong)

/-- 'laws.FnExactStepActor': WHATEVER THE INPUT: true; the input reads as it did. -/
def fnExactStepActorSpec : ChangeSpec := { name := "fnExactStepActor", fn := fun _ => fun
  | [d1, d2, d3] => { results := [.lit (.bool true)], args := [d1, d2, d3] }
  | _ => none }
def fnExactStepActorRow : OpenClaim := { program := "ytamhbjmljgkfpaa", sum := "a038d16f7781619012ae8f274865723f835f48cce87afddc774384003634ca16", func := "loop.example/g03224/laws.FnExactStepActor", spec := "fnExactStepActor", apart := false }
def FnExactStepActorSaid : Prop := fnExactStepActorRow.holds Try.pinned (OpenSpec.ofChange fnExactStepActorSpec)

/-- ITS FALSE NEIGHBOUR: 'it returns false'. Refute it at one input. -/
def fnExactStepActorWrong : ChangeSpec := { name := "fnExactStepActor", fn := fun _ => fun
  | [d1, d2, d3] => { results := [.lit (.bool false)], args := [d1, d2, d3] }
  | _ => none }
def FnExactStepActorWrongFalsely : Prop := fnExactStepActorRow.holds Try.pinned (OpenSpec.ofChange fnExactStepActorWrong)

/-- 'laws.FnExactRunProcess': WHATEVER THE INPUT: true; the input reads as it did. -/
def fnExactRunProcessSpec : ChangeSpec := { name := "fnExactRunProcess", fn := fun _ => fun
  | [d1, d2, d3] => { results := [.lit (.bool true)], args := [d1, d2, d3] }
  | _ => none }
def fnExactRunProcessRow : OpenClaim := { program := "ytamhbjmljgkfpaa", sum := "a038d16f7781619012ae8f274865723f835f48cce87afddc774384003634ca16", func := "loop.example/g03224/laws.FnExactRunProcess", spec := "fnExactRunProcess", apart := false }
def FnExactRunProcessSaid : Prop := fnExactRunProcessRow.holds Try.pinned (OpenSpec.ofChange fnExactRunProcessSpec)

/-- ITS FALSE NEIGHBOUR: 'it returns false'. Refute it at one input. -/
def fnExactRunProcessWrong : ChangeSpec := { name := "fnExactRunProcess", fn := fun _ => fun
  | [d1, d2, d3] => { results := [.lit (.bool false)], args := [d1, d2, d3] }
  | _ => none }
def FnExactRunProcessWrongFalsely : Prop := fnExactRunProcessRow.holds Try.pinned (OpenSpec.ofChange fnExactRunProcessWrong)

/-- 'laws.FnExactSampleProgram': WHATEVER THE INPUT: true; the input reads as it did. -/
def fnExactSampleProgramSpec : ChangeSpec := { name := "fnExactSampleProgram", fn := fun _ => fun
  | [d] => { results := [.lit (.bool true)], args := [d] }
  | _ => none }
def fnExactSampleProgramRow : OpenClaim := { program := "ytamhbjmljgkfpaa", sum := "a038d16f7781619012ae8f274865723f835f48cce87afddc774384003634ca16", func := "loop.example/g03224/laws.FnExactSampleProgram", spec := "fnExactSampleProgram", apart := false }
def FnExactSampleProgramSaid : Prop := fnExactSampleProgramRow.holds Try.pinned (OpenSpec.ofChange fnExactSampleProgramSpec)

/-- ITS FALSE NEIGHBOUR: 'it returns false'. Refute it at one input. -/
def fnExactSampleProgramWrong : ChangeSpec := { name := "fnExactSampleProgram", fn := fun _ => fun
  | [d] => { results := [.lit (.bool false)], args := [d] }
  | _ => none }
def FnExactSampleProgramWrongFalsely : Prop := fnExactSampleProgramRow.holds Try.pinned (OpenSpec.ofChange fnExactSampleProgramWrong)

/- THE SECOND FORM. 'bulk': how many values and letters a reading holds, each counted each time it is reached (what is shared counts as often as it is met; a slice's spare places count too). A statement '..UptoSaid' is the law's where the arguments, and the package variables that the reading takes, are together of bulk at most 1048576: NARROWER than '..Said'. Prove '..Said' where nothing that the law and all that it calls make is longer than what came in: it says more and counts as full. Else prove '..UptoSaid'. A law counts once. -/
mutual
def uptoBulk {H : Type} : DataW H → Nat
  | .lit (.string bytes) => bytes.length + 1
  | .lit _ => 1
  | .nil => 1
  | .ptr d => uptoBulk d + 1
  | .slice elems spare => uptoBulkAll elems + uptoBulkAll spare + 1
  | .agg parts => uptoBulkAll parts + 1
  | .iface _ d => uptoBulk d + 1
  | .map entries => uptoBulkEntries entries + 1
  | .held _ => 1
def uptoBulkAll {H : Type} : List (DataW H) → Nat
  | [] => 0
  | d :: r => uptoBulk d + uptoBulkAll r
def uptoBulkEntries {H : Type} : List (Lit × DataW H) → Nat
  | [] => 0
  | x :: r => uptoBulkEntry x + uptoBulkEntries r
def uptoBulkEntry {H : Type} : Lit × DataW H → Nat
  | (.string bytes, d) => bytes.length + uptoBulk d + 1
  | (_, d) => uptoBulk d + 1
 end
def uptoSmall : (H : Type) → List (DataW H) → Bool := fun _ ds => decide (uptoBulkAll ds ≤ 1048576)
def OpenSpec.upto (s : _root_.Go.ChangeSpec) : _root_.Go.OpenSpec := { _root_.Go.OpenSpec.ofChange s with cond := some uptoSmall }

/-- 'laws.FnSamples', WHERE WHAT IT READS IS OF BULK AT MOST 1048576: true; the input reads as it did. -/
def fnSamplesUptoRow : OpenClaim := { program := "ytamhbjmljgkfpaa", sum := "a038d16f7781619012ae8f274865723f835f48cce87afddc774384003634ca16", func := "loop.example/g03224/laws.FnSamples", spec := "fnSamples", apart := false, narrowed := true }
def FnSamplesUptoSaid : Prop := fnSamplesUptoRow.holds Try.pinned (OpenSpec.upto fnSamplesSpec)

/-- 'laws.FnProcess', WHERE WHAT IT READS IS OF BULK AT MOST 1048576: true; the input reads as it did. -/
def fnProcessUptoRow : OpenClaim := { program := "ytamhbjmljgkfpaa", sum := "a038d16f7781619012ae8f274865723f835f48cce87afddc774384003634ca16", func := "loop.example/g03224/laws.FnProcess", spec := "fnProcess", apart := false, narrowed := true }
def FnProcessUptoSaid : Prop := fnProcessUptoRow.holds Try.pinned (OpenSpec.upto fnProcessSpec)

/-- 'laws.FnPicked', WHERE WHAT IT READS IS OF BULK AT MOST 1048576: true; the input reads as it did. -/
def fnPickedUptoRow : OpenClaim := { program := "ytamhbjmljgkfpaa", sum := "a038d16f7781619012ae8f274865723f835f48cce87afddc774384003634ca16", func := "loop.example/g03224/laws.FnPicked", spec := "fnPicked", apart := false, narrowed := true }
def FnPickedUptoSaid : Prop := fnPickedUptoRow.holds Try.pinned (OpenSpec.upto fnPickedSpec)

/-- 'laws.FnTokens', WHERE WHAT IT READS IS OF BULK AT MOST 1048576: true; the input reads as it did. -/
def fnTokensUptoRow : OpenClaim := { program := "ytamhbjmljgkfpaa", sum := "a038d16f7781619012ae8f274865723f835f48cce87afddc774384003634ca16", func := "loop.example/g03224/laws.FnTokens", spec := "fnTokens", apart := false, narrowed := true }
def FnTokensUptoSaid : Prop := fnTokensUptoRow.holds Try.pinned (OpenSpec.upto fnTokensSpec)

/-- 'laws.FnExactIsProgram', WHERE WHAT IT READS IS OF BULK AT MOST 1048576: true; the input reads as it did. -/
def fnExactIsProgramUptoRow : OpenClaim := { program := "ytamhbjmljgkfpaa", sum := "a038d16f7781619012ae8f274865723f835f48cce87afddc774384003634ca16", func := "loop.example/g03224/laws.FnExactIsProgram", spec := "fnExactIsProgram", apart := false, narrowed := true }
def FnExactIsProgramUptoSaid : Prop := fnExactIsProgramUptoRow.holds Try.pinned (OpenSpec.upto fnExactIsProgramSpec)

/-- 'laws.FnExactNewActor', WHERE WHAT IT READS IS OF BULK AT MOST 1048576: true; the input reads as it did. -/
def fnExactNewActorUptoRow : OpenClaim := { program := "ytamhbjmljgkfpaa", sum := "a038d16f7781619012ae8f274865723f835f48cce87afddc774384003634ca16", func := "loop.example/g03224/laws.FnExactNewActor", spec := "fnExactNewActor", apart := false, narrowed := true }
def FnExactNewActorUptoSaid : Prop := fnExactNewActorUptoRow.holds Try.pinned (OpenSpec.upto fnExactNewActorSpec)

/-- 'laws.FnExactIsActor', WHERE WHAT IT READS IS OF BULK AT MOST 1048576: true; the input reads as it did. -/
def fnExactIsActorUptoRow : OpenClaim := { program := "ytamhbjmljgkfpaa", sum := "a038d16f7781619012ae8f274865723f835f48cce87afddc774384003634ca16", func := "loop.example/g03224/laws.FnExactIsActor", spec := "fnExactIsActor", apart := false, narrowed := true }
def FnExactIsActorUptoSaid : Prop := fnExactIsActorUptoRow.holds Try.pinned (OpenSpec.upto fnExactIsActorSpec)

/-- 'laws.FnExactWantOf', WHERE WHAT IT READS IS OF BULK AT MOST 1048576: true; the input reads as it did. -/
def fnExactWantOfUptoRow : OpenClaim := { program := "ytamhbjmljgkfpaa", sum := "a038d16f7781619012ae8f274865723f835f48cce87afddc774384003634ca16", func := "loop.example/g03224/laws.FnExactWantOf", spec := "fnExactWantOf", apart := false, narrowed := true }
def FnExactWantOfUptoSaid : Prop := fnExactWantOfUptoRow.holds Try.pinned (OpenSpec.upto fnExactWantOfSpec)

/-- 'laws.FnExactStepActor', WHERE WHAT IT READS IS OF BULK AT MOST 1048576: true; the input reads as it did. -/
def fnExactStepActorUptoRow : OpenClaim := { program := "ytamhbjmljgkfpaa", sum := "a038d16f7781619012ae8f274865723f835f48cce87afddc774384003634ca16", func := "loop.example/g03224/laws.FnExactStepActor", spec := "fnExactStepActor", apart := false, narrowed := true }
def FnExactStepActorUptoSaid : Prop := fnExactStepActorUptoRow.holds Try.pinned (OpenSpec.upto fnExactStepActorSpec)

/-- 'laws.FnExactRunProcess', WHERE WHAT IT READS IS OF BULK AT MOST 1048576: true; the input reads as it did. -/
def fnExactRunProcessUptoRow : OpenClaim := { program := "ytamhbjmljgkfpaa", sum := "a038d16f7781619012ae8f274865723f835f48cce87afddc774384003634ca16", func := "loop.example/g03224/laws.FnExactRunProcess", spec := "fnExactRunProcess", apart := false, narrowed := true }
def FnExactRunProcessUptoSaid : Prop := fnExactRunProcessUptoRow.holds Try.pinned (OpenSpec.upto fnExactRunProcessSpec)

/-- 'laws.FnExactSampleProgram', WHERE WHAT IT READS IS OF BULK AT MOST 1048576: true; the input reads as it did. -/
def fnExactSampleProgramUptoRow : OpenClaim := { program := "ytamhbjmljgkfpaa", sum := "a038d16f7781619012ae8f274865723f835f48cce87afddc774384003634ca16", func := "loop.example/g03224/laws.FnExactSampleProgram", spec := "fnExactSampleProgram", apart := false, narrowed := true }
def FnExactSampleProgramUptoSaid : Prop := fnExactSampleProgramUptoRow.holds Try.pinned (OpenSpec.upto fnExactSampleProgramSpec)

end Rows
end Go.Proofs.Ytamhbjmljgkfpaa
