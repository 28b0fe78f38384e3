/-
  No cell of these rows narrows 'for every input' (looked for: loops, veiled, ifaces, maps, wideKeys, modest, calm, conditions, laid).
  DERIVED. THE GIVEN ROWS OF THIS SEAT. 12 by the template 'for every input the law returns true; each argument reads behind the call as it read before'; 0 by the template 'total and deterministic' (their statements: YthlpgpgfdfnofaaTotals.lean).
  GIVEN WITH THE SEED: the statements are not yours to turn. If you find one false, say at which input.
  Laid BY PROGRAM, IN A SANDBOX (cutbox-rows.mjs): the forced cells as the released guide's own fill.sh prints them over the translation e20508e83db602d3… (all of the seat's roots in one cut). By AI agents, Wed Nov 11 2026. No macro, syntax, notation, axiom, sorry.
-/
import Derived.Test.YthlpgpgfdfnofaaChecked
import GoSem.Claim
import GoSem.ClaimJoined
import GoSem.ClaimMapViews
import Derived.JoinedTies
import Derived.KernelRfl
namespace Go.Proofs.Ythlpgpgfdfnofaa
/- THE CELL 'sum', in the pinned program and in every row, IS THE sha256 OF THE DUMP (.gsa) THAT YthlpgpgfdfnofaaProg.lean LOADS. Nothing in Lean hashes anything: it is a label: what it is worth is what the hold of that sum in a sandbox is worth. -/
noncomputable def Try.pinned : Pinned := { name := "ythlpgpgfdfnofaa", sum := "e20508e83db602d3949b99a0c1ee6caf011a071903e29496b41bd1762dc6e265", checked := Try.checked }
namespace Rows
def none {H : Type} : Left H := { results := [], args := [] }

/-- 'laws.FnWrapped': WHATEVER THE INPUT: true; the input reads as it did. -/
def fnWrappedSpec : ChangeSpec := { name := "fnWrapped", fn := fun _ => fun
  | [d] => { results := [.lit (.bool true)], args := [d] }
  | _ => none }
def fnWrappedRow : OpenClaim := { program := "ythlpgpgfdfnofaa", sum := "e20508e83db602d3949b99a0c1ee6caf011a071903e29496b41bd1762dc6e265", func := "loop.example/g03224/laws.FnWrapped", spec := "fnWrapped", apart := false }
def FnWrappedSaid : Prop := fnWrappedRow.holds Try.pinned (OpenSpec.ofChange fnWrappedSpec)

/-- ITS FALSE NEIGHBOUR: 'it returns false'. Refute it at one input. -/
def fnWrappedWrong : ChangeSpec := { name := "fnWrapped", fn := fun _ => fun
  | [d] => { results := [.lit (.bool false)], args := [d] }
  | _ => none }
def FnWrappedWrongFalsely : Prop := fnWrappedRow.holds Try.pinned (OpenSpec.ofChange fnWrappedWrong)

/-- 'laws.FnStreams': WHATEVER THE INPUT: true; the input reads as it did. -/
def fnStreamsSpec : ChangeSpec := { name := "fnStreams", fn := fun _ => fun
  | [d] => { results := [.lit (.bool true)], args := [d] }
  | _ => none }
def fnStreamsRow : OpenClaim := { program := "ythlpgpgfdfnofaa", sum := "e20508e83db602d3949b99a0c1ee6caf011a071903e29496b41bd1762dc6e265", func := "loop.example/g03224/laws.FnStreams", spec := "fnStreams", apart := false }
def FnStreamsSaid : Prop := fnStreamsRow.holds Try.pinned (OpenSpec.ofChange fnStreamsSpec)

/-- ITS FALSE NEIGHBOUR: 'it returns false'. Refute it at one input. -/
def fnStreamsWrong : ChangeSpec := { name := "fnStreams", fn := fun _ => fun
  | [d] => { results := [.lit (.bool false)], args := [d] }
  | _ => none }
def FnStreamsWrongFalsely : Prop := fnStreamsRow.holds Try.pinned (OpenSpec.ofChange fnStreamsWrong)

/-- 'laws.FnSums': WHATEVER THE INPUT: true; the input reads as it did. -/
def fnSumsSpec : ChangeSpec := { name := "fnSums", fn := fun _ => fun
  | [d] => { results := [.lit (.bool true)], args := [d] }
  | _ => none }
def fnSumsRow : OpenClaim := { program := "ythlpgpgfdfnofaa", sum := "e20508e83db602d3949b99a0c1ee6caf011a071903e29496b41bd1762dc6e265", func := "loop.example/g03224/laws.FnSums", spec := "fnSums", apart := false }
def FnSumsSaid : Prop := fnSumsRow.holds Try.pinned (OpenSpec.ofChange fnSumsSpec)

/-- ITS FALSE NEIGHBOUR: 'it returns false'. Refute it at one input. -/
def fnSumsWrong : ChangeSpec := { name := "fnSums", fn := fun _ => fun
  | [d] => { results := [.lit (.bool false)], args := [d] }
  | _ => none }
def FnSumsWrongFalsely : Prop := fnSumsRow.holds Try.pinned (OpenSpec.ofChange fnSumsWrong)

/-- 'laws.FnExactWrapToken': WHATEVER THE INPUT: true; the input reads as it did. -/
def fnExactWrapTokenSpec : ChangeSpec := { name := "fnExactWrapToken", fn := fun _ => fun
  | [d] => { results := [.lit (.bool true)], args := [d] }
  | _ => none }
def fnExactWrapTokenRow : OpenClaim := { program := "ythlpgpgfdfnofaa", sum := "e20508e83db602d3949b99a0c1ee6caf011a071903e29496b41bd1762dc6e265", func := "loop.example/g03224/laws.FnExactWrapToken", spec := "fnExactWrapToken", apart := false }
def FnExactWrapTokenSaid : Prop := fnExactWrapTokenRow.holds Try.pinned (OpenSpec.ofChange fnExactWrapTokenSpec)

/-- ITS FALSE NEIGHBOUR: 'it returns false'. Refute it at one input. -/
def fnExactWrapTokenWrong : ChangeSpec := { name := "fnExactWrapToken", fn := fun _ => fun
  | [d] => { results := [.lit (.bool false)], args := [d] }
  | _ => none }
def FnExactWrapTokenWrongFalsely : Prop := fnExactWrapTokenRow.holds Try.pinned (OpenSpec.ofChange fnExactWrapTokenWrong)

/-- 'laws.FnExactIsStream': WHATEVER THE INPUT: true; the input reads as it did. -/
def fnExactIsStreamSpec : ChangeSpec := { name := "fnExactIsStream", fn := fun _ => fun
  | [d] => { results := [.lit (.bool true)], args := [d] }
  | _ => none }
def fnExactIsStreamRow : OpenClaim := { program := "ythlpgpgfdfnofaa", sum := "e20508e83db602d3949b99a0c1ee6caf011a071903e29496b41bd1762dc6e265", func := "loop.example/g03224/laws.FnExactIsStream", spec := "fnExactIsStream", apart := false }
def FnExactIsStreamSaid : Prop := fnExactIsStreamRow.holds Try.pinned (OpenSpec.ofChange fnExactIsStreamSpec)

/-- ITS FALSE NEIGHBOUR: 'it returns false'. Refute it at one input. -/
def fnExactIsStreamWrong : ChangeSpec := { name := "fnExactIsStream", fn := fun _ => fun
  | [d] => { results := [.lit (.bool false)], args := [d] }
  | _ => none }
def FnExactIsStreamWrongFalsely : Prop := fnExactIsStreamRow.holds Try.pinned (OpenSpec.ofChange fnExactIsStreamWrong)

/-- 'laws.FnExactIsPrefix': WHATEVER THE INPUT: true; the input reads as it did. -/
def fnExactIsPrefixSpec : ChangeSpec := { name := "fnExactIsPrefix", fn := fun _ => fun
  | [d1, d2] => { results := [.lit (.bool true)], args := [d1, d2] }
  | _ => none }
def fnExactIsPrefixRow : OpenClaim := { program := "ythlpgpgfdfnofaa", sum := "e20508e83db602d3949b99a0c1ee6caf011a071903e29496b41bd1762dc6e265", func := "loop.example/g03224/laws.FnExactIsPrefix", spec := "fnExactIsPrefix", apart := false }
def FnExactIsPrefixSaid : Prop := fnExactIsPrefixRow.holds Try.pinned (OpenSpec.ofChange fnExactIsPrefixSpec)

/-- ITS FALSE NEIGHBOUR: 'it returns false'. Refute it at one input. -/
def fnExactIsPrefixWrong : ChangeSpec := { name := "fnExactIsPrefix", fn := fun _ => fun
  | [d1, d2] => { results := [.lit (.bool false)], args := [d1, d2] }
  | _ => none }
def FnExactIsPrefixWrongFalsely : Prop := fnExactIsPrefixRow.holds Try.pinned (OpenSpec.ofChange fnExactIsPrefixWrong)

/-- 'laws.FnExactMeetStreams': WHATEVER THE INPUT: true; the input reads as it did. -/
def fnExactMeetStreamsSpec : ChangeSpec := { name := "fnExactMeetStreams", fn := fun _ => fun
  | [d1, d2] => { results := [.lit (.bool true)], args := [d1, d2] }
  | _ => none }
def fnExactMeetStreamsRow : OpenClaim := { program := "ythlpgpgfdfnofaa", sum := "e20508e83db602d3949b99a0c1ee6caf011a071903e29496b41bd1762dc6e265", func := "loop.example/g03224/laws.FnExactMeetStreams", spec := "fnExactMeetStreams", apart := false }
def FnExactMeetStreamsSaid : Prop := fnExactMeetStreamsRow.holds Try.pinned (OpenSpec.ofChange fnExactMeetStreamsSpec)

/-- ITS FALSE NEIGHBOUR: 'it returns false'. Refute it at one input. -/
def fnExactMeetStreamsWrong : ChangeSpec := { name := "fnExactMeetStreams", fn := fun _ => fun
  | [d1, d2] => { results := [.lit (.bool false)], args := [d1, d2] }
  | _ => none }
def FnExactMeetStreamsWrongFalsely : Prop := fnExactMeetStreamsRow.holds Try.pinned (OpenSpec.ofChange fnExactMeetStreamsWrong)

/-- 'laws.FnExactJoinStreams': WHATEVER THE INPUT: true; the input reads as it did. -/
def fnExactJoinStreamsSpec : ChangeSpec := { name := "fnExactJoinStreams", fn := fun _ => fun
  | [d1, d2] => { results := [.lit (.bool true)], args := [d1, d2] }
  | _ => none }
def fnExactJoinStreamsRow : OpenClaim := { program := "ythlpgpgfdfnofaa", sum := "e20508e83db602d3949b99a0c1ee6caf011a071903e29496b41bd1762dc6e265", func := "loop.example/g03224/laws.FnExactJoinStreams", spec := "fnExactJoinStreams", apart := false }
def FnExactJoinStreamsSaid : Prop := fnExactJoinStreamsRow.holds Try.pinned (OpenSpec.ofChange fnExactJoinStreamsSpec)

/-- ITS FALSE NEIGHBOUR: 'it returns false'. Refute it at one input. -/
def fnExactJoinStreamsWrong : ChangeSpec := { name := "fnExactJoinStreams", fn := fun _ => fun
  | [d1, d2] => { results := [.lit (.bool false)], args := [d1, d2] }
  | _ => none }
def FnExactJoinStreamsWrongFalsely : Prop := fnExactJoinStreamsRow.holds Try.pinned (OpenSpec.ofChange fnExactJoinStreamsWrong)

/-- 'laws.FnExactAppendStream': WHATEVER THE INPUT: true; the input reads as it did. -/
def fnExactAppendStreamSpec : ChangeSpec := { name := "fnExactAppendStream", fn := fun _ => fun
  | [d1, d2] => { results := [.lit (.bool true)], args := [d1, d2] }
  | _ => none }
def fnExactAppendStreamRow : OpenClaim := { program := "ythlpgpgfdfnofaa", sum := "e20508e83db602d3949b99a0c1ee6caf011a071903e29496b41bd1762dc6e265", func := "loop.example/g03224/laws.FnExactAppendStream", spec := "fnExactAppendStream", apart := false }
def FnExactAppendStreamSaid : Prop := fnExactAppendStreamRow.holds Try.pinned (OpenSpec.ofChange fnExactAppendStreamSpec)

/-- ITS FALSE NEIGHBOUR: 'it returns false'. Refute it at one input. -/
def fnExactAppendStreamWrong : ChangeSpec := { name := "fnExactAppendStream", fn := fun _ => fun
  | [d1, d2] => { results := [.lit (.bool false)], args := [d1, d2] }
  | _ => none }
def FnExactAppendStreamWrongFalsely : Prop := fnExactAppendStreamRow.holds Try.pinned (OpenSpec.ofChange fnExactAppendStreamWrong)

/-- 'laws.FnExactRestOf': WHATEVER THE INPUT: true; the input reads as it did. -/
def fnExactRestOfSpec : ChangeSpec := { name := "fnExactRestOf", fn := fun _ => fun
  | [d1, d2] => { results := [.lit (.bool true)], args := [d1, d2] }
  | _ => none }
def fnExactRestOfRow : OpenClaim := { program := "ythlpgpgfdfnofaa", sum := "e20508e83db602d3949b99a0c1ee6caf011a071903e29496b41bd1762dc6e265", func := "loop.example/g03224/laws.FnExactRestOf", spec := "fnExactRestOf", apart := false }
def FnExactRestOfSaid : Prop := fnExactRestOfRow.holds Try.pinned (OpenSpec.ofChange fnExactRestOfSpec)

/-- ITS FALSE NEIGHBOUR: 'it returns false'. Refute it at one input. -/
def fnExactRestOfWrong : ChangeSpec := { name := "fnExactRestOf", fn := fun _ => fun
  | [d1, d2] => { results := [.lit (.bool false)], args := [d1, d2] }
  | _ => none }
def FnExactRestOfWrongFalsely : Prop := fnExactRestOfRow.holds Try.pinned (OpenSpec.ofChange fnExactRestOfWrong)

/-- 'laws.FnExactAlternateStreams': WHATEVER THE INPUT: true; the input reads as it did. -/
def fnExactAlternateStreamsSpec : ChangeSpec := { name := "fnExactAlternateStreams", fn := fun _ => fun
  | [d1, d2] => { results := [.lit (.bool true)], args := [d1, d2] }
  | _ => none }
def fnExactAlternateStreamsRow : OpenClaim := { program := "ythlpgpgfdfnofaa", sum := "e20508e83db602d3949b99a0c1ee6caf011a071903e29496b41bd1762dc6e265", func := "loop.example/g03224/laws.FnExactAlternateStreams", spec := "fnExactAlternateStreams", apart := false }
def FnExactAlternateStreamsSaid : Prop := fnExactAlternateStreamsRow.holds Try.pinned (OpenSpec.ofChange fnExactAlternateStreamsSpec)

/-- ITS FALSE NEIGHBOUR: 'it returns false'. Refute it at one input. -/
def fnExactAlternateStreamsWrong : ChangeSpec := { name := "fnExactAlternateStreams", fn := fun _ => fun
  | [d1, d2] => { results := [.lit (.bool false)], args := [d1, d2] }
  | _ => none }
def FnExactAlternateStreamsWrongFalsely : Prop := fnExactAlternateStreamsRow.holds Try.pinned (OpenSpec.ofChange fnExactAlternateStreamsWrong)

/-- 'laws.FnExactSplitStream': WHATEVER THE INPUT: true; the input reads as it did. -/
def fnExactSplitStreamSpec : ChangeSpec := { name := "fnExactSplitStream", fn := fun _ => fun
  | [d] => { results := [.lit (.bool true)], args := [d] }
  | _ => none }
def fnExactSplitStreamRow : OpenClaim := { program := "ythlpgpgfdfnofaa", sum := "e20508e83db602d3949b99a0c1ee6caf011a071903e29496b41bd1762dc6e265", func := "loop.example/g03224/laws.FnExactSplitStream", spec := "fnExactSplitStream", apart := false }
def FnExactSplitStreamSaid : Prop := fnExactSplitStreamRow.holds Try.pinned (OpenSpec.ofChange fnExactSplitStreamSpec)

/-- ITS FALSE NEIGHBOUR: 'it returns false'. Refute it at one input. -/
def fnExactSplitStreamWrong : ChangeSpec := { name := "fnExactSplitStream", fn := fun _ => fun
  | [d] => { results := [.lit (.bool false)], args := [d] }
  | _ => none }
def FnExactSplitStreamWrongFalsely : Prop := fnExactSplitStreamRow.holds Try.pinned (OpenSpec.ofChange fnExactSplitStreamWrong)

/- THE SECOND FORM. 'bulk': how many values and letters a reading holds, each counted each time it is reached (what is shared counts as often as it is met; a slice's spare places count too). A statement '..UptoSaid' is the law's where the arguments, and the package variables that the reading takes, are together of bulk at most 1048576: NARROWER than '..Said'. Prove '..Said' where nothing that the law and all that it calls make is longer than what came in: it says more and counts as full. Else prove '..UptoSaid'. A law counts once. -/
mutual
def uptoBulk {H : Type} : DataW H → Nat
  | .lit (.string bytes) => bytes.length + 1
  | .lit _ => 1
  | .nil => 1
  | .ptr d => uptoBulk d + 1
  | .slice elems spare => uptoBulkAll elems + uptoBulkAll spare + 1
  | .agg parts => uptoBulkAll parts + 1
  | .iface _ d => uptoBulk d + 1
  | .map entries => uptoBulkEntries entries + 1
  | .held _ => 1
def uptoBulkAll {H : Type} : List (DataW H) → Nat
  | [] => 0
  | d :: r => uptoBulk d + uptoBulkAll r
def uptoBulkEntries {H : Type} : List (Lit × DataW H) → Nat
  | [] => 0
  | x :: r => uptoBulkEntry x + uptoBulkEntries r
def uptoBulkEntry {H : Type} : Lit × DataW H → Nat
  | (.string bytes, d) => bytes.length + uptoBulk d + 1
  | (_, d) => uptoBulk d + 1
 end
def uptoSmall : (H : Type) → List (DataW H) → Bool := fun _ ds => decide (uptoBulkAll ds ≤ 1048576)
def OpenSpec.upto (s : _root_.Go.ChangeSpec) : _root_.Go.OpenSpec := { _root_.Go.OpenSpec.ofChange s with cond := some uptoSmall }

/-- 'laws.FnWrapped', WHERE WHAT IT READS IS OF BULK AT MOST 1048576: true; the input reads as it did. -/
def fnWrappedUptoRow : OpenClaim := { program := "ythlpgpgfdfnofaa", sum := "e20508e83db602d3949b99a0c1ee6caf011a071903e29496b41bd1762dc6e265", func := "loop.example/g03224/laws.FnWrapped", spec := "fnWrapped", apart := false, narrowed := true }
def FnWrappedUptoSaid : Prop := fnWrappedUptoRow.holds Try.pinned (OpenSpec.upto fnWrappedSpec)

/-- 'laws.FnStreams', WHERE WHAT IT READS IS OF BULK AT MOST 1048576: true; the input reads as it did. -/
def fnStreamsUptoRow : OpenClaim := { program := "ythlpgpgfdfnofaa", sum := "e20508e83db602d3949b99a0c1ee6caf011a071903e29496b41bd1762dc6e265", func := "loop.example/g03224/laws.FnStreams", spec := "fnStreams", apart := false, narrowed := true }
def FnStreamsUptoSaid : Prop := fnStreamsUptoRow.holds Try.pinned (OpenSpec.upto fnStreamsSpec)

/-- 'laws.FnSums', WHERE WHAT IT READS IS OF BULK AT MOST 1048576: true; the input reads as it did. -/
def fnSumsUptoRow : OpenClaim := { program := "ythlpgpgfdfnofaa", sum := "e20508e83db602d3949b99a0c1ee6caf011a071903e29496b41bd1762dc6e265", func := "loop.example/g03224/laws.FnSums", spec := "fnSums", apart := false, narrowed := true }
def FnSumsUptoSaid : Prop := fnSumsUptoRow.holds Try.pinned (OpenSpec.upto fnSumsSpec)

/-- 'laws.FnExactWrapToken', WHERE WHAT IT READS IS OF BULK AT MOST 1048576: true; the input reads as it did. -/
def fnExactWrapTokenUptoRow : OpenClaim := { program := "ythlpgpgfdfnofaa", sum := "e20508e83db602d3949b99a0c1ee6caf011a071903e29496b41bd1762dc6e265", func := "loop.example/g03224/laws.FnExactWrapToken", spec := "fnExactWrapToken", apart := false, narrowed := true }
def FnExactWrapTokenUptoSaid : Prop := fnExactWrapTokenUptoRow.holds Try.pinned (OpenSpec.upto fnExactWrapTokenSpec)

/-- 'laws.FnExactIsStream', WHERE WHAT IT READS IS OF BULK AT MOST 1048576: true; the input reads as it did. -/
def fnExactIsStreamUptoRow : OpenClaim := { program := "ythlpgpgfdfnofaa", sum := "e20508e83db602d3949b99a0c1ee6caf011a071903e29496b41bd1762dc6e265", func := "loop.example/g03224/laws.FnExactIsStream", spec := "fnExactIsStream", apart := false, narrowed := true }
def FnExactIsStreamUptoSaid : Prop := fnExactIsStreamUptoRow.holds Try.pinned (OpenSpec.upto fnExactIsStreamSpec)

/-- 'laws.FnExactIsPrefix', WHERE WHAT IT READS IS OF BULK AT MOST 1048576: true; the input reads as it did. -/
def fnExactIsPrefixUptoRow : OpenClaim := { program := "ythlpgpgfdfnofaa", sum := "e20508e83db602d3949b99a0c1ee6caf011a071903e29496b41bd1762dc6e265", func := "loop.example/g03224/laws.FnExactIsPrefix", spec := "fnExactIsPrefix", apart := false, narrowed := true }
def FnExactIsPrefixUptoSaid : Prop := fnExactIsPrefixUptoRow.holds Try.pinned (OpenSpec.upto fnExactIsPrefixSpec)

/-- 'laws.FnExactMeetStreams', WHERE WHAT IT READS IS OF BULK AT MOST 1048576: true; the input reads as it did. -/
def fnExactMeetStreamsUptoRow : OpenClaim := { program := "ythlpgpgfdfnofaa", sum := "e20508e83db602d3949b99a0c1ee6caf011a071903e29496b41bd1762dc6e265", func := "loop.example/g03224/laws.FnExactMeetStreams", spec := "fnExactMeetStreams", apart := false, narrowed := true }
def FnExactMeetStreamsUptoSaid : Prop := fnExactMeetStreamsUptoRow.holds Try.pinned (OpenSpec.upto fnExactMeetStreamsSpec)

/-- 'laws.FnExactJoinStreams', WHERE WHAT IT READS IS OF BULK AT MOST 1048576: true; the input reads as it did. -/
def fnExactJoinStreamsUptoRow : OpenClaim := { program := "ythlpgpgfdfnofaa", sum := "e20508e83db602d3949b99a0c1ee6caf011a071903e29496b41bd1762dc6e265", func := "loop.example/g03224/laws.FnExactJoinStreams", spec := "fnExactJoinStreams", apart := false, narrowed := true }
def FnExactJoinStreamsUptoSaid : Prop := fnExactJoinStreamsUptoRow.holds Try.pinned (OpenSpec.upto fnExactJoinStreamsSpec)

/-- 'laws.FnExactAppendStream', WHERE WHAT IT READS IS OF BULK AT MOST 1048576: true; the input reads as it did. -/
def fnExactAppendStreamUptoRow : OpenClaim := { program := "ythlpgpgfdfnofaa", sum := "e20508e83db602d3949b99a0c1ee6caf011a071903e29496b41bd1762dc6e265", func := "loop.example/g03224/laws.FnExactAppendStream", spec := "fnExactAppendStream", apart := false, narrowed := true }
def FnExactAppendStreamUptoSaid : Prop := fnExactAppendStreamUptoRow.holds Try.pinned (OpenSpec.upto fnExactAppendStreamSpec)

/-- 'laws.FnExactRestOf', WHERE WHAT IT READS IS OF BULK AT MOST 1048576: true; the input reads as it did. -/
def fnExactRestOfUptoRow : OpenClaim := { program := "ythlpgpgfdfnofaa", sum := "e20508e83db602d3949b99a0c1ee6caf011a071903e29496b41bd1762dc6e265", func := "loop.example/g03224/laws.FnExactRestOf", spec := "fnExactRestOf", apart := false, narrowed := true }
def FnExactRestOfUptoSaid : Prop := fnExactRestOfUptoRow.holds Try.pinned (OpenSpec.upto fnExactRestOfSpec)

/-- 'laws.FnExactAlternateStreams', WHERE WHAT IT READS IS OF BULK AT MOST 1048576: true; the input reads as it did. -/
def fnExactAlternateStreamsUptoRow : OpenClaim := { program := "ythlpgpgfdfnofaa", sum := "e20508e83db602d3949b99a0c1ee6caf011a071903e29496b41bd1762dc6e265", func := "loop.example/g03224/laws.FnExactAlternateStreams", spec := "fnExactAlternateStreams", apart := false, narrowed := true }
def FnExactAlternateStreamsUptoSaid : Prop := fnExactAlternateStreamsUptoRow.holds Try.pinned (OpenSpec.upto fnExactAlternateStreamsSpec)

/-- 'laws.FnExactSplitStream', WHERE WHAT IT READS IS OF BULK AT MOST 1048576: true; the input reads as it did. -/
def fnExactSplitStreamUptoRow : OpenClaim := { program := "ythlpgpgfdfnofaa", sum := "e20508e83db602d3949b99a0c1ee6caf011a071903e29496b41bd1762dc6e265", func := "loop.example/g03224/laws.FnExactSplitStream", spec := "fnExactSplitStream", apart := false, narrowed := true }
def FnExactSplitStreamUptoSaid : Prop := fnExactSplitStreamUptoRow.holds Try.pinned (OpenSpec.upto fnExactSplitStreamSpec)

end Rows
end Go.Proofs.Ythlpgpgfdfnofaa
