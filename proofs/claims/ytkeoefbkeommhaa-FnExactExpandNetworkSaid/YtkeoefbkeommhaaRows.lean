/-
  No cell of these rows narrows 'for every input' (looked for: loops, veiled, ifaces, maps, wideKeys, modest, calm, conditions, laid).
  DERIVED. THE GIVEN ROWS OF THIS SEAT. 9 by the template 'for every input the law returns true; each argument reads behind the call as it read before'; 0 by the template 'total and deterministic' (their statements: YtkeoefbkeommhaaTotals.lean).
  GIVEN WITH THE SEED: the statements are not yours to turn. If you find one false, say at which input.
  Laid BY PROGRAM, IN A SANDBOX (cutbox-rows.mjs): the forced cells as the released guide's own fill.sh prints them over the translation fb2c60a9755ef05e… (all of the seat's roots in one cut). By AI agents, Wed Nov 11 2026. No macro, syntax, notation, axiom, sorry.
-/
import Derived.Test.YtkeoefbkeommhaaChecked
import GoSem.Claim
import GoSem.ClaimJoined
import GoSem.ClaimMapViews
import Derived.JoinedTies
import Derived.KernelRfl
namespace Go.Proofs.Ytkeoefbkeommhaa
/- THE CELL 'sum', in the pinned program and in every row, IS THE sha256 OF THE DUMP (.gsa) THAT YtkeoefbkeommhaaProg.lean LOADS. Nothing in Lean hashes anything: it is a label: what it is worth is what the hold of that sum in a sandbox is worth. -/
noncomputable def Try.pinned : Pinned := { name := "ytkeoefbkeommhaa", sum := "fb2c60a9755ef05e3e11a86647e8b1f86a5555491378131ba4599fec42a3215c", checked := Try.checked }
namespace Rows
def none {H : Type} : Left H := { results := [], args := [] }

/-- 'laws.FnExactFeedNetwork': WHATEVER THE INPUT: true; the input reads as it did. -/
def fnExactFeedNetworkSpec : ChangeSpec := { name := "fnExactFeedNetwork", fn := fun _ => fun
  | [d1, d2, d3] => { results := [.lit (.bool true)], args := [d1, d2, d3] }
  | _ => none }
def fnExactFeedNetworkRow : OpenClaim := { program := "ytkeoefbkeommhaa", sum := "fb2c60a9755ef05e3e11a86647e8b1f86a5555491378131ba4599fec42a3215c", func := "loop.example/g03224/laws.FnExactFeedNetwork", spec := "fnExactFeedNetwork", unfollowed := true, recurses := true, plainKeys := false, apart := false }
def FnExactFeedNetworkSaid : Prop := fnExactFeedNetworkRow.holds Try.pinned (OpenSpec.ofChange fnExactFeedNetworkSpec)

/-- ITS FALSE NEIGHBOUR: 'it returns false'. Refute it at one input. -/
def fnExactFeedNetworkWrong : ChangeSpec := { name := "fnExactFeedNetwork", fn := fun _ => fun
  | [d1, d2, d3] => { results := [.lit (.bool false)], args := [d1, d2, d3] }
  | _ => none }
def FnExactFeedNetworkWrongFalsely : Prop := fnExactFeedNetworkRow.holds Try.pinned (OpenSpec.ofChange fnExactFeedNetworkWrong)

/-- 'laws.FnExactJoinNetworks': WHATEVER THE INPUT: true; the input reads as it did. -/
def fnExactJoinNetworksSpec : ChangeSpec := { name := "fnExactJoinNetworks", fn := fun _ => fun
  | [d1, d2] => { results := [.lit (.bool true)], args := [d1, d2] }
  | _ => none }
def fnExactJoinNetworksRow : OpenClaim := { program := "ytkeoefbkeommhaa", sum := "fb2c60a9755ef05e3e11a86647e8b1f86a5555491378131ba4599fec42a3215c", func := "loop.example/g03224/laws.FnExactJoinNetworks", spec := "fnExactJoinNetworks", unfollowed := true, recurses := true, plainKeys := false, apart := false }
def FnExactJoinNetworksSaid : Prop := fnExactJoinNetworksRow.holds Try.pinned (OpenSpec.ofChange fnExactJoinNetworksSpec)

/-- ITS FALSE NEIGHBOUR: 'it returns false'. Refute it at one input. -/
def fnExactJoinNetworksWrong : ChangeSpec := { name := "fnExactJoinNetworks", fn := fun _ => fun
  | [d1, d2] => { results := [.lit (.bool false)], args := [d1, d2] }
  | _ => none }
def FnExactJoinNetworksWrongFalsely : Prop := fnExactJoinNetworksRow.holds Try.pinned (OpenSpec.ofChange fnExactJoinNetworksWrong)

/-- 'laws.FnExactIsTemplate': WHATEVER THE INPUT: true; the input reads as it did. -/
def fnExactIsTemplateSpec : ChangeSpec := { name := "fnExactIsTemplate", fn := fun _ => fun
  | [d1, d2, d3] => { results := [.lit (.bool true)], args := [d1, d2, d3] }
  | _ => none }
def fnExactIsTemplateRow : OpenClaim := { program := "ytkeoefbkeommhaa", sum := "fb2c60a9755ef05e3e11a86647e8b1f86a5555491378131ba4599fec42a3215c", func := "loop.example/g03224/laws.FnExactIsTemplate", spec := "fnExactIsTemplate", unfollowed := true, recurses := true, plainKeys := false, apart := false }
def FnExactIsTemplateSaid : Prop := fnExactIsTemplateRow.holds Try.pinned (OpenSpec.ofChange fnExactIsTemplateSpec)

/-- ITS FALSE NEIGHBOUR: 'it returns false'. Refute it at one input. -/
def fnExactIsTemplateWrong : ChangeSpec := { name := "fnExactIsTemplate", fn := fun _ => fun
  | [d1, d2, d3] => { results := [.lit (.bool false)], args := [d1, d2, d3] }
  | _ => none }
def FnExactIsTemplateWrongFalsely : Prop := fnExactIsTemplateRow.holds Try.pinned (OpenSpec.ofChange fnExactIsTemplateWrong)

/-- 'laws.FnExactExpandNetwork': WHATEVER THE INPUT: true; the input reads as it did. -/
def fnExactExpandNetworkSpec : ChangeSpec := { name := "fnExactExpandNetwork", fn := fun _ => fun
  | [d1, d2, d3] => { results := [.lit (.bool true)], args := [d1, d2, d3] }
  | _ => none }
def fnExactExpandNetworkRow : OpenClaim := { program := "ytkeoefbkeommhaa", sum := "fb2c60a9755ef05e3e11a86647e8b1f86a5555491378131ba4599fec42a3215c", func := "loop.example/g03224/laws.FnExactExpandNetwork", spec := "fnExactExpandNetwork", unfollowed := true, recurses := true, plainKeys := false, apart := false }
def FnExactExpandNetworkSaid : Prop := fnExactExpandNetworkRow.holds Try.pinned (OpenSpec.ofChange fnExactExpandNetworkSpec)

/-- ITS FALSE NEIGHBOUR: 'it returns false'. Refute it at one input. -/
def fnExactExpandNetworkWrong : ChangeSpec := { name := "fnExactExpandNetwork", fn := fun _ => fun
  | [d1, d2, d3] => { results := [.lit (.bool false)], args := [d1, d2, d3] }
  | _ => none }
def FnExactExpandNetworkWrongFalsely : Prop := fnExactExpandNetworkRow.holds Try.pinned (OpenSpec.ofChange fnExactExpandNetworkWrong)

/-- 'laws.FnExactSpliceThrough': WHATEVER THE INPUT: true; the input reads as it did. -/
def fnExactSpliceThroughSpec : ChangeSpec := { name := "fnExactSpliceThrough", fn := fun _ => fun
  | [d1, d2] => { results := [.lit (.bool true)], args := [d1, d2] }
  | _ => none }
def fnExactSpliceThroughRow : OpenClaim := { program := "ytkeoefbkeommhaa", sum := "fb2c60a9755ef05e3e11a86647e8b1f86a5555491378131ba4599fec42a3215c", func := "loop.example/g03224/laws.FnExactSpliceThrough", spec := "fnExactSpliceThrough", unfollowed := true, recurses := true, plainKeys := false, apart := false }
def FnExactSpliceThroughSaid : Prop := fnExactSpliceThroughRow.holds Try.pinned (OpenSpec.ofChange fnExactSpliceThroughSpec)

/-- ITS FALSE NEIGHBOUR: 'it returns false'. Refute it at one input. -/
def fnExactSpliceThroughWrong : ChangeSpec := { name := "fnExactSpliceThrough", fn := fun _ => fun
  | [d1, d2] => { results := [.lit (.bool false)], args := [d1, d2] }
  | _ => none }
def FnExactSpliceThroughWrongFalsely : Prop := fnExactSpliceThroughRow.holds Try.pinned (OpenSpec.ofChange fnExactSpliceThroughWrong)

/-- 'laws.FnExactDropProcess': WHATEVER THE INPUT: true; the input reads as it did. -/
def fnExactDropProcessSpec : ChangeSpec := { name := "fnExactDropProcess", fn := fun _ => fun
  | [d1, d2] => { results := [.lit (.bool true)], args := [d1, d2] }
  | _ => none }
def fnExactDropProcessRow : OpenClaim := { program := "ytkeoefbkeommhaa", sum := "fb2c60a9755ef05e3e11a86647e8b1f86a5555491378131ba4599fec42a3215c", func := "loop.example/g03224/laws.FnExactDropProcess", spec := "fnExactDropProcess", unfollowed := true, recurses := true, plainKeys := false, apart := false }
def FnExactDropProcessSaid : Prop := fnExactDropProcessRow.holds Try.pinned (OpenSpec.ofChange fnExactDropProcessSpec)

/-- ITS FALSE NEIGHBOUR: 'it returns false'. Refute it at one input. -/
def fnExactDropProcessWrong : ChangeSpec := { name := "fnExactDropProcess", fn := fun _ => fun
  | [d1, d2] => { results := [.lit (.bool false)], args := [d1, d2] }
  | _ => none }
def FnExactDropProcessWrongFalsely : Prop := fnExactDropProcessRow.holds Try.pinned (OpenSpec.ofChange fnExactDropProcessWrong)

/-- 'laws.FnExactNetworkOf': WHATEVER THE INPUT: true; the input reads as it did. -/
def fnExactNetworkOfSpec : ChangeSpec := { name := "fnExactNetworkOf", fn := fun _ => fun
  | [d] => { results := [.lit (.bool true)], args := [d] }
  | _ => none }
def fnExactNetworkOfRow : OpenClaim := { program := "ytkeoefbkeommhaa", sum := "fb2c60a9755ef05e3e11a86647e8b1f86a5555491378131ba4599fec42a3215c", func := "loop.example/g03224/laws.FnExactNetworkOf", spec := "fnExactNetworkOf", unfollowed := true, recurses := true, plainKeys := false, apart := false }
def FnExactNetworkOfSaid : Prop := fnExactNetworkOfRow.holds Try.pinned (OpenSpec.ofChange fnExactNetworkOfSpec)

/-- ITS FALSE NEIGHBOUR: 'it returns false'. Refute it at one input. -/
def fnExactNetworkOfWrong : ChangeSpec := { name := "fnExactNetworkOf", fn := fun _ => fun
  | [d] => { results := [.lit (.bool false)], args := [d] }
  | _ => none }
def FnExactNetworkOfWrongFalsely : Prop := fnExactNetworkOfRow.holds Try.pinned (OpenSpec.ofChange fnExactNetworkOfWrong)

/-- 'laws.FnExactRepetitionOf': WHATEVER THE INPUT: true; the input reads as it did. -/
def fnExactRepetitionOfSpec : ChangeSpec := { name := "fnExactRepetitionOf", fn := fun _ => fun
  | [d] => { results := [.lit (.bool true)], args := [d] }
  | _ => none }
def fnExactRepetitionOfRow : OpenClaim := { program := "ytkeoefbkeommhaa", sum := "fb2c60a9755ef05e3e11a86647e8b1f86a5555491378131ba4599fec42a3215c", func := "loop.example/g03224/laws.FnExactRepetitionOf", spec := "fnExactRepetitionOf", plainKeys := false, apart := false }
def FnExactRepetitionOfSaid : Prop := fnExactRepetitionOfRow.holds Try.pinned (OpenSpec.ofChange fnExactRepetitionOfSpec)

/-- ITS FALSE NEIGHBOUR: 'it returns false'. Refute it at one input. -/
def fnExactRepetitionOfWrong : ChangeSpec := { name := "fnExactRepetitionOf", fn := fun _ => fun
  | [d] => { results := [.lit (.bool false)], args := [d] }
  | _ => none }
def FnExactRepetitionOfWrongFalsely : Prop := fnExactRepetitionOfRow.holds Try.pinned (OpenSpec.ofChange fnExactRepetitionOfWrong)

/-- 'laws.FnExactScheduleOf': WHATEVER THE INPUT: true; the input reads as it did. -/
def fnExactScheduleOfSpec : ChangeSpec := { name := "fnExactScheduleOf", fn := fun _ => fun
  | [d] => { results := [.lit (.bool true)], args := [d] }
  | _ => none }
def fnExactScheduleOfRow : OpenClaim := { program := "ytkeoefbkeommhaa", sum := "fb2c60a9755ef05e3e11a86647e8b1f86a5555491378131ba4599fec42a3215c", func := "loop.example/g03224/laws.FnExactScheduleOf", spec := "fnExactScheduleOf", unfollowed := true, recurses := true, plainKeys := false, apart := false }
def FnExactScheduleOfSaid : Prop := fnExactScheduleOfRow.holds Try.pinned (OpenSpec.ofChange fnExactScheduleOfSpec)

/-- ITS FALSE NEIGHBOUR: 'it returns false'. Refute it at one input. -/
def fnExactScheduleOfWrong : ChangeSpec := { name := "fnExactScheduleOf", fn := fun _ => fun
  | [d] => { results := [.lit (.bool false)], args := [d] }
  | _ => none }
def FnExactScheduleOfWrongFalsely : Prop := fnExactScheduleOfRow.holds Try.pinned (OpenSpec.ofChange fnExactScheduleOfWrong)

/- THE SECOND FORM. 'bulk': how many values and letters a reading holds, each counted each time it is reached (what is shared counts as often as it is met; a slice's spare places count too). A statement '..UptoSaid' is the law's where the arguments, and the package variables that the reading takes, are together of bulk at most 1048576: NARROWER than '..Said'. Prove '..Said' where nothing that the law and all that it calls make is longer than what came in: it says more and counts as full. Else prove '..UptoSaid'. A law counts once. -/
mutual
def uptoBulk {H : Type} : DataW H → Nat
  | .lit (.string bytes) => bytes.length + 1
  | .lit _ => 1
  | .nil => 1
  | .ptr d => uptoBulk d + 1
  | .slice elems spare => uptoBulkAll elems + uptoBulkAll spare + 1
  | .agg parts => uptoBulkAll parts + 1
  | .iface _ d => uptoBulk d + 1
  | .map entries => uptoBulkEntries entries + 1
  | .held _ => 1
def uptoBulkAll {H : Type} : List (DataW H) → Nat
  | [] => 0
  | d :: r => uptoBulk d + uptoBulkAll r
def uptoBulkEntries {H : Type} : List (Lit × DataW H) → Nat
  | [] => 0
  | x :: r => uptoBulkEntry x + uptoBulkEntries r
def uptoBulkEntry {H : Type} : Lit × DataW H → Nat
  | (.string bytes, d) => bytes.length + uptoBulk d + 1
  | (_, d) => uptoBulk d + 1
 end
def uptoSmall : (H : Type) → List (DataW H) → Bool := fun _ ds => decide (uptoBulkAll ds ≤ 1048576)
def OpenSpec.upto (s : _root_.Go.ChangeSpec) : _root_.Go.OpenSpec := { _root_.Go.OpenSpec.ofChange s with cond := some uptoSmall }

/-- 'laws.FnExactFeedNetwork', WHERE WHAT IT READS IS OF BULK AT MOST 1048576: true; the input reads as it did. -/
def fnExactFeedNetworkUptoRow : OpenClaim := { program := "ytkeoefbkeommhaa", sum := "fb2c60a9755ef05e3e11a86647e8b1f86a5555491378131ba4599fec42a3215c", func := "loop.example/g03224/laws.FnExactFeedNetwork", spec := "fnExactFeedNetwork", unfollowed := true, recurses := true, plainKeys := false, apart := false, narrowed := true }
def FnExactFeedNetworkUptoSaid : Prop := fnExactFeedNetworkUptoRow.holds Try.pinned (OpenSpec.upto fnExactFeedNetworkSpec)

/-- 'laws.FnExactJoinNetworks', WHERE WHAT IT READS IS OF BULK AT MOST 1048576: true; the input reads as it did. -/
def fnExactJoinNetworksUptoRow : OpenClaim := { program := "ytkeoefbkeommhaa", sum := "fb2c60a9755ef05e3e11a86647e8b1f86a5555491378131ba4599fec42a3215c", func := "loop.example/g03224/laws.FnExactJoinNetworks", spec := "fnExactJoinNetworks", unfollowed := true, recurses := true, plainKeys := false, apart := false, narrowed := true }
def FnExactJoinNetworksUptoSaid : Prop := fnExactJoinNetworksUptoRow.holds Try.pinned (OpenSpec.upto fnExactJoinNetworksSpec)

/-- 'laws.FnExactIsTemplate', WHERE WHAT IT READS IS OF BULK AT MOST 1048576: true; the input reads as it did. -/
def fnExactIsTemplateUptoRow : OpenClaim := { program := "ytkeoefbkeommhaa", sum := "fb2c60a9755ef05e3e11a86647e8b1f86a5555491378131ba4599fec42a3215c", func := "loop.example/g03224/laws.FnExactIsTemplate", spec := "fnExactIsTemplate", unfollowed := true, recurses := true, plainKeys := false, apart := false, narrowed := true }
def FnExactIsTemplateUptoSaid : Prop := fnExactIsTemplateUptoRow.holds Try.pinned (OpenSpec.upto fnExactIsTemplateSpec)

/-- 'laws.FnExactExpandNetwork', WHERE WHAT IT READS IS OF BULK AT MOST 1048576: true; the input reads as it did. -/
def fnExactExpandNetworkUptoRow : OpenClaim := { program := "ytkeoefbkeommhaa", sum := "fb2c60a9755ef05e3e11a86647e8b1f86a5555491378131ba4599fec42a3215c", func := "loop.example/g03224/laws.FnExactExpandNetwork", spec := "fnExactExpandNetwork", unfollowed := true, recurses := true, plainKeys := false, apart := false, narrowed := true }
def FnExactExpandNetworkUptoSaid : Prop := fnExactExpandNetworkUptoRow.holds Try.pinned (OpenSpec.upto fnExactExpandNetworkSpec)

/-- 'laws.FnExactSpliceThrough', WHERE WHAT IT READS IS OF BULK AT MOST 1048576: true; the input reads as it did. -/
def fnExactSpliceThroughUptoRow : OpenClaim := { program := "ytkeoefbkeommhaa", sum := "fb2c60a9755ef05e3e11a86647e8b1f86a5555491378131ba4599fec42a3215c", func := "loop.example/g03224/laws.FnExactSpliceThrough", spec := "fnExactSpliceThrough", unfollowed := true, recurses := true, plainKeys := false, apart := false, narrowed := true }
def FnExactSpliceThroughUptoSaid : Prop := fnExactSpliceThroughUptoRow.holds Try.pinned (OpenSpec.upto fnExactSpliceThroughSpec)

/-- 'laws.FnExactDropProcess', WHERE WHAT IT READS IS OF BULK AT MOST 1048576: true; the input reads as it did. -/
def fnExactDropProcessUptoRow : OpenClaim := { program := "ytkeoefbkeommhaa", sum := "fb2c60a9755ef05e3e11a86647e8b1f86a5555491378131ba4599fec42a3215c", func := "loop.example/g03224/laws.FnExactDropProcess", spec := "fnExactDropProcess", unfollowed := true, recurses := true, plainKeys := false, apart := false, narrowed := true }
def FnExactDropProcessUptoSaid : Prop := fnExactDropProcessUptoRow.holds Try.pinned (OpenSpec.upto fnExactDropProcessSpec)

/-- 'laws.FnExactNetworkOf', WHERE WHAT IT READS IS OF BULK AT MOST 1048576: true; the input reads as it did. -/
def fnExactNetworkOfUptoRow : OpenClaim := { program := "ytkeoefbkeommhaa", sum := "fb2c60a9755ef05e3e11a86647e8b1f86a5555491378131ba4599fec42a3215c", func := "loop.example/g03224/laws.FnExactNetworkOf", spec := "fnExactNetworkOf", unfollowed := true, recurses := true, plainKeys := false, apart := false, narrowed := true }
def FnExactNetworkOfUptoSaid : Prop := fnExactNetworkOfUptoRow.holds Try.pinned (OpenSpec.upto fnExactNetworkOfSpec)

/-- 'laws.FnExactRepetitionOf', WHERE WHAT IT READS IS OF BULK AT MOST 1048576: true; the input reads as it did. -/
def fnExactRepetitionOfUptoRow : OpenClaim := { program := "ytkeoefbkeommhaa", sum := "fb2c60a9755ef05e3e11a86647e8b1f86a5555491378131ba4599fec42a3215c", func := "loop.example/g03224/laws.FnExactRepetitionOf", spec := "fnExactRepetitionOf", plainKeys := false, apart := false, narrowed := true }
def FnExactRepetitionOfUptoSaid : Prop := fnExactRepetitionOfUptoRow.holds Try.pinned (OpenSpec.upto fnExactRepetitionOfSpec)

/-- 'laws.FnExactScheduleOf', WHERE WHAT IT READS IS OF BULK AT MOST 1048576: true; the input reads as it did. -/
def fnExactScheduleOfUptoRow : OpenClaim := { program := "ytkeoefbkeommhaa", sum := "fb2c60a9755ef05e3e11a86647e8b1f86a5555491378131ba4599fec42a3215c", func := "loop.example/g03224/laws.FnExactScheduleOf", spec := "fnExactScheduleOf", unfollowed := true, recurses := true, plainKeys := false, apart := false, narrowed := true }
def FnExactScheduleOfUptoSaid : Prop := fnExactScheduleOfUptoRow.holds Try.pinned (OpenSpec.upto fnExactScheduleOfSpec)

end Rows
end Go.Proofs.Ytkeoefbkeommhaa
