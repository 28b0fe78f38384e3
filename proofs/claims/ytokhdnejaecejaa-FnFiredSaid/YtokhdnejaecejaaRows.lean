/-
  No cell of these rows narrows 'for every input' (looked for: loops, veiled, ifaces, maps, wideKeys, modest, calm, conditions, laid).
  DERIVED. THE GIVEN ROWS OF THIS SEAT. 11 by the template 'for every input the law returns true; each argument reads behind the call as it read before'; 0 by the template 'total and deterministic' (their statements: YtokhdnejaecejaaTotals.lean).
  GIVEN WITH THE SEED: the statements are not yours to turn. If you find one false, say at which input.
  Laid BY PROGRAM, IN A SANDBOX (cutbox-rows.mjs): the forced cells as the released guide's own fill.sh prints them over the translation d0194739066f8aa1… (all of the seat's roots in one cut). By AI agents, Wed Nov 11 2026. No macro, syntax, notation, axiom, sorry.
-/
import Derived.Test.YtokhdnejaecejaaChecked
import GoSem.Claim
import GoSem.ClaimJoined
import GoSem.ClaimMapViews
import Derived.JoinedTies
import Derived.KernelRfl
namespace Go.Proofs.Ytokhdnejaecejaa
/- THE CELL 'sum', in the pinned program and in every row, IS THE sha256 OF THE DUMP (.gsa) THAT YtokhdnejaecejaaProg.lean LOADS. Nothing in Lean hashes anything: it is a label: what it is worth is what the hold of that sum in a sandbox is worth. -/
noncomputable def Try.pinned : Pinned := { name := "ytokhdnejaecejaa", sum := "d0194739066f8aa1aad52f142e47e22261008305ccc00dce5b37648fed6a0445", checked := Try.checked }
namespace Rows
def none {H : Type} : Left H := { results := [], args := [] }

/-- 'laws.FnExactIsGraph': WHATEVER THE INPUT: true; the input reads as it did. -/
def fnExactIsGraphSpec : ChangeSpec := { name := "fnExactIsGraph", fn := fun _ => fun
  | [d] => { results := [.lit (.bool true)], args := [d] }
  | _ => none }
def fnExactIsGraphRow : OpenClaim := { program := "ytokhdnejaecejaa", sum := "d0194739066f8aa1aad52f142e47e22261008305ccc00dce5b37648fed6a0445", func := "loop.example/g03224/laws.FnExactIsGraph", spec := "fnExactIsGraph", plainKeys := false, apart := false }
def FnExactIsGraphSaid : Prop := fnExactIsGraphRow.holds Try.pinned (OpenSpec.ofChange fnExactIsGraphSpec)

/-- ITS FALSE NEIGHBOUR: 'it returns false'. Refute it at one input. -/
def fnExactIsGraphWrong : ChangeSpec := { name := "fnExactIsGraph", fn := fun _ => fun
  | [d] => { results := [.lit (.bool false)], args := [d] }
  | _ => none }
def FnExactIsGraphWrongFalsely : Prop := fnExactIsGraphRow.holds Try.pinned (OpenSpec.ofChange fnExactIsGraphWrong)

/-- 'laws.FnExactFireNode': WHATEVER THE INPUT: true; the input reads as it did. -/
def fnExactFireNodeSpec : ChangeSpec := { name := "fnExactFireNode", fn := fun _ => fun
  | [d1, d2, d3] => { results := [.lit (.bool true)], args := [d1, d2, d3] }
  | _ => none }
def fnExactFireNodeRow : OpenClaim := { program := "ytokhdnejaecejaa", sum := "d0194739066f8aa1aad52f142e47e22261008305ccc00dce5b37648fed6a0445", func := "loop.example/g03224/laws.FnExactFireNode", spec := "fnExactFireNode", unfollowed := true, recurses := true, plainKeys := false, apart := false }
def FnExactFireNodeSaid : Prop := fnExactFireNodeRow.holds Try.pinned (OpenSpec.ofChange fnExactFireNodeSpec)

/-- ITS FALSE NEIGHBOUR: 'it returns false'. Refute it at one input. -/
def fnExactFireNodeWrong : ChangeSpec := { name := "fnExactFireNode", fn := fun _ => fun
  | [d1, d2, d3] => { results := [.lit (.bool false)], args := [d1, d2, d3] }
  | _ => none }
def FnExactFireNodeWrongFalsely : Prop := fnExactFireNodeRow.holds Try.pinned (OpenSpec.ofChange fnExactFireNodeWrong)

/-- 'laws.FnExactRunFirings': WHATEVER THE INPUT: true; the input reads as it did. -/
def fnExactRunFiringsSpec : ChangeSpec := { name := "fnExactRunFirings", fn := fun _ => fun
  | [d1, d2] => { results := [.lit (.bool true)], args := [d1, d2] }
  | _ => none }
def fnExactRunFiringsRow : OpenClaim := { program := "ytokhdnejaecejaa", sum := "d0194739066f8aa1aad52f142e47e22261008305ccc00dce5b37648fed6a0445", func := "loop.example/g03224/laws.FnExactRunFirings", spec := "fnExactRunFirings", unfollowed := true, recurses := true, plainKeys := false, apart := false }
def FnExactRunFiringsSaid : Prop := fnExactRunFiringsRow.holds Try.pinned (OpenSpec.ofChange fnExactRunFiringsSpec)

/-- ITS FALSE NEIGHBOUR: 'it returns false'. Refute it at one input. -/
def fnExactRunFiringsWrong : ChangeSpec := { name := "fnExactRunFirings", fn := fun _ => fun
  | [d1, d2] => { results := [.lit (.bool false)], args := [d1, d2] }
  | _ => none }
def FnExactRunFiringsWrongFalsely : Prop := fnExactRunFiringsRow.holds Try.pinned (OpenSpec.ofChange fnExactRunFiringsWrong)

/-- 'laws.FnExactCompressSchedule': WHATEVER THE INPUT: true; the input reads as it did. -/
def fnExactCompressScheduleSpec : ChangeSpec := { name := "fnExactCompressSchedule", fn := fun _ => fun
  | [d] => { results := [.lit (.bool true)], args := [d] }
  | _ => none }
def fnExactCompressScheduleRow : OpenClaim := { program := "ytokhdnejaecejaa", sum := "d0194739066f8aa1aad52f142e47e22261008305ccc00dce5b37648fed6a0445", func := "loop.example/g03224/laws.FnExactCompressSchedule", spec := "fnExactCompressSchedule", plainKeys := false, apart := false }
def FnExactCompressScheduleSaid : Prop := fnExactCompressScheduleRow.holds Try.pinned (OpenSpec.ofChange fnExactCompressScheduleSpec)

/-- ITS FALSE NEIGHBOUR: 'it returns false'. Refute it at one input. -/
def fnExactCompressScheduleWrong : ChangeSpec := { name := "fnExactCompressSchedule", fn := fun _ => fun
  | [d] => { results := [.lit (.bool false)], args := [d] }
  | _ => none }
def FnExactCompressScheduleWrongFalsely : Prop := fnExactCompressScheduleRow.holds Try.pinned (OpenSpec.ofChange fnExactCompressScheduleWrong)

/-- 'laws.FnExactExpandSchedule': WHATEVER THE INPUT: true; the input reads as it did. -/
def fnExactExpandScheduleSpec : ChangeSpec := { name := "fnExactExpandSchedule", fn := fun _ => fun
  | [d] => { results := [.lit (.bool true)], args := [d] }
  | _ => none }
def fnExactExpandScheduleRow : OpenClaim := { program := "ytokhdnejaecejaa", sum := "d0194739066f8aa1aad52f142e47e22261008305ccc00dce5b37648fed6a0445", func := "loop.example/g03224/laws.FnExactExpandSchedule", spec := "fnExactExpandSchedule", plainKeys := false, apart := false }
def FnExactExpandScheduleSaid : Prop := fnExactExpandScheduleRow.holds Try.pinned (OpenSpec.ofChange fnExactExpandScheduleSpec)

/-- ITS FALSE NEIGHBOUR: 'it returns false'. Refute it at one input. -/
def fnExactExpandScheduleWrong : ChangeSpec := { name := "fnExactExpandSchedule", fn := fun _ => fun
  | [d] => { results := [.lit (.bool false)], args := [d] }
  | _ => none }
def FnExactExpandScheduleWrongFalsely : Prop := fnExactExpandScheduleRow.holds Try.pinned (OpenSpec.ofChange fnExactExpandScheduleWrong)

/-- 'laws.FnFired': WHATEVER THE INPUT: true; the input reads as it did. -/
def fnFiredSpec : ChangeSpec := { name := "fnFired", fn := fun _ => fun
  | [d] => { results := [.lit (.bool true)], args := [d] }
  | _ => none }
def fnFiredRow : OpenClaim := { program := "ytokhdnejaecejaa", sum := "d0194739066f8aa1aad52f142e47e22261008305ccc00dce5b37648fed6a0445", func := "loop.example/g03224/laws.FnFired", spec := "fnFired", unfollowed := true, recurses := true, plainKeys := false, apart := false }
def FnFiredSaid : Prop := fnFiredRow.holds Try.pinned (OpenSpec.ofChange fnFiredSpec)

/-- ITS FALSE NEIGHBOUR: 'it returns false'. Refute it at one input. -/
def fnFiredWrong : ChangeSpec := { name := "fnFired", fn := fun _ => fun
  | [d] => { results := [.lit (.bool false)], args := [d] }
  | _ => none }
def FnFiredWrongFalsely : Prop := fnFiredRow.holds Try.pinned (OpenSpec.ofChange fnFiredWrong)

/-- 'laws.FnExactRepetitionOf': WHATEVER THE INPUT: true; the input reads as it did. -/
def fnExactRepetitionOfSpec : ChangeSpec := { name := "fnExactRepetitionOf", fn := fun _ => fun
  | [d] => { results := [.lit (.bool true)], args := [d] }
  | _ => none }
def fnExactRepetitionOfRow : OpenClaim := { program := "ytokhdnejaecejaa", sum := "d0194739066f8aa1aad52f142e47e22261008305ccc00dce5b37648fed6a0445", func := "loop.example/g03224/laws.FnExactRepetitionOf", spec := "fnExactRepetitionOf", plainKeys := false, apart := false }
def FnExactRepetitionOfSaid : Prop := fnExactRepetitionOfRow.holds Try.pinned (OpenSpec.ofChange fnExactRepetitionOfSpec)

/-- ITS FALSE NEIGHBOUR: 'it returns false'. Refute it at one input. -/
def fnExactRepetitionOfWrong : ChangeSpec := { name := "fnExactRepetitionOf", fn := fun _ => fun
  | [d] => { results := [.lit (.bool false)], args := [d] }
  | _ => none }
def FnExactRepetitionOfWrongFalsely : Prop := fnExactRepetitionOfRow.holds Try.pinned (OpenSpec.ofChange fnExactRepetitionOfWrong)

/-- 'laws.FnExactScheduleOf': WHATEVER THE INPUT: true; the input reads as it did. -/
def fnExactScheduleOfSpec : ChangeSpec := { name := "fnExactScheduleOf", fn := fun _ => fun
  | [d] => { results := [.lit (.bool true)], args := [d] }
  | _ => none }
def fnExactScheduleOfRow : OpenClaim := { program := "ytokhdnejaecejaa", sum := "d0194739066f8aa1aad52f142e47e22261008305ccc00dce5b37648fed6a0445", func := "loop.example/g03224/laws.FnExactScheduleOf", spec := "fnExactScheduleOf", unfollowed := true, recurses := true, plainKeys := false, apart := false }
def FnExactScheduleOfSaid : Prop := fnExactScheduleOfRow.holds Try.pinned (OpenSpec.ofChange fnExactScheduleOfSpec)

/-- ITS FALSE NEIGHBOUR: 'it returns false'. Refute it at one input. -/
def fnExactScheduleOfWrong : ChangeSpec := { name := "fnExactScheduleOf", fn := fun _ => fun
  | [d] => { results := [.lit (.bool false)], args := [d] }
  | _ => none }
def FnExactScheduleOfWrongFalsely : Prop := fnExactScheduleOfRow.holds Try.pinned (OpenSpec.ofChange fnExactScheduleOfWrong)

/-- 'laws.FnRepeated': WHATEVER THE INPUT: true; the input reads as it did. -/
def fnRepeatedSpec : ChangeSpec := { name := "fnRepeated", fn := fun _ => fun
  | [d] => { results := [.lit (.bool true)], args := [d] }
  | _ => none }
def fnRepeatedRow : OpenClaim := { program := "ytokhdnejaecejaa", sum := "d0194739066f8aa1aad52f142e47e22261008305ccc00dce5b37648fed6a0445", func := "loop.example/g03224/laws.FnRepeated", spec := "fnRepeated", unfollowed := true, recurses := true, plainKeys := false, apart := false }
def FnRepeatedSaid : Prop := fnRepeatedRow.holds Try.pinned (OpenSpec.ofChange fnRepeatedSpec)

/-- ITS FALSE NEIGHBOUR: 'it returns false'. Refute it at one input. -/
def fnRepeatedWrong : ChangeSpec := { name := "fnRepeated", fn := fun _ => fun
  | [d] => { results := [.lit (.bool false)], args := [d] }
  | _ => none }
def FnRepeatedWrongFalsely : Prop := fnRepeatedRow.holds Try.pinned (OpenSpec.ofChange fnRepeatedWrong)

/-- 'laws.FnExactNetworkOf': WHATEVER THE INPUT: true; the input reads as it did. -/
def fnExactNetworkOfSpec : ChangeSpec := { name := "fnExactNetworkOf", fn := fun _ => fun
  | [d] => { results := [.lit (.bool true)], args := [d] }
  | _ => none }
def fnExactNetworkOfRow : OpenClaim := { program := "ytokhdnejaecejaa", sum := "d0194739066f8aa1aad52f142e47e22261008305ccc00dce5b37648fed6a0445", func := "loop.example/g03224/laws.FnExactNetworkOf", spec := "fnExactNetworkOf", unfollowed := true, recurses := true, plainKeys := false, apart := false }
def FnExactNetworkOfSaid : Prop := fnExactNetworkOfRow.holds Try.pinned (OpenSpec.ofChange fnExactNetworkOfSpec)

/-- ITS FALSE NEIGHBOUR: 'it returns false'. Refute it at one input. -/
def fnExactNetworkOfWrong : ChangeSpec := { name := "fnExactNetworkOf", fn := fun _ => fun
  | [d] => { results := [.lit (.bool false)], args := [d] }
  | _ => none }
def FnExactNetworkOfWrongFalsely : Prop := fnExactNetworkOfRow.holds Try.pinned (OpenSpec.ofChange fnExactNetworkOfWrong)

/-- 'laws.FnExactJoinNetworks': WHATEVER THE INPUT: true; the input reads as it did. -/
def fnExactJoinNetworksSpec : ChangeSpec := { name := "fnExactJoinNetworks", fn := fun _ => fun
  | [d1, d2] => { results := [.lit (.bool true)], args := [d1, d2] }
  | _ => none }
def fnExactJoinNetworksRow : OpenClaim := { program := "ytokhdnejaecejaa", sum := "d0194739066f8aa1aad52f142e47e22261008305ccc00dce5b37648fed6a0445", func := "loop.example/g03224/laws.FnExactJoinNetworks", spec := "fnExactJoinNetworks", unfollowed := true, recurses := true, plainKeys := false, apart := false }
def FnExactJoinNetworksSaid : Prop := fnExactJoinNetworksRow.holds Try.pinned (OpenSpec.ofChange fnExactJoinNetworksSpec)

/-- ITS FALSE NEIGHBOUR: 'it returns false'. Refute it at one input. -/
def fnExactJoinNetworksWrong : ChangeSpec := { name := "fnExactJoinNetworks", fn := fun _ => fun
  | [d1, d2] => { results := [.lit (.bool false)], args := [d1, d2] }
  | _ => none }
def FnExactJoinNetworksWrongFalsely : Prop := fnExactJoinNetworksRow.holds Try.pinned (OpenSpec.ofChange fnExactJoinNetworksWrong)

/- THE SECOND FORM. 'bulk': how many values and letters a reading holds, each counted each time it is reached (what is shared counts as often as it is met; a slice's spare places count too). A statement '..UptoSaid' is the law's where the arguments, and the package variables that the reading takes, are together of bulk at most 1048576: NARROWER than '..Said'. Prove '..Said' where nothing that the law and all that it calls make is longer than what came in: it says more and counts as full. Else prove '..UptoSaid'. A law counts once. -/
mutual
def uptoBulk {H : Type} : DataW H → Nat
  | .lit (.string bytes) => bytes.length + 1
  | .lit _ => 1
  | .nil => 1
  | .ptr d => uptoBulk d + 1
  | .slice elems spare => uptoBulkAll elems + uptoBulkAll spare + 1
  | .agg parts => uptoBulkAll parts + 1
  | .iface _ d => uptoBulk d + 1
  | .map entries => uptoBulkEntries entries + 1
  | .held _ => 1
def uptoBulkAll {H : Type} : List (DataW H) → Nat
  | [] => 0
  | d :: r => uptoBulk d + uptoBulkAll r
def uptoBulkEntries {H : Type} : List (Lit × DataW H) → Nat
  | [] => 0
  | x :: r => uptoBulkEntry x + uptoBulkEntries r
def uptoBulkEntry {H : Type} : Lit × DataW H → Nat
  | (.string bytes, d) => bytes.length + uptoBulk d + 1
  | (_, d) => uptoBulk d + 1
 end
def uptoSmall : (H : Type) → List (DataW H) → Bool := fun _ ds => decide (uptoBulkAll ds ≤ 1048576)
def OpenSpec.upto (s : _root_.Go.ChangeSpec) : _root_.Go.OpenSpec := { _root_.Go.OpenSpec.ofChange s with cond := some uptoSmall }

/-- 'laws.FnExactIsGraph', WHERE WHAT IT READS IS OF BULK AT MOST 1048576: true; the input reads as it did. -/
def fnExactIsGraphUptoRow : OpenClaim := { program := "ytokhdnejaecejaa", sum := "d0194739066f8aa1aad52f142e47e22261008305ccc00dce5b37648fed6a0445", func := "loop.example/g03224/laws.FnExactIsGraph", spec := "fnExactIsGraph", plainKeys := false, apart := false, narrowed := true }
def FnExactIsGraphUptoSaid : Prop := fnExactIsGraphUptoRow.holds Try.pinned (OpenSpec.upto fnExactIsGraphSpec)

/-- 'laws.FnExactFireNode', WHERE WHAT IT READS IS OF BULK AT MOST 1048576: true; the input reads as it did. -/
def fnExactFireNodeUptoRow : OpenClaim := { program := "ytokhdnejaecejaa", sum := "d0194739066f8aa1aad52f142e47e22261008305ccc00dce5b37648fed6a0445", func := "loop.example/g03224/laws.FnExactFireNode", spec := "fnExactFireNode", unfollowed := true, recurses := true, plainKeys := false, apart := false, narrowed := true }
def FnExactFireNodeUptoSaid : Prop := fnExactFireNodeUptoRow.holds Try.pinned (OpenSpec.upto fnExactFireNodeSpec)

/-- 'laws.FnExactRunFirings', WHERE WHAT IT READS IS OF BULK AT MOST 1048576: true; the input reads as it did. -/
def fnExactRunFiringsUptoRow : OpenClaim := { program := "ytokhdnejaecejaa", sum := "d0194739066f8aa1aad52f142e47e22261008305ccc00dce5b37648fed6a0445", func := "loop.example/g03224/laws.FnExactRunFirings", spec := "fnExactRunFirings", unfollowed := true, recurses := true, plainKeys := false, apart := false, narrowed := true }
def FnExactRunFiringsUptoSaid : Prop := fnExactRunFiringsUptoRow.holds Try.pinned (OpenSpec.upto fnExactRunFiringsSpec)

/-- 'laws.FnExactCompressSchedule', WHERE WHAT IT READS IS OF BULK AT MOST 1048576: true; the input reads as it did. -/
def fnExactCompressScheduleUptoRow : OpenClaim := { program := "ytokhdnejaecejaa", sum := "d0194739066f8aa1aad52f142e47e22261008305ccc00dce5b37648fed6a0445", func := "loop.example/g03224/laws.FnExactCompressSchedule", spec := "fnExactCompressSchedule", plainKeys := false, apart := false, narrowed := true }
def FnExactCompressScheduleUptoSaid : Prop := fnExactCompressScheduleUptoRow.holds Try.pinned (OpenSpec.upto fnExactCompressScheduleSpec)

/-- 'laws.FnExactExpandSchedule', WHERE WHAT IT READS IS OF BULK AT MOST 1048576: true; the input reads as it did. -/
def fnExactExpandScheduleUptoRow : OpenClaim := { program := "ytokhdnejaecejaa", sum := "d0194739066f8aa1aad52f142e47e22261008305ccc00dce5b37648fed6a0445", func := "loop.example/g03224/laws.FnExactExpandSchedule", spec := "fnExactExpandSchedule", plainKeys := false, apart := false, narrowed := true }
def FnExactExpandScheduleUptoSaid : Prop := fnExactExpandScheduleUptoRow.holds Try.pinned (OpenSpec.upto fnExactExpandScheduleSpec)

/-- 'laws.FnFired', WHERE WHAT IT READS IS OF BULK AT MOST 1048576: true; the input reads as it did. -/
def fnFiredUptoRow : OpenClaim := { program := "ytokhdnejaecejaa", sum := "d0194739066f8aa1aad52f142e47e22261008305ccc00dce5b37648fed6a0445", func := "loop.example/g03224/laws.FnFired", spec := "fnFired", unfollowed := true, recurses := true, plainKeys := false, apart := false, narrowed := true }
def FnFiredUptoSaid : Prop := fnFiredUptoRow.holds Try.pinned (OpenSpec.upto fnFiredSpec)

/-- 'laws.FnExactRepetitionOf', WHERE WHAT IT READS IS OF BULK AT MOST 1048576: true; the input reads as it did. -/
def fnExactRepetitionOfUptoRow : OpenClaim := { program := "ytokhdnejaecejaa", sum := "d0194739066f8aa1aad52f142e47e22261008305ccc00dce5b37648fed6a0445", func := "loop.example/g03224/laws.FnExactRepetitionOf", spec := "fnExactRepetitionOf", plainKeys := false, apart := false, narrowed := true }
def FnExactRepetitionOfUptoSaid : Prop := fnExactRepetitionOfUptoRow.holds Try.pinned (OpenSpec.upto fnExactRepetitionOfSpec)

/-- 'laws.FnExactScheduleOf', WHERE WHAT IT READS IS OF BULK AT MOST 1048576: true; the input reads as it did. -/
def fnExactScheduleOfUptoRow : OpenClaim := { program := "ytokhdnejaecejaa", sum := "d0194739066f8aa1aad52f142e47e22261008305ccc00dce5b37648fed6a0445", func := "loop.example/g03224/laws.FnExactScheduleOf", spec := "fnExactScheduleOf", unfollowed := true, recurses := true, plainKeys := false, apart := false, narrowed := true }
def FnExactScheduleOfUptoSaid : Prop := fnExactScheduleOfUptoRow.holds Try.pinned (OpenSpec.upto fnExactScheduleOfSpec)

/-- 'laws.FnRepeated', WHERE WHAT IT READS IS OF BULK AT MOST 1048576: true; the input reads as it did. -/
def fnRepeatedUptoRow : OpenClaim := { program := "ytokhdnejaecejaa", sum := "d0194739066f8aa1aad52f142e47e22261008305ccc00dce5b37648fed6a0445", func := "loop.example/g03224/laws.FnRepeated", spec := "fnRepeated", unfollowed := true, recurses := true, plainKeys := false, apart := false, narrowed := true }
def FnRepeatedUptoSaid : Prop := fnRepeatedUptoRow.holds Try.pinned (OpenSpec.upto fnRepeatedSpec)

/-- 'laws.FnExactNetworkOf', WHERE WHAT IT READS IS OF BULK AT MOST 1048576: true; the input reads as it did. -/
def fnExactNetworkOfUptoRow : OpenClaim := { program := "ytokhdnejaecejaa", sum := "d0194739066f8aa1aad52f142e47e22261008305ccc00dce5b37648fed6a0445", func := "loop.example/g03224/laws.FnExactNetworkOf", spec := "fnExactNetworkOf", unfollowed := true, recurses := true, plainKeys := false, apart := false, narrowed := true }
def FnExactNetworkOfUptoSaid : Prop := fnExactNetworkOfUptoRow.holds Try.pinned (OpenSpec.upto fnExactNetworkOfSpec)

/-- 'laws.FnExactJoinNetworks', WHERE WHAT IT READS IS OF BULK AT MOST 1048576: true; the input reads as it did. -/
def fnExactJoinNetworksUptoRow : OpenClaim := { program := "ytokhdnejaecejaa", sum := "d0194739066f8aa1aad52f142e47e22261008305ccc00dce5b37648fed6a0445", func := "loop.example/g03224/laws.FnExactJoinNetworks", spec := "fnExactJoinNetworks", unfollowed := true, recurses := true, plainKeys := false, apart := false, narrowed := true }
def FnExactJoinNetworksUptoSaid : Prop := fnExactJoinNetworksUptoRow.holds Try.pinned (OpenSpec.upto fnExactJoinNetworksSpec)

end Rows
end Go.Proofs.Ytokhdnejaecejaa
