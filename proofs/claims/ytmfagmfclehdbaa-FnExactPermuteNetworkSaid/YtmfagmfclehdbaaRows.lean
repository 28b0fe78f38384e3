/-
  No cell of these rows narrows 'for every input' (looked for: loops, veiled, ifaces, maps, wideKeys, modest, calm, conditions, laid).
  DERIVED. THE GIVEN ROWS OF THIS SEAT. 8 by the template 'for every input the law returns true; each argument reads behind the call as it read before'; 0 by the template 'total and deterministic' (their statements: YtmfagmfclehdbaaTotals.lean).
  GIVEN WITH THE SEED: the statements are not yours to turn. If you find one false, say at which input.
  Laid BY PROGRAM, IN A SANDBOX (cutbox-rows.mjs): the forced cells as the released guide's own fill.sh prints them over the translation 1f49673d1c575e1a… (all of the seat's roots in one cut). By AI agents, Wed Nov 11 2026. No macro, syntax, notation, axiom, sorry.
-/
import Derived.Test.YtmfagmfclehdbaaChecked
import GoSem.Claim
import GoSem.ClaimJoined
import GoSem.ClaimMapViews
import Derived.JoinedTies
import Derived.KernelRfl
namespace Go.Proofs.Ytmfagmfclehdbaa
/- THE CELL 'sum', in the pinned program and in every row, IS THE sha256 OF THE DUMP (.gsa) THAT YtmfagmfclehdbaaProg.lean LOADS. Nothing in Lean hashes anything: it is a label: what it is worth is what the hold of that sum in a sandbox is worth. -/
noncomputable def Try.pinned : Pinned := { name := "ytmfagmfclehdbaa", sum := "1f49673d1c575e1a54b8729539088efc7f954c387ff24dc1b4eaffd16c10bc53", checked := Try.checked }
namespace Rows
def none {H : Type} : Left H := { results := [], args := [] }

/-- 'laws.FnExactStartState': WHATEVER THE INPUT: true; the input reads as it did. -/
def fnExactStartStateSpec : ChangeSpec := { name := "fnExactStartState", fn := fun _ => fun
  | [d] => { results := [.lit (.bool true)], args := [d] }
  | _ => none }
def fnExactStartStateRow : OpenClaim := { program := "ytmfagmfclehdbaa", sum := "1f49673d1c575e1a54b8729539088efc7f954c387ff24dc1b4eaffd16c10bc53", func := "loop.example/g03224/laws.FnExactStartState", spec := "fnExactStartState", unfollowed := true, recurses := true, plainKeys := false, apart := false }
def FnExactStartStateSaid : Prop := fnExactStartStateRow.holds Try.pinned (OpenSpec.ofChange fnExactStartStateSpec)

/-- ITS FALSE NEIGHBOUR: 'it returns false'. Refute it at one input. -/
def fnExactStartStateWrong : ChangeSpec := { name := "fnExactStartState", fn := fun _ => fun
  | [d] => { results := [.lit (.bool false)], args := [d] }
  | _ => none }
def FnExactStartStateWrongFalsely : Prop := fnExactStartStateRow.holds Try.pinned (OpenSpec.ofChange fnExactStartStateWrong)

/-- 'laws.FnExactAreCapacities': WHATEVER THE INPUT: true; the input reads as it did. -/
def fnExactAreCapacitiesSpec : ChangeSpec := { name := "fnExactAreCapacities", fn := fun _ => fun
  | [d1, d2] => { results := [.lit (.bool true)], args := [d1, d2] }
  | _ => none }
def fnExactAreCapacitiesRow : OpenClaim := { program := "ytmfagmfclehdbaa", sum := "1f49673d1c575e1a54b8729539088efc7f954c387ff24dc1b4eaffd16c10bc53", func := "loop.example/g03224/laws.FnExactAreCapacities", spec := "fnExactAreCapacities", unfollowed := true, recurses := true, plainKeys := false, apart := false }
def FnExactAreCapacitiesSaid : Prop := fnExactAreCapacitiesRow.holds Try.pinned (OpenSpec.ofChange fnExactAreCapacitiesSpec)

/-- ITS FALSE NEIGHBOUR: 'it returns false'. Refute it at one input. -/
def fnExactAreCapacitiesWrong : ChangeSpec := { name := "fnExactAreCapacities", fn := fun _ => fun
  | [d1, d2] => { results := [.lit (.bool false)], args := [d1, d2] }
  | _ => none }
def FnExactAreCapacitiesWrongFalsely : Prop := fnExactAreCapacitiesRow.holds Try.pinned (OpenSpec.ofChange fnExactAreCapacitiesWrong)

/-- 'laws.FnExactUniformCapacities': WHATEVER THE INPUT: true; the input reads as it did. -/
def fnExactUniformCapacitiesSpec : ChangeSpec := { name := "fnExactUniformCapacities", fn := fun _ => fun
  | [d1, d2] => { results := [.lit (.bool true)], args := [d1, d2] }
  | _ => none }
def fnExactUniformCapacitiesRow : OpenClaim := { program := "ytmfagmfclehdbaa", sum := "1f49673d1c575e1a54b8729539088efc7f954c387ff24dc1b4eaffd16c10bc53", func := "loop.example/g03224/laws.FnExactUniformCapacities", spec := "fnExactUniformCapacities", unfollowed := true, recurses := true, plainKeys := false, apart := false }
def FnExactUniformCapacitiesSaid : Prop := fnExactUniformCapacitiesRow.holds Try.pinned (OpenSpec.ofChange fnExactUniformCapacitiesSpec)

/-- ITS FALSE NEIGHBOUR: 'it returns false'. Refute it at one input. -/
def fnExactUniformCapacitiesWrong : ChangeSpec := { name := "fnExactUniformCapacities", fn := fun _ => fun
  | [d1, d2] => { results := [.lit (.bool false)], args := [d1, d2] }
  | _ => none }
def FnExactUniformCapacitiesWrongFalsely : Prop := fnExactUniformCapacitiesRow.holds Try.pinned (OpenSpec.ofChange fnExactUniformCapacitiesWrong)

/-- 'laws.FnExactFeedNetwork': WHATEVER THE INPUT: true; the input reads as it did. -/
def fnExactFeedNetworkSpec : ChangeSpec := { name := "fnExactFeedNetwork", fn := fun _ => fun
  | [d1, d2, d3] => { results := [.lit (.bool true)], args := [d1, d2, d3] }
  | _ => none }
def fnExactFeedNetworkRow : OpenClaim := { program := "ytmfagmfclehdbaa", sum := "1f49673d1c575e1a54b8729539088efc7f954c387ff24dc1b4eaffd16c10bc53", func := "loop.example/g03224/laws.FnExactFeedNetwork", spec := "fnExactFeedNetwork", unfollowed := true, recurses := true, plainKeys := false, apart := false }
def FnExactFeedNetworkSaid : Prop := fnExactFeedNetworkRow.holds Try.pinned (OpenSpec.ofChange fnExactFeedNetworkSpec)

/-- ITS FALSE NEIGHBOUR: 'it returns false'. Refute it at one input. -/
def fnExactFeedNetworkWrong : ChangeSpec := { name := "fnExactFeedNetwork", fn := fun _ => fun
  | [d1, d2, d3] => { results := [.lit (.bool false)], args := [d1, d2, d3] }
  | _ => none }
def FnExactFeedNetworkWrongFalsely : Prop := fnExactFeedNetworkRow.holds Try.pinned (OpenSpec.ofChange fnExactFeedNetworkWrong)

/-- 'laws.FnExactChainNetwork': WHATEVER THE INPUT: true; the input reads as it did. -/
def fnExactChainNetworkSpec : ChangeSpec := { name := "fnExactChainNetwork", fn := fun _ => fun
  | [d1, d2] => { results := [.lit (.bool true)], args := [d1, d2] }
  | _ => none }
def fnExactChainNetworkRow : OpenClaim := { program := "ytmfagmfclehdbaa", sum := "1f49673d1c575e1a54b8729539088efc7f954c387ff24dc1b4eaffd16c10bc53", func := "loop.example/g03224/laws.FnExactChainNetwork", spec := "fnExactChainNetwork", unfollowed := true, recurses := true, plainKeys := false, apart := false }
def FnExactChainNetworkSaid : Prop := fnExactChainNetworkRow.holds Try.pinned (OpenSpec.ofChange fnExactChainNetworkSpec)

/-- ITS FALSE NEIGHBOUR: 'it returns false'. Refute it at one input. -/
def fnExactChainNetworkWrong : ChangeSpec := { name := "fnExactChainNetwork", fn := fun _ => fun
  | [d1, d2] => { results := [.lit (.bool false)], args := [d1, d2] }
  | _ => none }
def FnExactChainNetworkWrongFalsely : Prop := fnExactChainNetworkRow.holds Try.pinned (OpenSpec.ofChange fnExactChainNetworkWrong)

/-- 'laws.FnExactPermuteNetwork': WHATEVER THE INPUT: true; the input reads as it did. -/
def fnExactPermuteNetworkSpec : ChangeSpec := { name := "fnExactPermuteNetwork", fn := fun _ => fun
  | [d1, d2] => { results := [.lit (.bool true)], args := [d1, d2] }
  | _ => none }
def fnExactPermuteNetworkRow : OpenClaim := { program := "ytmfagmfclehdbaa", sum := "1f49673d1c575e1a54b8729539088efc7f954c387ff24dc1b4eaffd16c10bc53", func := "loop.example/g03224/laws.FnExactPermuteNetwork", spec := "fnExactPermuteNetwork", unfollowed := true, recurses := true, plainKeys := false, apart := false }
def FnExactPermuteNetworkSaid : Prop := fnExactPermuteNetworkRow.holds Try.pinned (OpenSpec.ofChange fnExactPermuteNetworkSpec)

/-- ITS FALSE NEIGHBOUR: 'it returns false'. Refute it at one input. -/
def fnExactPermuteNetworkWrong : ChangeSpec := { name := "fnExactPermuteNetwork", fn := fun _ => fun
  | [d1, d2] => { results := [.lit (.bool false)], args := [d1, d2] }
  | _ => none }
def FnExactPermuteNetworkWrongFalsely : Prop := fnExactPermuteNetworkRow.holds Try.pinned (OpenSpec.ofChange fnExactPermuteNetworkWrong)

/-- 'laws.FnExactJoinNetworks': WHATEVER THE INPUT: true; the input reads as it did. -/
def fnExactJoinNetworksSpec : ChangeSpec := { name := "fnExactJoinNetworks", fn := fun _ => fun
  | [d1, d2] => { results := [.lit (.bool true)], args := [d1, d2] }
  | _ => none }
def fnExactJoinNetworksRow : OpenClaim := { program := "ytmfagmfclehdbaa", sum := "1f49673d1c575e1a54b8729539088efc7f954c387ff24dc1b4eaffd16c10bc53", func := "loop.example/g03224/laws.FnExactJoinNetworks", spec := "fnExactJoinNetworks", unfollowed := true, recurses := true, plainKeys := false, apart := false }
def FnExactJoinNetworksSaid : Prop := fnExactJoinNetworksRow.holds Try.pinned (OpenSpec.ofChange fnExactJoinNetworksSpec)

/-- ITS FALSE NEIGHBOUR: 'it returns false'. Refute it at one input. -/
def fnExactJoinNetworksWrong : ChangeSpec := { name := "fnExactJoinNetworks", fn := fun _ => fun
  | [d1, d2] => { results := [.lit (.bool false)], args := [d1, d2] }
  | _ => none }
def FnExactJoinNetworksWrongFalsely : Prop := fnExactJoinNetworksRow.holds Try.pinned (OpenSpec.ofChange fnExactJoinNetworksWrong)

/-- 'laws.FnProcess': WHATEVER THE INPUT: true; the input reads as it did. -/
def fnProcessSpec : ChangeSpec := { name := "fnProcess", fn := fun _ => fun
  | [d] => { results := [.lit (.bool true)], args := [d] }
  | _ => none }
def fnProcessRow : OpenClaim := { program := "ytmfagmfclehdbaa", sum := "1f49673d1c575e1a54b8729539088efc7f954c387ff24dc1b4eaffd16c10bc53", func := "loop.example/g03224/laws.FnProcess", spec := "fnProcess", plainKeys := false, apart := false }
def FnProcessSaid : Prop := fnProcessRow.holds Try.pinned (OpenSpec.ofChange fnProcessSpec)

/-- ITS FALSE NEIGHBOUR: 'it returns false'. Refute it at one input. -/
def fnProcessWrong : ChangeSpec := { name := "fnProcess", fn := fun _ => fun
  | [d] => { results := [.lit (.bool false)], args := [d] }
  | _ => none }
def FnProcessWrongFalsely : Prop := fnProcessRow.holds Try.pinned (OpenSpec.ofChange fnProcessWrong)

/- THE SECOND FORM. 'bulk': how many values and letters a reading holds, each counted each time it is reached (what is shared counts as often as it is met; a slice's spare places count too). A statement '..UptoSaid' is the law's where the arguments, and the package variables that the reading takes, are together of bulk at most 1048576: NARROWER than '..Said'. Prove '..Said' where nothing that the law and all that it calls make is longer than what came in: it says more and counts as full. Else prove '..UptoSaid'. A law counts once. -/
mutual
def uptoBulk {H : Type} : DataW H → Nat
  | .lit (.string bytes) => bytes.length + 1
  | .lit _ => 1
  | .nil => 1
  | .ptr d => uptoBulk d + 1
  | .slice elems spare => uptoBulkAll elems + uptoBulkAll spare + 1
  | .agg parts => uptoBulkAll parts + 1
  | .iface _ d => uptoBulk d + 1
  | .map entries => uptoBulkEntries entries + 1
  | .held _ => 1
def uptoBulkAll {H : Type} : List (DataW H) → Nat
  | [] => 0
  | d :: r => uptoBulk d + uptoBulkAll r
def uptoBulkEntries {H : Type} : List (Lit × DataW H) → Nat
  | [] => 0
  | x :: r => uptoBulkEntry x + uptoBulkEntries r
def uptoBulkEntry {H : Type} : Lit × DataW H → Nat
  | (.string bytes, d) => bytes.length + uptoBulk d + 1
  | (_, d) => uptoBulk d + 1
 end
def uptoSmall : (H : Type) → List (DataW H) → Bool := fun _ ds => decide (uptoBulkAll ds ≤ 1048576)
def OpenSpec.upto (s : _root_.Go.ChangeSpec) : _root_.Go.OpenSpec := { _root_.Go.OpenSpec.ofChange s with cond := some uptoSmall }

/-- 'laws.FnExactStartState', WHERE WHAT IT READS IS OF BULK AT MOST 1048576: true; the input reads as it did. -/
def fnExactStartStateUptoRow : OpenClaim := { program := "ytmfagmfclehdbaa", sum := "1f49673d1c575e1a54b8729539088efc7f954c387ff24dc1b4eaffd16c10bc53", func := "loop.example/g03224/laws.FnExactStartState", spec := "fnExactStartState", unfollowed := true, recurses := true, plainKeys := false, apart := false, narrowed := true }
def FnExactStartStateUptoSaid : Prop := fnExactStartStateUptoRow.holds Try.pinned (OpenSpec.upto fnExactStartStateSpec)

/-- 'laws.FnExactAreCapacities', WHERE WHAT IT READS IS OF BULK AT MOST 1048576: true; the input reads as it did. -/
def fnExactAreCapacitiesUptoRow : OpenClaim := { program := "ytmfagmfclehdbaa", sum := "1f49673d1c575e1a54b8729539088efc7f954c387ff24dc1b4eaffd16c10bc53", func := "loop.example/g03224/laws.FnExactAreCapacities", spec := "fnExactAreCapacities", unfollowed := true, recurses := true, plainKeys := false, apart := false, narrowed := true }
def FnExactAreCapacitiesUptoSaid : Prop := fnExactAreCapacitiesUptoRow.holds Try.pinned (OpenSpec.upto fnExactAreCapacitiesSpec)

/-- 'laws.FnExactUniformCapacities', WHERE WHAT IT READS IS OF BULK AT MOST 1048576: true; the input reads as it did. -/
def fnExactUniformCapacitiesUptoRow : OpenClaim := { program := "ytmfagmfclehdbaa", sum := "1f49673d1c575e1a54b8729539088efc7f954c387ff24dc1b4eaffd16c10bc53", func := "loop.example/g03224/laws.FnExactUniformCapacities", spec := "fnExactUniformCapacities", unfollowed := true, recurses := true, plainKeys := false, apart := false, narrowed := true }
def FnExactUniformCapacitiesUptoSaid : Prop := fnExactUniformCapacitiesUptoRow.holds Try.pinned (OpenSpec.upto fnExactUniformCapacitiesSpec)

/-- 'laws.FnExactFeedNetwork', WHERE WHAT IT READS IS OF BULK AT MOST 1048576: true; the input reads as it did. -/
def fnExactFeedNetworkUptoRow : OpenClaim := { program := "ytmfagmfclehdbaa", sum := "1f49673d1c575e1a54b8729539088efc7f954c387ff24dc1b4eaffd16c10bc53", func := "loop.example/g03224/laws.FnExactFeedNetwork", spec := "fnExactFeedNetwork", unfollowed := true, recurses := true, plainKeys := false, apart := false, narrowed := true }
def FnExactFeedNetworkUptoSaid : Prop := fnExactFeedNetworkUptoRow.holds Try.pinned (OpenSpec.upto fnExactFeedNetworkSpec)

/-- 'laws.FnExactChainNetwork', WHERE WHAT IT READS IS OF BULK AT MOST 1048576: true; the input reads as it did. -/
def fnExactChainNetworkUptoRow : OpenClaim := { program := "ytmfagmfclehdbaa", sum := "1f49673d1c575e1a54b8729539088efc7f954c387ff24dc1b4eaffd16c10bc53", func := "loop.example/g03224/laws.FnExactChainNetwork", spec := "fnExactChainNetwork", unfollowed := true, recurses := true, plainKeys := false, apart := false, narrowed := true }
def FnExactChainNetworkUptoSaid : Prop := fnExactChainNetworkUptoRow.holds Try.pinned (OpenSpec.upto fnExactChainNetworkSpec)

/-- 'laws.FnExactPermuteNetwork', WHERE WHAT IT READS IS OF BULK AT MOST 1048576: true; the input reads as it did. -/
def fnExactPermuteNetworkUptoRow : OpenClaim := { program := "ytmfagmfclehdbaa", sum := "1f49673d1c575e1a54b8729539088efc7f954c387ff24dc1b4eaffd16c10bc53", func := "loop.example/g03224/laws.FnExactPermuteNetwork", spec := "fnExactPermuteNetwork", unfollowed := true, recurses := true, plainKeys := false, apart := false, narrowed := true }
def FnExactPermuteNetworkUptoSaid : Prop := fnExactPermuteNetworkUptoRow.holds Try.pinned (OpenSpec.upto fnExactPermuteNetworkSpec)

/-- 'laws.FnExactJoinNetworks', WHERE WHAT IT READS IS OF BULK AT MOST 1048576: true; the input reads as it did. -/
def fnExactJoinNetworksUptoRow : OpenClaim := { program := "ytmfagmfclehdbaa", sum := "1f49673d1c575e1a54b8729539088efc7f954c387ff24dc1b4eaffd16c10bc53", func := "loop.example/g03224/laws.FnExactJoinNetworks", spec := "fnExactJoinNetworks", unfollowed := true, recurses := true, plainKeys := false, apart := false, narrowed := true }
def FnExactJoinNetworksUptoSaid : Prop := fnExactJoinNetworksUptoRow.holds Try.pinned (OpenSpec.upto fnExactJoinNetworksSpec)

/-- 'laws.FnProcess', WHERE WHAT IT READS IS OF BULK AT MOST 1048576: true; the input reads as it did. -/
def fnProcessUptoRow : OpenClaim := { program := "ytmfagmfclehdbaa", sum := "1f49673d1c575e1a54b8729539088efc7f954c387ff24dc1b4eaffd16c10bc53", func := "loop.example/g03224/laws.FnProcess", spec := "fnProcess", plainKeys := false, apart := false, narrowed := true }
def FnProcessUptoSaid : Prop := fnProcessUptoRow.holds Try.pinned (OpenSpec.upto fnProcessSpec)

end Rows
end Go.Proofs.Ytmfagmfclehdbaa
