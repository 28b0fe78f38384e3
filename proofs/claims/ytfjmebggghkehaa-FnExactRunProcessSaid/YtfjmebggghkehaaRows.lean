/-
  No cell of these rows narrows 'for every input' (looked for: loops, veiled, ifaces, maps, wideKeys, modest, calm, conditions, laid).
  DERIVED. THE GIVEN ROWS OF THIS SEAT. 12 by the template 'for every input the law returns true; each argument reads behind the call as it read before'; 0 by the template 'total and deterministic' (their statements: YtfjmebggghkehaaTotals.lean).
  GIVEN WITH THE SEED: the statements are not yours to turn. If you find one false, say at which input.
  Laid BY PROGRAM, IN A SANDBOX (cutbox-rows.mjs): the forced cells as the released guide's own fill.sh prints them over the translation cbaf92fb239040ec… (all of the seat's roots in one cut). By AI agents, Wed Nov 11 2026. No macro, syntax, notation, axiom, sorry.
-/
import Derived.Test.YtfjmebggghkehaaChecked
import GoSem.Claim
import GoSem.ClaimJoined
import GoSem.ClaimMapViews
import Derived.JoinedTies
import Derived.KernelRfl
namespace Go.Proofs.Ytfjmebggghkehaa
/- THE CELL 'sum', in the pinned program and in every row, IS THE sha256 OF THE DUMP (.gsa) THAT YtfjmebggghkehaaProg.lean LOADS. Nothing in Lean hashes anything: it is a label: what it is worth is what the hold of that sum in a sandbox is worth. -/
noncomputable def Try.pinned : Pinned := { name := "ytfjmebggghkehaa", sum := "cbaf92fb239040ecd763f3af92db0982140921c08617b12af1e7b9f1ca80184b", checked := Try.checked }
namespace Rows
def none {H : Type} : Left H := { results := [], args := [] }

/-- 'laws.FnSamples': WHATEVER THE INPUT: true; the input reads as it did. -/
def fnSamplesSpec : ChangeSpec := { name := "fnSamples", fn := fun _ => fun
  | [d] => { results := [.lit (.bool true)], args := [d] }
  | _ => none }
def fnSamplesRow : OpenClaim := { program := "ytfjmebggghkehaa", sum := "cbaf92fb239040ecd763f3af92db0982140921c08617b12af1e7b9f1ca80184b", func := "loop.example/g03224/laws.FnSamples", spec := "fnSamples", plainKeys := false, apart := false }
def FnSamplesSaid : Prop := fnSamplesRow.holds Try.pinned (OpenSpec.ofChange fnSamplesSpec)

/-- ITS FALSE NEIGHBOUR: 'it returns false'. Refute it at one input. -/
def fnSamplesWrong : ChangeSpec := { name := "fnSamples", fn := fun _ => fun
  | [d] => { results := [.lit (.bool false)], args := [d] }
  | _ => none }
def FnSamplesWrongFalsely : Prop := fnSamplesRow.holds Try.pinned (OpenSpec.ofChange fnSamplesWrong)

/-- 'laws.FnProcess': WHATEVER THE INPUT: true; the input reads as it did. -/
def fnProcessSpec : ChangeSpec := { name := "fnProcess", fn := fun _ => fun
  | [d] => { results := [.lit (.bool true)], args := [d] }
  | _ => none }
def fnProcessRow : OpenClaim := { program := "ytfjmebggghkehaa", sum := "cbaf92fb239040ecd763f3af92db0982140921c08617b12af1e7b9f1ca80184b", func := "loop.example/g03224/laws.FnProcess", spec := "fnProcess", plainKeys := false, apart := false }
def FnProcessSaid : Prop := fnProcessRow.holds Try.pinned (OpenSpec.ofChange fnProcessSpec)

/-- ITS FALSE NEIGHBOUR: 'it returns false'. Refute it at one input. -/
def fnProcessWrong : ChangeSpec := { name := "fnProcess", fn := fun _ => fun
  | [d] => { results := [.lit (.bool false)], args := [d] }
  | _ => none }
def FnProcessWrongFalsely : Prop := fnProcessRow.holds Try.pinned (OpenSpec.ofChange fnProcessWrong)

/-- 'laws.FnReached': WHATEVER THE INPUT: true; the input reads as it did. -/
def fnReachedSpec : ChangeSpec := { name := "fnReached", fn := fun _ => fun
  | [d] => { results := [.lit (.bool true)], args := [d] }
  | _ => none }
def fnReachedRow : OpenClaim := { program := "ytfjmebggghkehaa", sum := "cbaf92fb239040ecd763f3af92db0982140921c08617b12af1e7b9f1ca80184b", func := "loop.example/g03224/laws.FnReached", spec := "fnReached", unfollowed := true, recurses := true, plainKeys := false, apart := false }
def FnReachedSaid : Prop := fnReachedRow.holds Try.pinned (OpenSpec.ofChange fnReachedSpec)

/-- ITS FALSE NEIGHBOUR: 'it returns false'. Refute it at one input. -/
def fnReachedWrong : ChangeSpec := { name := "fnReached", fn := fun _ => fun
  | [d] => { results := [.lit (.bool false)], args := [d] }
  | _ => none }
def FnReachedWrongFalsely : Prop := fnReachedRow.holds Try.pinned (OpenSpec.ofChange fnReachedWrong)

/-- 'laws.FnFed': WHATEVER THE INPUT: true; the input reads as it did. -/
def fnFedSpec : ChangeSpec := { name := "fnFed", fn := fun _ => fun
  | [d] => { results := [.lit (.bool true)], args := [d] }
  | _ => none }
def fnFedRow : OpenClaim := { program := "ytfjmebggghkehaa", sum := "cbaf92fb239040ecd763f3af92db0982140921c08617b12af1e7b9f1ca80184b", func := "loop.example/g03224/laws.FnFed", spec := "fnFed", unfollowed := true, recurses := true, plainKeys := false, apart := false }
def FnFedSaid : Prop := fnFedRow.holds Try.pinned (OpenSpec.ofChange fnFedSpec)

/-- ITS FALSE NEIGHBOUR: 'it returns false'. Refute it at one input. -/
def fnFedWrong : ChangeSpec := { name := "fnFed", fn := fun _ => fun
  | [d] => { results := [.lit (.bool false)], args := [d] }
  | _ => none }
def FnFedWrongFalsely : Prop := fnFedRow.holds Try.pinned (OpenSpec.ofChange fnFedWrong)

/-- 'laws.FnPicked': WHATEVER THE INPUT: true; the input reads as it did. -/
def fnPickedSpec : ChangeSpec := { name := "fnPicked", fn := fun _ => fun
  | [d] => { results := [.lit (.bool true)], args := [d] }
  | _ => none }
def fnPickedRow : OpenClaim := { program := "ytfjmebggghkehaa", sum := "cbaf92fb239040ecd763f3af92db0982140921c08617b12af1e7b9f1ca80184b", func := "loop.example/g03224/laws.FnPicked", spec := "fnPicked", plainKeys := false, apart := false }
def FnPickedSaid : Prop := fnPickedRow.holds Try.pinned (OpenSpec.ofChange fnPickedSpec)

/-- ITS FALSE NEIGHBOUR: 'it returns false'. Refute it at one input. -/
def fnPickedWrong : ChangeSpec := { name := "fnPicked", fn := fun _ => fun
  | [d] => { results := [.lit (.bool false)], args := [d] }
  | _ => none }
def FnPickedWrongFalsely : Prop := fnPickedRow.holds Try.pinned (OpenSpec.ofChange fnPickedWrong)

/-- 'laws.FnExactRunProcess': WHATEVER THE INPUT: true; the input reads as it did. -/
def fnExactRunProcessSpec : ChangeSpec := { name := "fnExactRunProcess", fn := fun _ => fun
  | [d1, d2, d3] => { results := [.lit (.bool true)], args := [d1, d2, d3] }
  | _ => none }
def fnExactRunProcessRow : OpenClaim := { program := "ytfjmebggghkehaa", sum := "cbaf92fb239040ecd763f3af92db0982140921c08617b12af1e7b9f1ca80184b", func := "loop.example/g03224/laws.FnExactRunProcess", spec := "fnExactRunProcess", plainKeys := false, apart := false }
def FnExactRunProcessSaid : Prop := fnExactRunProcessRow.holds Try.pinned (OpenSpec.ofChange fnExactRunProcessSpec)

/-- ITS FALSE NEIGHBOUR: 'it returns false'. Refute it at one input. -/
def fnExactRunProcessWrong : ChangeSpec := { name := "fnExactRunProcess", fn := fun _ => fun
  | [d1, d2, d3] => { results := [.lit (.bool false)], args := [d1, d2, d3] }
  | _ => none }
def FnExactRunProcessWrongFalsely : Prop := fnExactRunProcessRow.holds Try.pinned (OpenSpec.ofChange fnExactRunProcessWrong)

/-- 'laws.FnExactChainNetwork': WHATEVER THE INPUT: true; the input reads as it did. -/
def fnExactChainNetworkSpec : ChangeSpec := { name := "fnExactChainNetwork", fn := fun _ => fun
  | [d1, d2] => { results := [.lit (.bool true)], args := [d1, d2] }
  | _ => none }
def fnExactChainNetworkRow : OpenClaim := { program := "ytfjmebggghkehaa", sum := "cbaf92fb239040ecd763f3af92db0982140921c08617b12af1e7b9f1ca80184b", func := "loop.example/g03224/laws.FnExactChainNetwork", spec := "fnExactChainNetwork", unfollowed := true, recurses := true, plainKeys := false, apart := false }
def FnExactChainNetworkSaid : Prop := fnExactChainNetworkRow.holds Try.pinned (OpenSpec.ofChange fnExactChainNetworkSpec)

/-- ITS FALSE NEIGHBOUR: 'it returns false'. Refute it at one input. -/
def fnExactChainNetworkWrong : ChangeSpec := { name := "fnExactChainNetwork", fn := fun _ => fun
  | [d1, d2] => { results := [.lit (.bool false)], args := [d1, d2] }
  | _ => none }
def FnExactChainNetworkWrongFalsely : Prop := fnExactChainNetworkRow.holds Try.pinned (OpenSpec.ofChange fnExactChainNetworkWrong)

/-- 'laws.FnExactFeedNetwork': WHATEVER THE INPUT: true; the input reads as it did. -/
def fnExactFeedNetworkSpec : ChangeSpec := { name := "fnExactFeedNetwork", fn := fun _ => fun
  | [d1, d2, d3] => { results := [.lit (.bool true)], args := [d1, d2, d3] }
  | _ => none }
def fnExactFeedNetworkRow : OpenClaim := { program := "ytfjmebggghkehaa", sum := "cbaf92fb239040ecd763f3af92db0982140921c08617b12af1e7b9f1ca80184b", func := "loop.example/g03224/laws.FnExactFeedNetwork", spec := "fnExactFeedNetwork", unfollowed := true, recurses := true, plainKeys := false, apart := false }
def FnExactFeedNetworkSaid : Prop := fnExactFeedNetworkRow.holds Try.pinned (OpenSpec.ofChange fnExactFeedNetworkSpec)

/-- ITS FALSE NEIGHBOUR: 'it returns false'. Refute it at one input. -/
def fnExactFeedNetworkWrong : ChangeSpec := { name := "fnExactFeedNetwork", fn := fun _ => fun
  | [d1, d2, d3] => { results := [.lit (.bool false)], args := [d1, d2, d3] }
  | _ => none }
def FnExactFeedNetworkWrongFalsely : Prop := fnExactFeedNetworkRow.holds Try.pinned (OpenSpec.ofChange fnExactFeedNetworkWrong)

/-- 'laws.FnExactPermuteNetwork': WHATEVER THE INPUT: true; the input reads as it did. -/
def fnExactPermuteNetworkSpec : ChangeSpec := { name := "fnExactPermuteNetwork", fn := fun _ => fun
  | [d1, d2] => { results := [.lit (.bool true)], args := [d1, d2] }
  | _ => none }
def fnExactPermuteNetworkRow : OpenClaim := { program := "ytfjmebggghkehaa", sum := "cbaf92fb239040ecd763f3af92db0982140921c08617b12af1e7b9f1ca80184b", func := "loop.example/g03224/laws.FnExactPermuteNetwork", spec := "fnExactPermuteNetwork", unfollowed := true, recurses := true, plainKeys := false, apart := false }
def FnExactPermuteNetworkSaid : Prop := fnExactPermuteNetworkRow.holds Try.pinned (OpenSpec.ofChange fnExactPermuteNetworkSpec)

/-- ITS FALSE NEIGHBOUR: 'it returns false'. Refute it at one input. -/
def fnExactPermuteNetworkWrong : ChangeSpec := { name := "fnExactPermuteNetwork", fn := fun _ => fun
  | [d1, d2] => { results := [.lit (.bool false)], args := [d1, d2] }
  | _ => none }
def FnExactPermuteNetworkWrongFalsely : Prop := fnExactPermuteNetworkRow.holds Try.pinned (OpenSpec.ofChange fnExactPermuteNetworkWrong)

/-- 'laws.FnExactJoinNetworks': WHATEVER THE INPUT: true; the input reads as it did. -/
def fnExactJoinNetworksSpec : ChangeSpec := { name := "fnExactJoinNetworks", fn := fun _ => fun
  | [d1, d2] => { results := [.lit (.bool true)], args := [d1, d2] }
  | _ => none }
def fnExactJoinNetworksRow : OpenClaim := { program := "ytfjmebggghkehaa", sum := "cbaf92fb239040ecd763f3af92db0982140921c08617b12af1e7b9f1ca80184b", func := "loop.example/g03224/laws.FnExactJoinNetworks", spec := "fnExactJoinNetworks", unfollowed := true, recurses := true, plainKeys := false, apart := false }
def FnExactJoinNetworksSaid : Prop := fnExactJoinNetworksRow.holds Try.pinned (OpenSpec.ofChange fnExactJoinNetworksSpec)

/-- ITS FALSE NEIGHBOUR: 'it returns false'. Refute it at one input. -/
def fnExactJoinNetworksWrong : ChangeSpec := { name := "fnExactJoinNetworks", fn := fun _ => fun
  | [d1, d2] => { results := [.lit (.bool false)], args := [d1, d2] }
  | _ => none }
def FnExactJoinNetworksWrongFalsely : Prop := fnExactJoinNetworksRow.holds Try.pinned (OpenSpec.ofChange fnExactJoinNetworksWrong)

/-- 'laws.FnExactAreHistories': WHATEVER THE INPUT: true; the input reads as it did. -/
def fnExactAreHistoriesSpec : ChangeSpec := { name := "fnExactAreHistories", fn := fun _ => fun
  | [d1, d2] => { results := [.lit (.bool true)], args := [d1, d2] }
  | _ => none }
def fnExactAreHistoriesRow : OpenClaim := { program := "ytfjmebggghkehaa", sum := "cbaf92fb239040ecd763f3af92db0982140921c08617b12af1e7b9f1ca80184b", func := "loop.example/g03224/laws.FnExactAreHistories", spec := "fnExactAreHistories", unfollowed := true, recurses := true, plainKeys := false, apart := false }
def FnExactAreHistoriesSaid : Prop := fnExactAreHistoriesRow.holds Try.pinned (OpenSpec.ofChange fnExactAreHistoriesSpec)

/-- ITS FALSE NEIGHBOUR: 'it returns false'. Refute it at one input. -/
def fnExactAreHistoriesWrong : ChangeSpec := { name := "fnExactAreHistories", fn := fun _ => fun
  | [d1, d2] => { results := [.lit (.bool false)], args := [d1, d2] }
  | _ => none }
def FnExactAreHistoriesWrongFalsely : Prop := fnExactAreHistoriesRow.holds Try.pinned (OpenSpec.ofChange fnExactAreHistoriesWrong)

/-- 'laws.FnExactAreBelow': WHATEVER THE INPUT: true; the input reads as it did. -/
def fnExactAreBelowSpec : ChangeSpec := { name := "fnExactAreBelow", fn := fun _ => fun
  | [d1, d2, d3] => { results := [.lit (.bool true)], args := [d1, d2, d3] }
  | _ => none }
def fnExactAreBelowRow : OpenClaim := { program := "ytfjmebggghkehaa", sum := "cbaf92fb239040ecd763f3af92db0982140921c08617b12af1e7b9f1ca80184b", func := "loop.example/g03224/laws.FnExactAreBelow", spec := "fnExactAreBelow", unfollowed := true, recurses := true, plainKeys := false, apart := false }
def FnExactAreBelowSaid : Prop := fnExactAreBelowRow.holds Try.pinned (OpenSpec.ofChange fnExactAreBelowSpec)

/-- ITS FALSE NEIGHBOUR: 'it returns false'. Refute it at one input. -/
def fnExactAreBelowWrong : ChangeSpec := { name := "fnExactAreBelow", fn := fun _ => fun
  | [d1, d2, d3] => { results := [.lit (.bool false)], args := [d1, d2, d3] }
  | _ => none }
def FnExactAreBelowWrongFalsely : Prop := fnExactAreBelowRow.holds Try.pinned (OpenSpec.ofChange fnExactAreBelowWrong)

/- THE SECOND FORM. 'bulk': how many values and letters a reading holds, each counted each time it is reached (what is shared counts as often as it is met; a slice's spare places count too). A statement '..UptoSaid' is the law's where the arguments, and the package variables that the reading takes, are together of bulk at most 1048576: NARROWER than '..Said'. Prove '..Said' where nothing that the law and all that it calls make is longer than what came in: it says more and counts as full. Else prove '..UptoSaid'. A law counts once. -/
mutual
def uptoBulk {H : Type} : DataW H → Nat
  | .lit (.string bytes) => bytes.length + 1
  | .lit _ => 1
  | .nil => 1
  | .ptr d => uptoBulk d + 1
  | .slice elems spare => uptoBulkAll elems + uptoBulkAll spare + 1
  | .agg parts => uptoBulkAll parts + 1
  | .iface _ d => uptoBulk d + 1
  | .map entries => uptoBulkEntries entries + 1
  | .held _ => 1
def uptoBulkAll {H : Type} : List (DataW H) → Nat
  | [] => 0
  | d :: r => uptoBulk d + uptoBulkAll r
def uptoBulkEntries {H : Type} : List (Lit × DataW H) → Nat
  | [] => 0
  | x :: r => uptoBulkEntry x + uptoBulkEntries r
def uptoBulkEntry {H : Type} : Lit × DataW H → Nat
  | (.string bytes, d) => bytes.length + uptoBulk d + 1
  | (_, d) => uptoBulk d + 1
 end
def uptoSmall : (H : Type) → List (DataW H) → Bool := fun _ ds => decide (uptoBulkAll ds ≤ 1048576)
def OpenSpec.upto (s : _root_.Go.ChangeSpec) : _root_.Go.OpenSpec := { _root_.Go.OpenSpec.ofChange s with cond := some uptoSmall }

/-- 'laws.FnSamples', WHERE WHAT IT READS IS OF BULK AT MOST 1048576: true; the input reads as it did. -/
def fnSamplesUptoRow : OpenClaim := { program := "ytfjmebggghkehaa", sum := "cbaf92fb239040ecd763f3af92db0982140921c08617b12af1e7b9f1ca80184b", func := "loop.example/g03224/laws.FnSamples", spec := "fnSamples", plainKeys := false, apart := false, narrowed := true }
def FnSamplesUptoSaid : Prop := fnSamplesUptoRow.holds Try.pinned (OpenSpec.upto fnSamplesSpec)

/-- 'laws.FnProcess', WHERE WHAT IT READS IS OF BULK AT MOST 1048576: true; the input reads as it did. -/
def fnProcessUptoRow : OpenClaim := { program := "ytfjmebggghkehaa", sum := "cbaf92fb239040ecd763f3af92db0982140921c08617b12af1e7b9f1ca80184b", func := "loop.example/g03224/laws.FnProcess", spec := "fnProcess", plainKeys := false, apart := false, narrowed := true }
def FnProcessUptoSaid : Prop := fnProcessUptoRow.holds Try.pinned (OpenSpec.upto fnProcessSpec)

/-- 'laws.FnReached', WHERE WHAT IT READS IS OF BULK AT MOST 1048576: true; the input reads as it did. -/
def fnReachedUptoRow : OpenClaim := { program := "ytfjmebggghkehaa", sum := "cbaf92fb239040ecd763f3af92db0982140921c08617b12af1e7b9f1ca80184b", func := "loop.example/g03224/laws.FnReached", spec := "fnReached", unfollowed := true, recurses := true, plainKeys := false, apart := false, narrowed := true }
def FnReachedUptoSaid : Prop := fnReachedUptoRow.holds Try.pinned (OpenSpec.upto fnReachedSpec)

/-- 'laws.FnFed', WHERE WHAT IT READS IS OF BULK AT MOST 1048576: true; the input reads as it did. -/
def fnFedUptoRow : OpenClaim := { program := "ytfjmebggghkehaa", sum := "cbaf92fb239040ecd763f3af92db0982140921c08617b12af1e7b9f1ca80184b", func := "loop.example/g03224/laws.FnFed", spec := "fnFed", unfollowed := true, recurses := true, plainKeys := false, apart := false, narrowed := true }
def FnFedUptoSaid : Prop := fnFedUptoRow.holds Try.pinned (OpenSpec.upto fnFedSpec)

/-- 'laws.FnPicked', WHERE WHAT IT READS IS OF BULK AT MOST 1048576: true; the input reads as it did. -/
def fnPickedUptoRow : OpenClaim := { program := "ytfjmebggghkehaa", sum := "cbaf92fb239040ecd763f3af92db0982140921c08617b12af1e7b9f1ca80184b", func := "loop.example/g03224/laws.FnPicked", spec := "fnPicked", plainKeys := false, apart := false, narrowed := true }
def FnPickedUptoSaid : Prop := fnPickedUptoRow.holds Try.pinned (OpenSpec.upto fnPickedSpec)

/-- 'laws.FnExactRunProcess', WHERE WHAT IT READS IS OF BULK AT MOST 1048576: true; the input reads as it did. -/
def fnExactRunProcessUptoRow : OpenClaim := { program := "ytfjmebggghkehaa", sum := "cbaf92fb239040ecd763f3af92db0982140921c08617b12af1e7b9f1ca80184b", func := "loop.example/g03224/laws.FnExactRunProcess", spec := "fnExactRunProcess", plainKeys := false, apart := false, narrowed := true }
def FnExactRunProcessUptoSaid : Prop := fnExactRunProcessUptoRow.holds Try.pinned (OpenSpec.upto fnExactRunProcessSpec)

/-- 'laws.FnExactChainNetwork', WHERE WHAT IT READS IS OF BULK AT MOST 1048576: true; the input reads as it did. -/
def fnExactChainNetworkUptoRow : OpenClaim := { program := "ytfjmebggghkehaa", sum := "cbaf92fb239040ecd763f3af92db0982140921c08617b12af1e7b9f1ca80184b", func := "loop.example/g03224/laws.FnExactChainNetwork", spec := "fnExactChainNetwork", unfollowed := true, recurses := true, plainKeys := false, apart := false, narrowed := true }
def FnExactChainNetworkUptoSaid : Prop := fnExactChainNetworkUptoRow.holds Try.pinned (OpenSpec.upto fnExactChainNetworkSpec)

/-- 'laws.FnExactFeedNetwork', WHERE WHAT IT READS IS OF BULK AT MOST 1048576: true; the input reads as it did. -/
def fnExactFeedNetworkUptoRow : OpenClaim := { program := "ytfjmebggghkehaa", sum := "cbaf92fb239040ecd763f3af92db0982140921c08617b12af1e7b9f1ca80184b", func := "loop.example/g03224/laws.FnExactFeedNetwork", spec := "fnExactFeedNetwork", unfollowed := true, recurses := true, plainKeys := false, apart := false, narrowed := true }
def FnExactFeedNetworkUptoSaid : Prop := fnExactFeedNetworkUptoRow.holds Try.pinned (OpenSpec.upto fnExactFeedNetworkSpec)

/-- 'laws.FnExactPermuteNetwork', WHERE WHAT IT READS IS OF BULK AT MOST 1048576: true; the input reads as it did. -/
def fnExactPermuteNetworkUptoRow : OpenClaim := { program := "ytfjmebggghkehaa", sum := "cbaf92fb239040ecd763f3af92db0982140921c08617b12af1e7b9f1ca80184b", func := "loop.example/g03224/laws.FnExactPermuteNetwork", spec := "fnExactPermuteNetwork", unfollowed := true, recurses := true, plainKeys := false, apart := false, narrowed := true }
def FnExactPermuteNetworkUptoSaid : Prop := fnExactPermuteNetworkUptoRow.holds Try.pinned (OpenSpec.upto fnExactPermuteNetworkSpec)

/-- 'laws.FnExactJoinNetworks', WHERE WHAT IT READS IS OF BULK AT MOST 1048576: true; the input reads as it did. -/
def fnExactJoinNetworksUptoRow : OpenClaim := { program := "ytfjmebggghkehaa", sum := "cbaf92fb239040ecd763f3af92db0982140921c08617b12af1e7b9f1ca80184b", func := "loop.example/g03224/laws.FnExactJoinNetworks", spec := "fnExactJoinNetworks", unfollowed := true, recurses := true, plainKeys := false, apart := false, narrowed := true }
def FnExactJoinNetworksUptoSaid : Prop := fnExactJoinNetworksUptoRow.holds Try.pinned (OpenSpec.upto fnExactJoinNetworksSpec)

/-- 'laws.FnExactAreHistories', WHERE WHAT IT READS IS OF BULK AT MOST 1048576: true; the input reads as it did. -/
def fnExactAreHistoriesUptoRow : OpenClaim := { program := "ytfjmebggghkehaa", sum := "cbaf92fb239040ecd763f3af92db0982140921c08617b12af1e7b9f1ca80184b", func := "loop.example/g03224/laws.FnExactAreHistories", spec := "fnExactAreHistories", unfollowed := true, recurses := true, plainKeys := false, apart := false, narrowed := true }
def FnExactAreHistoriesUptoSaid : Prop := fnExactAreHistoriesUptoRow.holds Try.pinned (OpenSpec.upto fnExactAreHistoriesSpec)

/-- 'laws.FnExactAreBelow', WHERE WHAT IT READS IS OF BULK AT MOST 1048576: true; the input reads as it did. -/
def fnExactAreBelowUptoRow : OpenClaim := { program := "ytfjmebggghkehaa", sum := "cbaf92fb239040ecd763f3af92db0982140921c08617b12af1e7b9f1ca80184b", func := "loop.example/g03224/laws.FnExactAreBelow", spec := "fnExactAreBelow", unfollowed := true, recurses := true, plainKeys := false, apart := false, narrowed := true }
def FnExactAreBelowUptoSaid : Prop := fnExactAreBelowUptoRow.holds Try.pinned (OpenSpec.upto fnExactAreBelowSpec)

end Rows
end Go.Proofs.Ytfjmebggghkehaa
