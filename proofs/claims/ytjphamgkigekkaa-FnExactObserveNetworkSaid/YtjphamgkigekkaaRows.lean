/-
  No cell of these rows narrows 'for every input' (looked for: loops, veiled, ifaces, maps, wideKeys, modest, calm, conditions, laid).
  DERIVED. THE GIVEN ROWS OF THIS SEAT. 12 by the template 'for every input the law returns true; each argument reads behind the call as it read before'; 0 by the template 'total and deterministic' (their statements: YtjphamgkigekkaaTotals.lean).
  GIVEN WITH THE SEED: the statements are not yours to turn. If you find one false, say at which input.
  Laid BY PROGRAM, IN A SANDBOX (cutbox-rows.mjs): the forced cells as the released guide's own fill.sh prints them over the translation 7f6272bdbb594d94… (all of the seat's roots in one cut). By AI agents, Wed Nov 11 2026. No macro, syntax, notation, axiom, sorry.
-/
import Derived.Test.YtjphamgkigekkaaChecked
import GoSem.Claim
import GoSem.ClaimJoined
import GoSem.ClaimMapViews
import Derived.JoinedTies
import Derived.KernelRfl
namespace Go.Proofs.Ytjphamgkigekkaa
/- THE CELL 'sum', in the pinned program and in every row, IS THE sha256 OF THE DUMP (.gsa) THAT YtjphamgkigekkaaProg.lean LOADS. Nothing in Lean hashes anything: it is a label: what it is worth is what the hold of that sum in a sandbox is worth. -/
noncomputable def Try.pinned : Pinned := { name := "ytjphamgkigekkaa", sum := "7f6272bdbb594d941d0feb5c29a83afea06700d83cc67c774152b95739d82807", checked := Try.checked }
namespace Rows
def none {H : Type} : Left H := { results := [], args := [] }

/-- 'laws.FnExactRoundOf': WHATEVER THE INPUT: true; the input reads as it did. -/
def fnExactRoundOfSpec : ChangeSpec := { name := "fnExactRoundOf", fn := fun _ => fun
  | [d1, d2] => { results := [.lit (.bool true)], args := [d1, d2] }
  | _ => none }
def fnExactRoundOfRow : OpenClaim := { program := "ytjphamgkigekkaa", sum := "7f6272bdbb594d941d0feb5c29a83afea06700d83cc67c774152b95739d82807", func := "loop.example/g03224/laws.FnExactRoundOf", spec := "fnExactRoundOf", unfollowed := true, recurses := true, plainKeys := false, apart := false }
def FnExactRoundOfSaid : Prop := fnExactRoundOfRow.holds Try.pinned (OpenSpec.ofChange fnExactRoundOfSpec)

/-- ITS FALSE NEIGHBOUR: 'it returns false'. Refute it at one input. -/
def fnExactRoundOfWrong : ChangeSpec := { name := "fnExactRoundOf", fn := fun _ => fun
  | [d1, d2] => { results := [.lit (.bool false)], args := [d1, d2] }
  | _ => none }
def FnExactRoundOfWrongFalsely : Prop := fnExactRoundOfRow.holds Try.pinned (OpenSpec.ofChange fnExactRoundOfWrong)

/-- 'laws.FnExactLeastStreams': WHATEVER THE INPUT: true; the input reads as it did. -/
def fnExactLeastStreamsSpec : ChangeSpec := { name := "fnExactLeastStreams", fn := fun _ => fun
  | [d] => { results := [.lit (.bool true)], args := [d] }
  | _ => none }
def fnExactLeastStreamsRow : OpenClaim := { program := "ytjphamgkigekkaa", sum := "7f6272bdbb594d941d0feb5c29a83afea06700d83cc67c774152b95739d82807", func := "loop.example/g03224/laws.FnExactLeastStreams", spec := "fnExactLeastStreams", unfollowed := true, recurses := true, plainKeys := false, apart := false }
def FnExactLeastStreamsSaid : Prop := fnExactLeastStreamsRow.holds Try.pinned (OpenSpec.ofChange fnExactLeastStreamsSpec)

/-- ITS FALSE NEIGHBOUR: 'it returns false'. Refute it at one input. -/
def fnExactLeastStreamsWrong : ChangeSpec := { name := "fnExactLeastStreams", fn := fun _ => fun
  | [d] => { results := [.lit (.bool false)], args := [d] }
  | _ => none }
def FnExactLeastStreamsWrongFalsely : Prop := fnExactLeastStreamsRow.holds Try.pinned (OpenSpec.ofChange fnExactLeastStreamsWrong)

/-- 'laws.FnExactIsFixed': WHATEVER THE INPUT: true; the input reads as it did. -/
def fnExactIsFixedSpec : ChangeSpec := { name := "fnExactIsFixed", fn := fun _ => fun
  | [d1, d2] => { results := [.lit (.bool true)], args := [d1, d2] }
  | _ => none }
def fnExactIsFixedRow : OpenClaim := { program := "ytjphamgkigekkaa", sum := "7f6272bdbb594d941d0feb5c29a83afea06700d83cc67c774152b95739d82807", func := "loop.example/g03224/laws.FnExactIsFixed", spec := "fnExactIsFixed", unfollowed := true, recurses := true, plainKeys := false, apart := false }
def FnExactIsFixedSaid : Prop := fnExactIsFixedRow.holds Try.pinned (OpenSpec.ofChange fnExactIsFixedSpec)

/-- ITS FALSE NEIGHBOUR: 'it returns false'. Refute it at one input. -/
def fnExactIsFixedWrong : ChangeSpec := { name := "fnExactIsFixed", fn := fun _ => fun
  | [d1, d2] => { results := [.lit (.bool false)], args := [d1, d2] }
  | _ => none }
def FnExactIsFixedWrongFalsely : Prop := fnExactIsFixedRow.holds Try.pinned (OpenSpec.ofChange fnExactIsFixedWrong)

/-- 'laws.FnExactObserveNetwork': WHATEVER THE INPUT: true; the input reads as it did. -/
def fnExactObserveNetworkSpec : ChangeSpec := { name := "fnExactObserveNetwork", fn := fun _ => fun
  | [d] => { results := [.lit (.bool true)], args := [d] }
  | _ => none }
def fnExactObserveNetworkRow : OpenClaim := { program := "ytjphamgkigekkaa", sum := "7f6272bdbb594d941d0feb5c29a83afea06700d83cc67c774152b95739d82807", func := "loop.example/g03224/laws.FnExactObserveNetwork", spec := "fnExactObserveNetwork", unfollowed := true, recurses := true, plainKeys := false, apart := false }
def FnExactObserveNetworkSaid : Prop := fnExactObserveNetworkRow.holds Try.pinned (OpenSpec.ofChange fnExactObserveNetworkSpec)

/-- ITS FALSE NEIGHBOUR: 'it returns false'. Refute it at one input. -/
def fnExactObserveNetworkWrong : ChangeSpec := { name := "fnExactObserveNetwork", fn := fun _ => fun
  | [d] => { results := [.lit (.bool false)], args := [d] }
  | _ => none }
def FnExactObserveNetworkWrongFalsely : Prop := fnExactObserveNetworkRow.holds Try.pinned (OpenSpec.ofChange fnExactObserveNetworkWrong)

/-- 'laws.FnExactWaitsOf': WHATEVER THE INPUT: true; the input reads as it did. -/
def fnExactWaitsOfSpec : ChangeSpec := { name := "fnExactWaitsOf", fn := fun _ => fun
  | [d] => { results := [.lit (.bool true)], args := [d] }
  | _ => none }
def fnExactWaitsOfRow : OpenClaim := { program := "ytjphamgkigekkaa", sum := "7f6272bdbb594d941d0feb5c29a83afea06700d83cc67c774152b95739d82807", func := "loop.example/g03224/laws.FnExactWaitsOf", spec := "fnExactWaitsOf", unfollowed := true, recurses := true, plainKeys := false, apart := false }
def FnExactWaitsOfSaid : Prop := fnExactWaitsOfRow.holds Try.pinned (OpenSpec.ofChange fnExactWaitsOfSpec)

/-- ITS FALSE NEIGHBOUR: 'it returns false'. Refute it at one input. -/
def fnExactWaitsOfWrong : ChangeSpec := { name := "fnExactWaitsOf", fn := fun _ => fun
  | [d] => { results := [.lit (.bool false)], args := [d] }
  | _ => none }
def FnExactWaitsOfWrongFalsely : Prop := fnExactWaitsOfRow.holds Try.pinned (OpenSpec.ofChange fnExactWaitsOfWrong)

/-- 'laws.FnExactStartState': WHATEVER THE INPUT: true; the input reads as it did. -/
def fnExactStartStateSpec : ChangeSpec := { name := "fnExactStartState", fn := fun _ => fun
  | [d] => { results := [.lit (.bool true)], args := [d] }
  | _ => none }
def fnExactStartStateRow : OpenClaim := { program := "ytjphamgkigekkaa", sum := "7f6272bdbb594d941d0feb5c29a83afea06700d83cc67c774152b95739d82807", func := "loop.example/g03224/laws.FnExactStartState", spec := "fnExactStartState", unfollowed := true, recurses := true, plainKeys := false, apart := false }
def FnExactStartStateSaid : Prop := fnExactStartStateRow.holds Try.pinned (OpenSpec.ofChange fnExactStartStateSpec)

/-- ITS FALSE NEIGHBOUR: 'it returns false'. Refute it at one input. -/
def fnExactStartStateWrong : ChangeSpec := { name := "fnExactStartState", fn := fun _ => fun
  | [d] => { results := [.lit (.bool false)], args := [d] }
  | _ => none }
def FnExactStartStateWrongFalsely : Prop := fnExactStartStateRow.holds Try.pinned (OpenSpec.ofChange fnExactStartStateWrong)

/-- 'laws.FnExactIsState': WHATEVER THE INPUT: true; the input reads as it did. -/
def fnExactIsStateSpec : ChangeSpec := { name := "fnExactIsState", fn := fun _ => fun
  | [d1, d2] => { results := [.lit (.bool true)], args := [d1, d2] }
  | _ => none }
def fnExactIsStateRow : OpenClaim := { program := "ytjphamgkigekkaa", sum := "7f6272bdbb594d941d0feb5c29a83afea06700d83cc67c774152b95739d82807", func := "loop.example/g03224/laws.FnExactIsState", spec := "fnExactIsState", unfollowed := true, recurses := true, plainKeys := false, apart := false }
def FnExactIsStateSaid : Prop := fnExactIsStateRow.holds Try.pinned (OpenSpec.ofChange fnExactIsStateSpec)

/-- ITS FALSE NEIGHBOUR: 'it returns false'. Refute it at one input. -/
def fnExactIsStateWrong : ChangeSpec := { name := "fnExactIsState", fn := fun _ => fun
  | [d1, d2] => { results := [.lit (.bool false)], args := [d1, d2] }
  | _ => none }
def FnExactIsStateWrongFalsely : Prop := fnExactIsStateRow.holds Try.pinned (OpenSpec.ofChange fnExactIsStateWrong)

/-- 'laws.FnExactCanStep': WHATEVER THE INPUT: true; the input reads as it did. -/
def fnExactCanStepSpec : ChangeSpec := { name := "fnExactCanStep", fn := fun _ => fun
  | [d1, d2, d3] => { results := [.lit (.bool true)], args := [d1, d2, d3] }
  | _ => none }
def fnExactCanStepRow : OpenClaim := { program := "ytjphamgkigekkaa", sum := "7f6272bdbb594d941d0feb5c29a83afea06700d83cc67c774152b95739d82807", func := "loop.example/g03224/laws.FnExactCanStep", spec := "fnExactCanStep", unfollowed := true, recurses := true, plainKeys := false, apart := false }
def FnExactCanStepSaid : Prop := fnExactCanStepRow.holds Try.pinned (OpenSpec.ofChange fnExactCanStepSpec)

/-- ITS FALSE NEIGHBOUR: 'it returns false'. Refute it at one input. -/
def fnExactCanStepWrong : ChangeSpec := { name := "fnExactCanStep", fn := fun _ => fun
  | [d1, d2, d3] => { results := [.lit (.bool false)], args := [d1, d2, d3] }
  | _ => none }
def FnExactCanStepWrongFalsely : Prop := fnExactCanStepRow.holds Try.pinned (OpenSpec.ofChange fnExactCanStepWrong)

/-- 'laws.FnExactIsQuiet': WHATEVER THE INPUT: true; the input reads as it did. -/
def fnExactIsQuietSpec : ChangeSpec := { name := "fnExactIsQuiet", fn := fun _ => fun
  | [d1, d2] => { results := [.lit (.bool true)], args := [d1, d2] }
  | _ => none }
def fnExactIsQuietRow : OpenClaim := { program := "ytjphamgkigekkaa", sum := "7f6272bdbb594d941d0feb5c29a83afea06700d83cc67c774152b95739d82807", func := "loop.example/g03224/laws.FnExactIsQuiet", spec := "fnExactIsQuiet", unfollowed := true, recurses := true, plainKeys := false, apart := false }
def FnExactIsQuietSaid : Prop := fnExactIsQuietRow.holds Try.pinned (OpenSpec.ofChange fnExactIsQuietSpec)

/-- ITS FALSE NEIGHBOUR: 'it returns false'. Refute it at one input. -/
def fnExactIsQuietWrong : ChangeSpec := { name := "fnExactIsQuiet", fn := fun _ => fun
  | [d1, d2] => { results := [.lit (.bool false)], args := [d1, d2] }
  | _ => none }
def FnExactIsQuietWrongFalsely : Prop := fnExactIsQuietRow.holds Try.pinned (OpenSpec.ofChange fnExactIsQuietWrong)

/-- 'laws.FnExactBlockedOn': WHATEVER THE INPUT: true; the input reads as it did. -/
def fnExactBlockedOnSpec : ChangeSpec := { name := "fnExactBlockedOn", fn := fun _ => fun
  | [d1, d2] => { results := [.lit (.bool true)], args := [d1, d2] }
  | _ => none }
def fnExactBlockedOnRow : OpenClaim := { program := "ytjphamgkigekkaa", sum := "7f6272bdbb594d941d0feb5c29a83afea06700d83cc67c774152b95739d82807", func := "loop.example/g03224/laws.FnExactBlockedOn", spec := "fnExactBlockedOn", unfollowed := true, recurses := true, plainKeys := false, apart := false }
def FnExactBlockedOnSaid : Prop := fnExactBlockedOnRow.holds Try.pinned (OpenSpec.ofChange fnExactBlockedOnSpec)

/-- ITS FALSE NEIGHBOUR: 'it returns false'. Refute it at one input. -/
def fnExactBlockedOnWrong : ChangeSpec := { name := "fnExactBlockedOn", fn := fun _ => fun
  | [d1, d2] => { results := [.lit (.bool false)], args := [d1, d2] }
  | _ => none }
def FnExactBlockedOnWrongFalsely : Prop := fnExactBlockedOnRow.holds Try.pinned (OpenSpec.ofChange fnExactBlockedOnWrong)

/-- 'laws.FnExactLinkTo': WHATEVER THE INPUT: true; the input reads as it did. -/
def fnExactLinkToSpec : ChangeSpec := { name := "fnExactLinkTo", fn := fun _ => fun
  | [d1, d2, d3] => { results := [.lit (.bool true)], args := [d1, d2, d3] }
  | _ => none }
def fnExactLinkToRow : OpenClaim := { program := "ytjphamgkigekkaa", sum := "7f6272bdbb594d941d0feb5c29a83afea06700d83cc67c774152b95739d82807", func := "loop.example/g03224/laws.FnExactLinkTo", spec := "fnExactLinkTo", unfollowed := true, recurses := true, plainKeys := false, apart := false }
def FnExactLinkToSaid : Prop := fnExactLinkToRow.holds Try.pinned (OpenSpec.ofChange fnExactLinkToSpec)

/-- ITS FALSE NEIGHBOUR: 'it returns false'. Refute it at one input. -/
def fnExactLinkToWrong : ChangeSpec := { name := "fnExactLinkTo", fn := fun _ => fun
  | [d1, d2, d3] => { results := [.lit (.bool false)], args := [d1, d2, d3] }
  | _ => none }
def FnExactLinkToWrongFalsely : Prop := fnExactLinkToRow.holds Try.pinned (OpenSpec.ofChange fnExactLinkToWrong)

/-- 'laws.FnExactLinkFrom': WHATEVER THE INPUT: true; the input reads as it did. -/
def fnExactLinkFromSpec : ChangeSpec := { name := "fnExactLinkFrom", fn := fun _ => fun
  | [d1, d2, d3] => { results := [.lit (.bool true)], args := [d1, d2, d3] }
  | _ => none }
def fnExactLinkFromRow : OpenClaim := { program := "ytjphamgkigekkaa", sum := "7f6272bdbb594d941d0feb5c29a83afea06700d83cc67c774152b95739d82807", func := "loop.example/g03224/laws.FnExactLinkFrom", spec := "fnExactLinkFrom", unfollowed := true, recurses := true, plainKeys := false, apart := false }
def FnExactLinkFromSaid : Prop := fnExactLinkFromRow.holds Try.pinned (OpenSpec.ofChange fnExactLinkFromSpec)

/-- ITS FALSE NEIGHBOUR: 'it returns false'. Refute it at one input. -/
def fnExactLinkFromWrong : ChangeSpec := { name := "fnExactLinkFrom", fn := fun _ => fun
  | [d1, d2, d3] => { results := [.lit (.bool false)], args := [d1, d2, d3] }
  | _ => none }
def FnExactLinkFromWrongFalsely : Prop := fnExactLinkFromRow.holds Try.pinned (OpenSpec.ofChange fnExactLinkFromWrong)

/- THE SECOND FORM. 'bulk': how many values and letters a reading holds, each counted each time it is reached (what is shared counts as often as it is met; a slice's spare places count too). A statement '..UptoSaid' is the law's where the arguments, and the package variables that the reading takes, are together of bulk at most 1048576: NARROWER than '..Said'. Prove '..Said' where nothing that the law and all that it calls make is longer than what came in: it says more and counts as full. Else prove '..UptoSaid'. A law counts once. -/
mutual
def uptoBulk {H : Type} : DataW H → Nat
  | .lit (.string bytes) => bytes.length + 1
  | .lit _ => 1
  | .nil => 1
  | .ptr d => uptoBulk d + 1
  | .slice elems spare => uptoBulkAll elems + uptoBulkAll spare + 1
  | .agg parts => uptoBulkAll parts + 1
  | .iface _ d => uptoBulk d + 1
  | .map entries => uptoBulkEntries entries + 1
  | .held _ => 1
def uptoBulkAll {H : Type} : List (DataW H) → Nat
  | [] => 0
  | d :: r => uptoBulk d + uptoBulkAll r
def uptoBulkEntries {H : Type} : List (Lit × DataW H) → Nat
  | [] => 0
  | x :: r => uptoBulkEntry x + uptoBulkEntries r
def uptoBulkEntry {H : Type} : Lit × DataW H → Nat
  | (.string bytes, d) => bytes.length + uptoBulk d + 1
  | (_, d) => uptoBulk d + 1
 end
def uptoSmall : (H : Type) → List (DataW H) → Bool := fun _ ds => decide (uptoBulkAll ds ≤ 1048576)
def OpenSpec.upto (s : _root_.Go.ChangeSpec) : _root_.Go.OpenSpec := { _root_.Go.OpenSpec.ofChange s with cond := some uptoSmall }

/-- 'laws.FnExactRoundOf', WHERE WHAT IT READS IS OF BULK AT MOST 1048576: true; the input reads as it did. -/
def fnExactRoundOfUptoRow : OpenClaim := { program := "ytjphamgkigekkaa", sum := "7f6272bdbb594d941d0feb5c29a83afea06700d83cc67c774152b95739d82807", func := "loop.example/g03224/laws.FnExactRoundOf", spec := "fnExactRoundOf", unfollowed := true, recurses := true, plainKeys := false, apart := false, narrowed := true }
def FnExactRoundOfUptoSaid : Prop := fnExactRoundOfUptoRow.holds Try.pinned (OpenSpec.upto fnExactRoundOfSpec)

/-- 'laws.FnExactLeastStreams', WHERE WHAT IT READS IS OF BULK AT MOST 1048576: true; the input reads as it did. -/
def fnExactLeastStreamsUptoRow : OpenClaim := { program := "ytjphamgkigekkaa", sum := "7f6272bdbb594d941d0feb5c29a83afea06700d83cc67c774152b95739d82807", func := "loop.example/g03224/laws.FnExactLeastStreams", spec := "fnExactLeastStreams", unfollowed := true, recurses := true, plainKeys := false, apart := false, narrowed := true }
def FnExactLeastStreamsUptoSaid : Prop := fnExactLeastStreamsUptoRow.holds Try.pinned (OpenSpec.upto fnExactLeastStreamsSpec)

/-- 'laws.FnExactIsFixed', WHERE WHAT IT READS IS OF BULK AT MOST 1048576: true; the input reads as it did. -/
def fnExactIsFixedUptoRow : OpenClaim := { program := "ytjphamgkigekkaa", sum := "7f6272bdbb594d941d0feb5c29a83afea06700d83cc67c774152b95739d82807", func := "loop.example/g03224/laws.FnExactIsFixed", spec := "fnExactIsFixed", unfollowed := true, recurses := true, plainKeys := false, apart := false, narrowed := true }
def FnExactIsFixedUptoSaid : Prop := fnExactIsFixedUptoRow.holds Try.pinned (OpenSpec.upto fnExactIsFixedSpec)

/-- 'laws.FnExactObserveNetwork', WHERE WHAT IT READS IS OF BULK AT MOST 1048576: true; the input reads as it did. -/
def fnExactObserveNetworkUptoRow : OpenClaim := { program := "ytjphamgkigekkaa", sum := "7f6272bdbb594d941d0feb5c29a83afea06700d83cc67c774152b95739d82807", func := "loop.example/g03224/laws.FnExactObserveNetwork", spec := "fnExactObserveNetwork", unfollowed := true, recurses := true, plainKeys := false, apart := false, narrowed := true }
def FnExactObserveNetworkUptoSaid : Prop := fnExactObserveNetworkUptoRow.holds Try.pinned (OpenSpec.upto fnExactObserveNetworkSpec)

/-- 'laws.FnExactWaitsOf', WHERE WHAT IT READS IS OF BULK AT MOST 1048576: true; the input reads as it did. -/
def fnExactWaitsOfUptoRow : OpenClaim := { program := "ytjphamgkigekkaa", sum := "7f6272bdbb594d941d0feb5c29a83afea06700d83cc67c774152b95739d82807", func := "loop.example/g03224/laws.FnExactWaitsOf", spec := "fnExactWaitsOf", unfollowed := true, recurses := true, plainKeys := false, apart := false, narrowed := true }
def FnExactWaitsOfUptoSaid : Prop := fnExactWaitsOfUptoRow.holds Try.pinned (OpenSpec.upto fnExactWaitsOfSpec)

/-- 'laws.FnExactStartState', WHERE WHAT IT READS IS OF BULK AT MOST 1048576: true; the input reads as it did. -/
def fnExactStartStateUptoRow : OpenClaim := { program := "ytjphamgkigekkaa", sum := "7f6272bdbb594d941d0feb5c29a83afea06700d83cc67c774152b95739d82807", func := "loop.example/g03224/laws.FnExactStartState", spec := "fnExactStartState", unfollowed := true, recurses := true, plainKeys := false, apart := false, narrowed := true }
def FnExactStartStateUptoSaid : Prop := fnExactStartStateUptoRow.holds Try.pinned (OpenSpec.upto fnExactStartStateSpec)

/-- 'laws.FnExactIsState', WHERE WHAT IT READS IS OF BULK AT MOST 1048576: true; the input reads as it did. -/
def fnExactIsStateUptoRow : OpenClaim := { program := "ytjphamgkigekkaa", sum := "7f6272bdbb594d941d0feb5c29a83afea06700d83cc67c774152b95739d82807", func := "loop.example/g03224/laws.FnExactIsState", spec := "fnExactIsState", unfollowed := true, recurses := true, plainKeys := false, apart := false, narrowed := true }
def FnExactIsStateUptoSaid : Prop := fnExactIsStateUptoRow.holds Try.pinned (OpenSpec.upto fnExactIsStateSpec)

/-- 'laws.FnExactCanStep', WHERE WHAT IT READS IS OF BULK AT MOST 1048576: true; the input reads as it did. -/
def fnExactCanStepUptoRow : OpenClaim := { program := "ytjphamgkigekkaa", sum := "7f6272bdbb594d941d0feb5c29a83afea06700d83cc67c774152b95739d82807", func := "loop.example/g03224/laws.FnExactCanStep", spec := "fnExactCanStep", unfollowed := true, recurses := true, plainKeys := false, apart := false, narrowed := true }
def FnExactCanStepUptoSaid : Prop := fnExactCanStepUptoRow.holds Try.pinned (OpenSpec.upto fnExactCanStepSpec)

/-- 'laws.FnExactIsQuiet', WHERE WHAT IT READS IS OF BULK AT MOST 1048576: true; the input reads as it did. -/
def fnExactIsQuietUptoRow : OpenClaim := { program := "ytjphamgkigekkaa", sum := "7f6272bdbb594d941d0feb5c29a83afea06700d83cc67c774152b95739d82807", func := "loop.example/g03224/laws.FnExactIsQuiet", spec := "fnExactIsQuiet", unfollowed := true, recurses := true, plainKeys := false, apart := false, narrowed := true }
def FnExactIsQuietUptoSaid : Prop := fnExactIsQuietUptoRow.holds Try.pinned (OpenSpec.upto fnExactIsQuietSpec)

/-- 'laws.FnExactBlockedOn', WHERE WHAT IT READS IS OF BULK AT MOST 1048576: true; the input reads as it did. -/
def fnExactBlockedOnUptoRow : OpenClaim := { program := "ytjphamgkigekkaa", sum := "7f6272bdbb594d941d0feb5c29a83afea06700d83cc67c774152b95739d82807", func := "loop.example/g03224/laws.FnExactBlockedOn", spec := "fnExactBlockedOn", unfollowed := true, recurses := true, plainKeys := false, apart := false, narrowed := true }
def FnExactBlockedOnUptoSaid : Prop := fnExactBlockedOnUptoRow.holds Try.pinned (OpenSpec.upto fnExactBlockedOnSpec)

/-- 'laws.FnExactLinkTo', WHERE WHAT IT READS IS OF BULK AT MOST 1048576: true; the input reads as it did. -/
def fnExactLinkToUptoRow : OpenClaim := { program := "ytjphamgkigekkaa", sum := "7f6272bdbb594d941d0feb5c29a83afea06700d83cc67c774152b95739d82807", func := "loop.example/g03224/laws.FnExactLinkTo", spec := "fnExactLinkTo", unfollowed := true, recurses := true, plainKeys := false, apart := false, narrowed := true }
def FnExactLinkToUptoSaid : Prop := fnExactLinkToUptoRow.holds Try.pinned (OpenSpec.upto fnExactLinkToSpec)

/-- 'laws.FnExactLinkFrom', WHERE WHAT IT READS IS OF BULK AT MOST 1048576: true; the input reads as it did. -/
def fnExactLinkFromUptoRow : OpenClaim := { program := "ytjphamgkigekkaa", sum := "7f6272bdbb594d941d0feb5c29a83afea06700d83cc67c774152b95739d82807", func := "loop.example/g03224/laws.FnExactLinkFrom", spec := "fnExactLinkFrom", unfollowed := true, recurses := true, plainKeys := false, apart := false, narrowed := true }
def FnExactLinkFromUptoSaid : Prop := fnExactLinkFromUptoRow.holds Try.pinned (OpenSpec.upto fnExactLinkFromSpec)

end Rows
end Go.Proofs.Ytjphamgkigekkaa
