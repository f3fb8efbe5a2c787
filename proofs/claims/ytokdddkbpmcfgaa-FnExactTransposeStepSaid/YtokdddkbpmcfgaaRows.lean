/-
  No cell of these rows narrows 'for every input' (looked for: loops, veiled, ifaces, maps, wideKeys, modest, calm, conditions, laid).
  DERIVED. THE GIVEN ROWS OF THIS SEAT. 13 by the template 'for every input the law returns true; each argument reads behind the call as it read before'; 0 by the template 'total and deterministic' (their statements: YtokdddkbpmcfgaaTotals.lean).
  GIVEN WITH THE SEED: the statements are not yours to turn. If you find one false, say at which input.
  Laid BY PROGRAM, IN A SANDBOX (cutbox-rows.mjs): the forced cells as the released guide's own fill.sh prints them over the translation 66400b0e27bf16bd… (all of the seat's roots in one cut). By AI agents, Wed Nov 11 2026. No macro, syntax, notation, axiom, sorry.
-/
import Derived.Test.YtokdddkbpmcfgaaChecked
import GoSem.Claim
import GoSem.ClaimJoined
import GoSem.ClaimMapViews
import Derived.JoinedTies
import Derived.KernelRfl
namespace Go.Proofs.Ytokdddkbpmcfgaa
/- THE CELL 'sum', in the pinned program and in every row, IS THE sha256 OF THE DUMP (.gsa) THAT YtokdddkbpmcfgaaProg.lean LOADS. Nothing in Lean hashes anything: it is a label: what it is worth is what the hold of that sum in a sandbox is worth. -/
noncomputable def Try.pinned : Pinned := { name := "ytokdddkbpmcfgaa", sum := "66400b0e27bf16bd0387e3f23635a8d717c195aecba329eaadf2392917127859", checked := Try.checked }
namespace Rows
def none {H : Type} : Left H := { results := [], args := [] }

/-- 'laws.FnNamed': WHATEVER THE INPUT: true; the input reads as it did. -/
def fnNamedSpec : ChangeSpec := { name := "fnNamed", fn := fun _ => fun
  | [d1, d2] => { results := [.lit (.bool true)], args := [d1, d2] }
  | _ => none }
def fnNamedRow : OpenClaim := { program := "ytokdddkbpmcfgaa", sum := "66400b0e27bf16bd0387e3f23635a8d717c195aecba329eaadf2392917127859", func := "loop.example/g01139/laws.FnNamed", spec := "fnNamed", unfollowed := true, recurses := true, plainKeys := false, apart := false }
def FnNamedSaid : Prop := fnNamedRow.holds Try.pinned (OpenSpec.ofChange fnNamedSpec)

/-- ITS FALSE NEIGHBOUR: 'it returns false'. Refute it at one input. -/
def fnNamedWrong : ChangeSpec := { name := "fnNamed", fn := fun _ => fun
  | [d1, d2] => { results := [.lit (.bool false)], args := [d1, d2] }
  | _ => none }
def FnNamedWrongFalsely : Prop := fnNamedRow.holds Try.pinned (OpenSpec.ofChange fnNamedWrong)

/-- 'laws.FnFewestSteps': WHATEVER THE INPUT: true; the input reads as it did. -/
def fnFewestStepsSpec : ChangeSpec := { name := "fnFewestSteps", fn := fun _ => fun
  | [d1, d2] => { results := [.lit (.bool true)], args := [d1, d2] }
  | _ => none }
def fnFewestStepsRow : OpenClaim := { program := "ytokdddkbpmcfgaa", sum := "66400b0e27bf16bd0387e3f23635a8d717c195aecba329eaadf2392917127859", func := "loop.example/g01139/laws.FnFewestSteps", spec := "fnFewestSteps", unfollowed := true, recurses := true, plainKeys := false, apart := false }
def FnFewestStepsSaid : Prop := fnFewestStepsRow.holds Try.pinned (OpenSpec.ofChange fnFewestStepsSpec)

/-- ITS FALSE NEIGHBOUR: 'it returns false'. Refute it at one input. -/
def fnFewestStepsWrong : ChangeSpec := { name := "fnFewestSteps", fn := fun _ => fun
  | [d1, d2] => { results := [.lit (.bool false)], args := [d1, d2] }
  | _ => none }
def FnFewestStepsWrongFalsely : Prop := fnFewestStepsRow.holds Try.pinned (OpenSpec.ofChange fnFewestStepsWrong)

/-- 'laws.FnTransposed': WHATEVER THE INPUT: true; the input reads as it did. -/
def fnTransposedSpec : ChangeSpec := { name := "fnTransposed", fn := fun _ => fun
  | [d1, d2] => { results := [.lit (.bool true)], args := [d1, d2] }
  | _ => none }
def fnTransposedRow : OpenClaim := { program := "ytokdddkbpmcfgaa", sum := "66400b0e27bf16bd0387e3f23635a8d717c195aecba329eaadf2392917127859", func := "loop.example/g01139/laws.FnTransposed", spec := "fnTransposed", unfollowed := true, recurses := true, plainKeys := false, apart := false }
def FnTransposedSaid : Prop := fnTransposedRow.holds Try.pinned (OpenSpec.ofChange fnTransposedSpec)

/-- ITS FALSE NEIGHBOUR: 'it returns false'. Refute it at one input. -/
def fnTransposedWrong : ChangeSpec := { name := "fnTransposed", fn := fun _ => fun
  | [d1, d2] => { results := [.lit (.bool false)], args := [d1, d2] }
  | _ => none }
def FnTransposedWrongFalsely : Prop := fnTransposedRow.holds Try.pinned (OpenSpec.ofChange fnTransposedWrong)

/-- 'laws.FnExactIsShuffle': WHATEVER THE INPUT: true; the input reads as it did. -/
def fnExactIsShuffleSpec : ChangeSpec := { name := "fnExactIsShuffle", fn := fun _ => fun
  | [d] => { results := [.lit (.bool true)], args := [d] }
  | _ => none }
def fnExactIsShuffleRow : OpenClaim := { program := "ytokdddkbpmcfgaa", sum := "66400b0e27bf16bd0387e3f23635a8d717c195aecba329eaadf2392917127859", func := "loop.example/g01139/laws.FnExactIsShuffle", spec := "fnExactIsShuffle", unfollowed := true, recurses := true, plainKeys := false, apart := false }
def FnExactIsShuffleSaid : Prop := fnExactIsShuffleRow.holds Try.pinned (OpenSpec.ofChange fnExactIsShuffleSpec)

/-- ITS FALSE NEIGHBOUR: 'it returns false'. Refute it at one input. -/
def fnExactIsShuffleWrong : ChangeSpec := { name := "fnExactIsShuffle", fn := fun _ => fun
  | [d] => { results := [.lit (.bool false)], args := [d] }
  | _ => none }
def FnExactIsShuffleWrongFalsely : Prop := fnExactIsShuffleRow.holds Try.pinned (OpenSpec.ofChange fnExactIsShuffleWrong)

/-- 'laws.FnExactShuffleLanes': WHATEVER THE INPUT: true; the input reads as it did. -/
def fnExactShuffleLanesSpec : ChangeSpec := { name := "fnExactShuffleLanes", fn := fun _ => fun
  | [d1, d2, d3] => { results := [.lit (.bool true)], args := [d1, d2, d3] }
  | _ => none }
def fnExactShuffleLanesRow : OpenClaim := { program := "ytokdddkbpmcfgaa", sum := "66400b0e27bf16bd0387e3f23635a8d717c195aecba329eaadf2392917127859", func := "loop.example/g01139/laws.FnExactShuffleLanes", spec := "fnExactShuffleLanes", unfollowed := true, recurses := true, plainKeys := false, apart := false }
def FnExactShuffleLanesSaid : Prop := fnExactShuffleLanesRow.holds Try.pinned (OpenSpec.ofChange fnExactShuffleLanesSpec)

/-- ITS FALSE NEIGHBOUR: 'it returns false'. Refute it at one input. -/
def fnExactShuffleLanesWrong : ChangeSpec := { name := "fnExactShuffleLanes", fn := fun _ => fun
  | [d1, d2, d3] => { results := [.lit (.bool false)], args := [d1, d2, d3] }
  | _ => none }
def FnExactShuffleLanesWrongFalsely : Prop := fnExactShuffleLanesRow.holds Try.pinned (OpenSpec.ofChange fnExactShuffleLanesWrong)

/-- 'laws.FnExactThenShuffle': WHATEVER THE INPUT: true; the input reads as it did. -/
def fnExactThenShuffleSpec : ChangeSpec := { name := "fnExactThenShuffle", fn := fun _ => fun
  | [d1, d2] => { results := [.lit (.bool true)], args := [d1, d2] }
  | _ => none }
def fnExactThenShuffleRow : OpenClaim := { program := "ytokdddkbpmcfgaa", sum := "66400b0e27bf16bd0387e3f23635a8d717c195aecba329eaadf2392917127859", func := "loop.example/g01139/laws.FnExactThenShuffle", spec := "fnExactThenShuffle", unfollowed := true, recurses := true, plainKeys := false, apart := false }
def FnExactThenShuffleSaid : Prop := fnExactThenShuffleRow.holds Try.pinned (OpenSpec.ofChange fnExactThenShuffleSpec)

/-- ITS FALSE NEIGHBOUR: 'it returns false'. Refute it at one input. -/
def fnExactThenShuffleWrong : ChangeSpec := { name := "fnExactThenShuffle", fn := fun _ => fun
  | [d1, d2] => { results := [.lit (.bool false)], args := [d1, d2] }
  | _ => none }
def FnExactThenShuffleWrongFalsely : Prop := fnExactThenShuffleRow.holds Try.pinned (OpenSpec.ofChange fnExactThenShuffleWrong)

/-- 'laws.FnExactInverseShuffle': WHATEVER THE INPUT: true; the input reads as it did. -/
def fnExactInverseShuffleSpec : ChangeSpec := { name := "fnExactInverseShuffle", fn := fun _ => fun
  | [d] => { results := [.lit (.bool true)], args := [d] }
  | _ => none }
def fnExactInverseShuffleRow : OpenClaim := { program := "ytokdddkbpmcfgaa", sum := "66400b0e27bf16bd0387e3f23635a8d717c195aecba329eaadf2392917127859", func := "loop.example/g01139/laws.FnExactInverseShuffle", spec := "fnExactInverseShuffle", unfollowed := true, recurses := true, plainKeys := false, apart := false }
def FnExactInverseShuffleSaid : Prop := fnExactInverseShuffleRow.holds Try.pinned (OpenSpec.ofChange fnExactInverseShuffleSpec)

/-- ITS FALSE NEIGHBOUR: 'it returns false'. Refute it at one input. -/
def fnExactInverseShuffleWrong : ChangeSpec := { name := "fnExactInverseShuffle", fn := fun _ => fun
  | [d] => { results := [.lit (.bool false)], args := [d] }
  | _ => none }
def FnExactInverseShuffleWrongFalsely : Prop := fnExactInverseShuffleRow.holds Try.pinned (OpenSpec.ofChange fnExactInverseShuffleWrong)

/-- 'laws.FnExactNamedShuffle': WHATEVER THE INPUT: true; the input reads as it did. -/
def fnExactNamedShuffleSpec : ChangeSpec := { name := "fnExactNamedShuffle", fn := fun _ => fun
  | [d1, d2, d3] => { results := [.lit (.bool true)], args := [d1, d2, d3] }
  | _ => none }
def fnExactNamedShuffleRow : OpenClaim := { program := "ytokdddkbpmcfgaa", sum := "66400b0e27bf16bd0387e3f23635a8d717c195aecba329eaadf2392917127859", func := "loop.example/g01139/laws.FnExactNamedShuffle", spec := "fnExactNamedShuffle", plainKeys := false, apart := false }
def FnExactNamedShuffleSaid : Prop := fnExactNamedShuffleRow.holds Try.pinned (OpenSpec.ofChange fnExactNamedShuffleSpec)

/-- ITS FALSE NEIGHBOUR: 'it returns false'. Refute it at one input. -/
def fnExactNamedShuffleWrong : ChangeSpec := { name := "fnExactNamedShuffle", fn := fun _ => fun
  | [d1, d2, d3] => { results := [.lit (.bool false)], args := [d1, d2, d3] }
  | _ => none }
def FnExactNamedShuffleWrongFalsely : Prop := fnExactNamedShuffleRow.holds Try.pinned (OpenSpec.ofChange fnExactNamedShuffleWrong)

/-- 'laws.FnExactPickLanes': WHATEVER THE INPUT: true; the input reads as it did. -/
def fnExactPickLanesSpec : ChangeSpec := { name := "fnExactPickLanes", fn := fun _ => fun
  | [d1, d2, d3, d4] => { results := [.lit (.bool true)], args := [d1, d2, d3, d4] }
  | _ => none }
def fnExactPickLanesRow : OpenClaim := { program := "ytokdddkbpmcfgaa", sum := "66400b0e27bf16bd0387e3f23635a8d717c195aecba329eaadf2392917127859", func := "loop.example/g01139/laws.FnExactPickLanes", spec := "fnExactPickLanes", unfollowed := true, recurses := true, plainKeys := false, apart := false }
def FnExactPickLanesSaid : Prop := fnExactPickLanesRow.holds Try.pinned (OpenSpec.ofChange fnExactPickLanesSpec)

/-- ITS FALSE NEIGHBOUR: 'it returns false'. Refute it at one input. -/
def fnExactPickLanesWrong : ChangeSpec := { name := "fnExactPickLanes", fn := fun _ => fun
  | [d1, d2, d3, d4] => { results := [.lit (.bool false)], args := [d1, d2, d3, d4] }
  | _ => none }
def FnExactPickLanesWrongFalsely : Prop := fnExactPickLanesRow.holds Try.pinned (OpenSpec.ofChange fnExactPickLanesWrong)

/-- 'laws.FnExactShortestSteps': WHATEVER THE INPUT: true; the input reads as it did. -/
def fnExactShortestStepsSpec : ChangeSpec := { name := "fnExactShortestSteps", fn := fun _ => fun
  | [d1, d2, d3] => { results := [.lit (.bool true)], args := [d1, d2, d3] }
  | _ => none }
def fnExactShortestStepsRow : OpenClaim := { program := "ytokdddkbpmcfgaa", sum := "66400b0e27bf16bd0387e3f23635a8d717c195aecba329eaadf2392917127859", func := "loop.example/g01139/laws.FnExactShortestSteps", spec := "fnExactShortestSteps", unfollowed := true, recurses := true, plainKeys := false, apart := false }
def FnExactShortestStepsSaid : Prop := fnExactShortestStepsRow.holds Try.pinned (OpenSpec.ofChange fnExactShortestStepsSpec)

/-- ITS FALSE NEIGHBOUR: 'it returns false'. Refute it at one input. -/
def fnExactShortestStepsWrong : ChangeSpec := { name := "fnExactShortestSteps", fn := fun _ => fun
  | [d1, d2, d3] => { results := [.lit (.bool false)], args := [d1, d2, d3] }
  | _ => none }
def FnExactShortestStepsWrongFalsely : Prop := fnExactShortestStepsRow.holds Try.pinned (OpenSpec.ofChange fnExactShortestStepsWrong)

/-- 'laws.FnExactCountReached': WHATEVER THE INPUT: true; the input reads as it did. -/
def fnExactCountReachedSpec : ChangeSpec := { name := "fnExactCountReached", fn := fun _ => fun
  | [d1, d2] => { results := [.lit (.bool true)], args := [d1, d2] }
  | _ => none }
def fnExactCountReachedRow : OpenClaim := { program := "ytokdddkbpmcfgaa", sum := "66400b0e27bf16bd0387e3f23635a8d717c195aecba329eaadf2392917127859", func := "loop.example/g01139/laws.FnExactCountReached", spec := "fnExactCountReached", unfollowed := true, recurses := true, plainKeys := false, apart := false }
def FnExactCountReachedSaid : Prop := fnExactCountReachedRow.holds Try.pinned (OpenSpec.ofChange fnExactCountReachedSpec)

/-- ITS FALSE NEIGHBOUR: 'it returns false'. Refute it at one input. -/
def fnExactCountReachedWrong : ChangeSpec := { name := "fnExactCountReached", fn := fun _ => fun
  | [d1, d2] => { results := [.lit (.bool false)], args := [d1, d2] }
  | _ => none }
def FnExactCountReachedWrongFalsely : Prop := fnExactCountReachedRow.holds Try.pinned (OpenSpec.ofChange fnExactCountReachedWrong)

/-- 'laws.FnExactTransposeLanes': WHATEVER THE INPUT: true; the input reads as it did. -/
def fnExactTransposeLanesSpec : ChangeSpec := { name := "fnExactTransposeLanes", fn := fun _ => fun
  | [d1, d2] => { results := [.lit (.bool true)], args := [d1, d2] }
  | _ => none }
def fnExactTransposeLanesRow : OpenClaim := { program := "ytokdddkbpmcfgaa", sum := "66400b0e27bf16bd0387e3f23635a8d717c195aecba329eaadf2392917127859", func := "loop.example/g01139/laws.FnExactTransposeLanes", spec := "fnExactTransposeLanes", unfollowed := true, recurses := true, plainKeys := false, apart := false }
def FnExactTransposeLanesSaid : Prop := fnExactTransposeLanesRow.holds Try.pinned (OpenSpec.ofChange fnExactTransposeLanesSpec)

/-- ITS FALSE NEIGHBOUR: 'it returns false'. Refute it at one input. -/
def fnExactTransposeLanesWrong : ChangeSpec := { name := "fnExactTransposeLanes", fn := fun _ => fun
  | [d1, d2] => { results := [.lit (.bool false)], args := [d1, d2] }
  | _ => none }
def FnExactTransposeLanesWrongFalsely : Prop := fnExactTransposeLanesRow.holds Try.pinned (OpenSpec.ofChange fnExactTransposeLanesWrong)

/-- 'laws.FnExactTransposeStep': WHATEVER THE INPUT: true; the input reads as it did. -/
def fnExactTransposeStepSpec : ChangeSpec := { name := "fnExactTransposeStep", fn := fun _ => fun
  | [d1, d2, d3] => { results := [.lit (.bool true)], args := [d1, d2, d3] }
  | _ => none }
def fnExactTransposeStepRow : OpenClaim := { program := "ytokdddkbpmcfgaa", sum := "66400b0e27bf16bd0387e3f23635a8d717c195aecba329eaadf2392917127859", func := "loop.example/g01139/laws.FnExactTransposeStep", spec := "fnExactTransposeStep", unfollowed := true, recurses := true, plainKeys := false, apart := false }
def FnExactTransposeStepSaid : Prop := fnExactTransposeStepRow.holds Try.pinned (OpenSpec.ofChange fnExactTransposeStepSpec)

/-- ITS FALSE NEIGHBOUR: 'it returns false'. Refute it at one input. -/
def fnExactTransposeStepWrong : ChangeSpec := { name := "fnExactTransposeStep", fn := fun _ => fun
  | [d1, d2, d3] => { results := [.lit (.bool false)], args := [d1, d2, d3] }
  | _ => none }
def FnExactTransposeStepWrongFalsely : Prop := fnExactTransposeStepRow.holds Try.pinned (OpenSpec.ofChange fnExactTransposeStepWrong)

/- THE SECOND FORM. 'bulk': how many values and letters a reading holds, each counted each time it is reached (what is shared counts as often as it is met; a slice's spare places count too). A statement '..UptoSaid' is the law's where the arguments, and the package variables that the reading takes, are together of bulk at most 1048576: NARROWER than '..Said'. Prove '..Said' where nothing that the law and all that it calls make is longer than what came in: it says more and counts as full. Else prove '..UptoSaid'. A law counts once. -/
mutual
def uptoBulk {H : Type} : DataW H → Nat
  | .lit (.string bytes) => bytes.length + 1
  | .lit _ => 1
  | .nil => 1
  | .ptr d => uptoBulk d + 1
  | .slice elems spare => uptoBulkAll elems + uptoBulkAll spare + 1
  | .agg parts => uptoBulkAll parts + 1
  | .iface _ d => uptoBulk d + 1
  | .map entries => uptoBulkEntries entries + 1
  | .held _ => 1
def uptoBulkAll {H : Type} : List (DataW H) → Nat
  | [] => 0
  | d :: r => uptoBulk d + uptoBulkAll r
def uptoBulkEntries {H : Type} : List (Lit × DataW H) → Nat
  | [] => 0
  | x :: r => uptoBulkEntry x + uptoBulkEntries r
def uptoBulkEntry {H : Type} : Lit × DataW H → Nat
  | (.string bytes, d) => bytes.length + uptoBulk d + 1
  | (_, d) => uptoBulk d + 1
 end
def uptoSmall : (H : Type) → List (DataW H) → Bool := fun _ ds => decide (uptoBulkAll ds ≤ 1048576)
def OpenSpec.upto (s : _root_.Go.ChangeSpec) : _root_.Go.OpenSpec := { _root_.Go.OpenSpec.ofChange s with cond := some uptoSmall }

/-- 'laws.FnNamed', WHERE WHAT IT READS IS OF BULK AT MOST 1048576: true; the input reads as it did. -/
def fnNamedUptoRow : OpenClaim := { program := "ytokdddkbpmcfgaa", sum := "66400b0e27bf16bd0387e3f23635a8d717c195aecba329eaadf2392917127859", func := "loop.example/g01139/laws.FnNamed", spec := "fnNamed", unfollowed := true, recurses := true, plainKeys := false, apart := false, narrowed := true }
def FnNamedUptoSaid : Prop := fnNamedUptoRow.holds Try.pinned (OpenSpec.upto fnNamedSpec)

/-- 'laws.FnFewestSteps', WHERE WHAT IT READS IS OF BULK AT MOST 1048576: true; the input reads as it did. -/
def fnFewestStepsUptoRow : OpenClaim := { program := "ytokdddkbpmcfgaa", sum := "66400b0e27bf16bd0387e3f23635a8d717c195aecba329eaadf2392917127859", func := "loop.example/g01139/laws.FnFewestSteps", spec := "fnFewestSteps", unfollowed := true, recurses := true, plainKeys := false, apart := false, narrowed := true }
def FnFewestStepsUptoSaid : Prop := fnFewestStepsUptoRow.holds Try.pinned (OpenSpec.upto fnFewestStepsSpec)

/-- 'laws.FnTransposed', WHERE WHAT IT READS IS OF BULK AT MOST 1048576: true; the input reads as it did. -/
def fnTransposedUptoRow : OpenClaim := { program := "ytokdddkbpmcfgaa", sum := "66400b0e27bf16bd0387e3f23635a8d717c195aecba329eaadf2392917127859", func := "loop.example/g01139/laws.FnTransposed", spec := "fnTransposed", unfollowed := true, recurses := true, plainKeys := false, apart := false, narrowed := true }
def FnTransposedUptoSaid : Prop := fnTransposedUptoRow.holds Try.pinned (OpenSpec.upto fnTransposedSpec)

/-- 'laws.FnExactIsShuffle', WHERE WHAT IT READS IS OF BULK AT MOST 1048576: true; the input reads as it did. -/
def fnExactIsShuffleUptoRow : OpenClaim := { program := "ytokdddkbpmcfgaa", sum := "66400b0e27bf16bd0387e3f23635a8d717c195aecba329eaadf2392917127859", func := "loop.example/g01139/laws.FnExactIsShuffle", spec := "fnExactIsShuffle", unfollowed := true, recurses := true, plainKeys := false, apart := false, narrowed := true }
def FnExactIsShuffleUptoSaid : Prop := fnExactIsShuffleUptoRow.holds Try.pinned (OpenSpec.upto fnExactIsShuffleSpec)

/-- 'laws.FnExactShuffleLanes', WHERE WHAT IT READS IS OF BULK AT MOST 1048576: true; the input reads as it did. -/
def fnExactShuffleLanesUptoRow : OpenClaim := { program := "ytokdddkbpmcfgaa", sum := "66400b0e27bf16bd0387e3f23635a8d717c195aecba329eaadf2392917127859", func := "loop.example/g01139/laws.FnExactShuffleLanes", spec := "fnExactShuffleLanes", unfollowed := true, recurses := true, plainKeys := false, apart := false, narrowed := true }
def FnExactShuffleLanesUptoSaid : Prop := fnExactShuffleLanesUptoRow.holds Try.pinned (OpenSpec.upto fnExactShuffleLanesSpec)

/-- 'laws.FnExactThenShuffle', WHERE WHAT IT READS IS OF BULK AT MOST 1048576: true; the input reads as it did. -/
def fnExactThenShuffleUptoRow : OpenClaim := { program := "ytokdddkbpmcfgaa", sum := "66400b0e27bf16bd0387e3f23635a8d717c195aecba329eaadf2392917127859", func := "loop.example/g01139/laws.FnExactThenShuffle", spec := "fnExactThenShuffle", unfollowed := true, recurses := true, plainKeys := false, apart := false, narrowed := true }
def FnExactThenShuffleUptoSaid : Prop := fnExactThenShuffleUptoRow.holds Try.pinned (OpenSpec.upto fnExactThenShuffleSpec)

/-- 'laws.FnExactInverseShuffle', WHERE WHAT IT READS IS OF BULK AT MOST 1048576: true; the input reads as it did. -/
def fnExactInverseShuffleUptoRow : OpenClaim := { program := "ytokdddkbpmcfgaa", sum := "66400b0e27bf16bd0387e3f23635a8d717c195aecba329eaadf2392917127859", func := "loop.example/g01139/laws.FnExactInverseShuffle", spec := "fnExactInverseShuffle", unfollowed := true, recurses := true, plainKeys := false, apart := false, narrowed := true }
def FnExactInverseShuffleUptoSaid : Prop := fnExactInverseShuffleUptoRow.holds Try.pinned (OpenSpec.upto fnExactInverseShuffleSpec)

/-- 'laws.FnExactNamedShuffle', WHERE WHAT IT READS IS OF BULK AT MOST 1048576: true; the input reads as it did. -/
def fnExactNamedShuffleUptoRow : OpenClaim := { program := "ytokdddkbpmcfgaa", sum := "66400b0e27bf16bd0387e3f23635a8d717c195aecba329eaadf2392917127859", func := "loop.example/g01139/laws.FnExactNamedShuffle", spec := "fnExactNamedShuffle", plainKeys := false, apart := false, narrowed := true }
def FnExactNamedShuffleUptoSaid : Prop := fnExactNamedShuffleUptoRow.holds Try.pinned (OpenSpec.upto fnExactNamedShuffleSpec)

/-- 'laws.FnExactPickLanes', WHERE WHAT IT READS IS OF BULK AT MOST 1048576: true; the input reads as it did. -/
def fnExactPickLanesUptoRow : OpenClaim := { program := "ytokdddkbpmcfgaa", sum := "66400b0e27bf16bd0387e3f23635a8d717c195aecba329eaadf2392917127859", func := "loop.example/g01139/laws.FnExactPickLanes", spec := "fnExactPickLanes", unfollowed := true, recurses := true, plainKeys := false, apart := false, narrowed := true }
def FnExactPickLanesUptoSaid : Prop := fnExactPickLanesUptoRow.holds Try.pinned (OpenSpec.upto fnExactPickLanesSpec)

/-- 'laws.FnExactShortestSteps', WHERE WHAT IT READS IS OF BULK AT MOST 1048576: true; the input reads as it did. -/
def fnExactShortestStepsUptoRow : OpenClaim := { program := "ytokdddkbpmcfgaa", sum := "66400b0e27bf16bd0387e3f23635a8d717c195aecba329eaadf2392917127859", func := "loop.example/g01139/laws.FnExactShortestSteps", spec := "fnExactShortestSteps", unfollowed := true, recurses := true, plainKeys := false, apart := false, narrowed := true }
def FnExactShortestStepsUptoSaid : Prop := fnExactShortestStepsUptoRow.holds Try.pinned (OpenSpec.upto fnExactShortestStepsSpec)

/-- 'laws.FnExactCountReached', WHERE WHAT IT READS IS OF BULK AT MOST 1048576: true; the input reads as it did. -/
def fnExactCountReachedUptoRow : OpenClaim := { program := "ytokdddkbpmcfgaa", sum := "66400b0e27bf16bd0387e3f23635a8d717c195aecba329eaadf2392917127859", func := "loop.example/g01139/laws.FnExactCountReached", spec := "fnExactCountReached", unfollowed := true, recurses := true, plainKeys := false, apart := false, narrowed := true }
def FnExactCountReachedUptoSaid : Prop := fnExactCountReachedUptoRow.holds Try.pinned (OpenSpec.upto fnExactCountReachedSpec)

/-- 'laws.FnExactTransposeLanes', WHERE WHAT IT READS IS OF BULK AT MOST 1048576: true; the input reads as it did. -/
def fnExactTransposeLanesUptoRow : OpenClaim := { program := "ytokdddkbpmcfgaa", sum := "66400b0e27bf16bd0387e3f23635a8d717c195aecba329eaadf2392917127859", func := "loop.example/g01139/laws.FnExactTransposeLanes", spec := "fnExactTransposeLanes", unfollowed := true, recurses := true, plainKeys := false, apart := false, narrowed := true }
def FnExactTransposeLanesUptoSaid : Prop := fnExactTransposeLanesUptoRow.holds Try.pinned (OpenSpec.upto fnExactTransposeLanesSpec)

/-- 'laws.FnExactTransposeStep', WHERE WHAT IT READS IS OF BULK AT MOST 1048576: true; the input reads as it did. -/
def fnExactTransposeStepUptoRow : OpenClaim := { program := "ytokdddkbpmcfgaa", sum := "66400b0e27bf16bd0387e3f23635a8d717c195aecba329eaadf2392917127859", func := "loop.example/g01139/laws.FnExactTransposeStep", spec := "fnExactTransposeStep", unfollowed := true, recurses := true, plainKeys := false, apart := false, narrowed := true }
def FnExactTransposeStepUptoSaid : Prop := fnExactTransposeStepUptoRow.holds Try.pinned (OpenSpec.upto fnExactTransposeStepSpec)

end Rows
end Go.Proofs.Ytokdddkbpmcfgaa
