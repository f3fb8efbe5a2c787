/-
  No cell of these rows narrows 'for every input' (looked for: loops, veiled, ifaces, maps, wideKeys, modest, calm, conditions, laid).
  DERIVED. THE GIVEN ROWS OF THIS SEAT. 15 by the template 'for every input the law returns true; each argument reads behind the call as it read before'; 0 by the template 'total and deterministic' (their statements: YtmdoafkacglphaaTotals.lean).
  GIVEN WITH THE SEED: the statements are not yours to turn. If you find one false, say at which input.
  Laid BY PROGRAM, IN A SANDBOX (cutbox-rows.mjs): the forced cells as the released guide's own fill.sh prints them over the translation e84871ad12ba06c1… (all of the seat's roots in one cut). By AI agents, Wed Nov 11 2026. No macro, syntax, notation, axiom, sorry.
-/
import Derived.Test.YtmdoafkacglphaaChecked
import GoSem.Claim
import GoSem.ClaimJoined
import GoSem.ClaimMapViews
import Derived.JoinedTies
import Derived.KernelRfl
namespace Go.Proofs.Ytmdoafkacglphaa
/- THE CELL 'sum', in the pinned program and in every row, IS THE sha256 OF THE DUMP (.gsa) THAT YtmdoafkacglphaaProg.lean LOADS. Nothing in Lean hashes anything: it is a label: what it is worth is what the hold of that sum in a sandbox is worth. -/
noncomputable def Try.pinned : Pinned := { name := "ytmdoafkacglphaa", sum := "e84871ad12ba06c1c0a7572d71abcd189e4ccfa34c0144097257a7a115f600d5", checked := Try.checked }
namespace Rows
def none {H : Type} : Left H := { results := [], args := [] }

/-- 'laws.FnTurns': WHATEVER THE INPUT: true; the input reads as it did. -/
def fnTurnsSpec : ChangeSpec := { name := "fnTurns", fn := fun _ => fun
  | [d1, d2] => { results := [.lit (.bool true)], args := [d1, d2] }
  | _ => none }
def fnTurnsRow : OpenClaim := { program := "ytmdoafkacglphaa", sum := "e84871ad12ba06c1c0a7572d71abcd189e4ccfa34c0144097257a7a115f600d5", func := "loop.example/g01139/laws.FnTurns", spec := "fnTurns", apart := false }
def FnTurnsSaid : Prop := fnTurnsRow.holds Try.pinned (OpenSpec.ofChange fnTurnsSpec)

/-- ITS FALSE NEIGHBOUR: 'it returns false'. Refute it at one input. -/
def fnTurnsWrong : ChangeSpec := { name := "fnTurns", fn := fun _ => fun
  | [d1, d2] => { results := [.lit (.bool false)], args := [d1, d2] }
  | _ => none }
def FnTurnsWrongFalsely : Prop := fnTurnsRow.holds Try.pinned (OpenSpec.ofChange fnTurnsWrong)

/-- 'laws.FnExactIsVector': WHATEVER THE INPUT: true; the input reads as it did. -/
def fnExactIsVectorSpec : ChangeSpec := { name := "fnExactIsVector", fn := fun _ => fun
  | [d1, d2] => { results := [.lit (.bool true)], args := [d1, d2] }
  | _ => none }
def fnExactIsVectorRow : OpenClaim := { program := "ytmdoafkacglphaa", sum := "e84871ad12ba06c1c0a7572d71abcd189e4ccfa34c0144097257a7a115f600d5", func := "loop.example/g01139/laws.FnExactIsVector", spec := "fnExactIsVector", apart := false }
def FnExactIsVectorSaid : Prop := fnExactIsVectorRow.holds Try.pinned (OpenSpec.ofChange fnExactIsVectorSpec)

/-- ITS FALSE NEIGHBOUR: 'it returns false'. Refute it at one input. -/
def fnExactIsVectorWrong : ChangeSpec := { name := "fnExactIsVector", fn := fun _ => fun
  | [d1, d2] => { results := [.lit (.bool false)], args := [d1, d2] }
  | _ => none }
def FnExactIsVectorWrongFalsely : Prop := fnExactIsVectorRow.holds Try.pinned (OpenSpec.ofChange fnExactIsVectorWrong)

/-- 'laws.FnExactIsMask': WHATEVER THE INPUT: true; the input reads as it did. -/
def fnExactIsMaskSpec : ChangeSpec := { name := "fnExactIsMask", fn := fun _ => fun
  | [d] => { results := [.lit (.bool true)], args := [d] }
  | _ => none }
def fnExactIsMaskRow : OpenClaim := { program := "ytmdoafkacglphaa", sum := "e84871ad12ba06c1c0a7572d71abcd189e4ccfa34c0144097257a7a115f600d5", func := "loop.example/g01139/laws.FnExactIsMask", spec := "fnExactIsMask", apart := false }
def FnExactIsMaskSaid : Prop := fnExactIsMaskRow.holds Try.pinned (OpenSpec.ofChange fnExactIsMaskSpec)

/-- ITS FALSE NEIGHBOUR: 'it returns false'. Refute it at one input. -/
def fnExactIsMaskWrong : ChangeSpec := { name := "fnExactIsMask", fn := fun _ => fun
  | [d] => { results := [.lit (.bool false)], args := [d] }
  | _ => none }
def FnExactIsMaskWrongFalsely : Prop := fnExactIsMaskRow.holds Try.pinned (OpenSpec.ofChange fnExactIsMaskWrong)

/-- 'laws.FnExactRampLanes': WHATEVER THE INPUT: true; the input reads as it did. -/
def fnExactRampLanesSpec : ChangeSpec := { name := "fnExactRampLanes", fn := fun _ => fun
  | [d1, d2, d3, d4] => { results := [.lit (.bool true)], args := [d1, d2, d3, d4] }
  | _ => none }
def fnExactRampLanesRow : OpenClaim := { program := "ytmdoafkacglphaa", sum := "e84871ad12ba06c1c0a7572d71abcd189e4ccfa34c0144097257a7a115f600d5", func := "loop.example/g01139/laws.FnExactRampLanes", spec := "fnExactRampLanes", apart := false }
def FnExactRampLanesSaid : Prop := fnExactRampLanesRow.holds Try.pinned (OpenSpec.ofChange fnExactRampLanesSpec)

/-- ITS FALSE NEIGHBOUR: 'it returns false'. Refute it at one input. -/
def fnExactRampLanesWrong : ChangeSpec := { name := "fnExactRampLanes", fn := fun _ => fun
  | [d1, d2, d3, d4] => { results := [.lit (.bool false)], args := [d1, d2, d3, d4] }
  | _ => none }
def FnExactRampLanesWrongFalsely : Prop := fnExactRampLanesRow.holds Try.pinned (OpenSpec.ofChange fnExactRampLanesWrong)

/-- 'laws.FnExactCompareLanes': WHATEVER THE INPUT: true; the input reads as it did. -/
def fnExactCompareLanesSpec : ChangeSpec := { name := "fnExactCompareLanes", fn := fun _ => fun
  | [d1, d2, d3, d4] => { results := [.lit (.bool true)], args := [d1, d2, d3, d4] }
  | _ => none }
def fnExactCompareLanesRow : OpenClaim := { program := "ytmdoafkacglphaa", sum := "e84871ad12ba06c1c0a7572d71abcd189e4ccfa34c0144097257a7a115f600d5", func := "loop.example/g01139/laws.FnExactCompareLanes", spec := "fnExactCompareLanes", apart := false }
def FnExactCompareLanesSaid : Prop := fnExactCompareLanesRow.holds Try.pinned (OpenSpec.ofChange fnExactCompareLanesSpec)

/-- ITS FALSE NEIGHBOUR: 'it returns false'. Refute it at one input. -/
def fnExactCompareLanesWrong : ChangeSpec := { name := "fnExactCompareLanes", fn := fun _ => fun
  | [d1, d2, d3, d4] => { results := [.lit (.bool false)], args := [d1, d2, d3, d4] }
  | _ => none }
def FnExactCompareLanesWrongFalsely : Prop := fnExactCompareLanesRow.holds Try.pinned (OpenSpec.ofChange fnExactCompareLanesWrong)

/-- 'laws.FnExactSelectLanes': WHATEVER THE INPUT: true; the input reads as it did. -/
def fnExactSelectLanesSpec : ChangeSpec := { name := "fnExactSelectLanes", fn := fun _ => fun
  | [d1, d2, d3, d4] => { results := [.lit (.bool true)], args := [d1, d2, d3, d4] }
  | _ => none }
def fnExactSelectLanesRow : OpenClaim := { program := "ytmdoafkacglphaa", sum := "e84871ad12ba06c1c0a7572d71abcd189e4ccfa34c0144097257a7a115f600d5", func := "loop.example/g01139/laws.FnExactSelectLanes", spec := "fnExactSelectLanes", apart := false }
def FnExactSelectLanesSaid : Prop := fnExactSelectLanesRow.holds Try.pinned (OpenSpec.ofChange fnExactSelectLanesSpec)

/-- ITS FALSE NEIGHBOUR: 'it returns false'. Refute it at one input. -/
def fnExactSelectLanesWrong : ChangeSpec := { name := "fnExactSelectLanes", fn := fun _ => fun
  | [d1, d2, d3, d4] => { results := [.lit (.bool false)], args := [d1, d2, d3, d4] }
  | _ => none }
def FnExactSelectLanesWrongFalsely : Prop := fnExactSelectLanesRow.holds Try.pinned (OpenSpec.ofChange fnExactSelectLanesWrong)

/-- 'laws.FnExactCountLanes': WHATEVER THE INPUT: true; the input reads as it did. -/
def fnExactCountLanesSpec : ChangeSpec := { name := "fnExactCountLanes", fn := fun _ => fun
  | [d] => { results := [.lit (.bool true)], args := [d] }
  | _ => none }
def fnExactCountLanesRow : OpenClaim := { program := "ytmdoafkacglphaa", sum := "e84871ad12ba06c1c0a7572d71abcd189e4ccfa34c0144097257a7a115f600d5", func := "loop.example/g01139/laws.FnExactCountLanes", spec := "fnExactCountLanes", apart := false }
def FnExactCountLanesSaid : Prop := fnExactCountLanesRow.holds Try.pinned (OpenSpec.ofChange fnExactCountLanesSpec)

/-- ITS FALSE NEIGHBOUR: 'it returns false'. Refute it at one input. -/
def fnExactCountLanesWrong : ChangeSpec := { name := "fnExactCountLanes", fn := fun _ => fun
  | [d] => { results := [.lit (.bool false)], args := [d] }
  | _ => none }
def FnExactCountLanesWrongFalsely : Prop := fnExactCountLanesRow.holds Try.pinned (OpenSpec.ofChange fnExactCountLanesWrong)

/-- 'laws.FnExactFirstLane': WHATEVER THE INPUT: true; the input reads as it did. -/
def fnExactFirstLaneSpec : ChangeSpec := { name := "fnExactFirstLane", fn := fun _ => fun
  | [d] => { results := [.lit (.bool true)], args := [d] }
  | _ => none }
def fnExactFirstLaneRow : OpenClaim := { program := "ytmdoafkacglphaa", sum := "e84871ad12ba06c1c0a7572d71abcd189e4ccfa34c0144097257a7a115f600d5", func := "loop.example/g01139/laws.FnExactFirstLane", spec := "fnExactFirstLane", apart := false }
def FnExactFirstLaneSaid : Prop := fnExactFirstLaneRow.holds Try.pinned (OpenSpec.ofChange fnExactFirstLaneSpec)

/-- ITS FALSE NEIGHBOUR: 'it returns false'. Refute it at one input. -/
def fnExactFirstLaneWrong : ChangeSpec := { name := "fnExactFirstLane", fn := fun _ => fun
  | [d] => { results := [.lit (.bool false)], args := [d] }
  | _ => none }
def FnExactFirstLaneWrongFalsely : Prop := fnExactFirstLaneRow.holds Try.pinned (OpenSpec.ofChange fnExactFirstLaneWrong)

/-- 'laws.FnExactCompressLanes': WHATEVER THE INPUT: true; the input reads as it did. -/
def fnExactCompressLanesSpec : ChangeSpec := { name := "fnExactCompressLanes", fn := fun _ => fun
  | [d1, d2, d3] => { results := [.lit (.bool true)], args := [d1, d2, d3] }
  | _ => none }
def fnExactCompressLanesRow : OpenClaim := { program := "ytmdoafkacglphaa", sum := "e84871ad12ba06c1c0a7572d71abcd189e4ccfa34c0144097257a7a115f600d5", func := "loop.example/g01139/laws.FnExactCompressLanes", spec := "fnExactCompressLanes", apart := false }
def FnExactCompressLanesSaid : Prop := fnExactCompressLanesRow.holds Try.pinned (OpenSpec.ofChange fnExactCompressLanesSpec)

/-- ITS FALSE NEIGHBOUR: 'it returns false'. Refute it at one input. -/
def fnExactCompressLanesWrong : ChangeSpec := { name := "fnExactCompressLanes", fn := fun _ => fun
  | [d1, d2, d3] => { results := [.lit (.bool false)], args := [d1, d2, d3] }
  | _ => none }
def FnExactCompressLanesWrongFalsely : Prop := fnExactCompressLanesRow.holds Try.pinned (OpenSpec.ofChange fnExactCompressLanesWrong)

/-- 'laws.FnExactExpandLanes': WHATEVER THE INPUT: true; the input reads as it did. -/
def fnExactExpandLanesSpec : ChangeSpec := { name := "fnExactExpandLanes", fn := fun _ => fun
  | [d1, d2, d3] => { results := [.lit (.bool true)], args := [d1, d2, d3] }
  | _ => none }
def fnExactExpandLanesRow : OpenClaim := { program := "ytmdoafkacglphaa", sum := "e84871ad12ba06c1c0a7572d71abcd189e4ccfa34c0144097257a7a115f600d5", func := "loop.example/g01139/laws.FnExactExpandLanes", spec := "fnExactExpandLanes", apart := false }
def FnExactExpandLanesSaid : Prop := fnExactExpandLanesRow.holds Try.pinned (OpenSpec.ofChange fnExactExpandLanesSpec)

/-- ITS FALSE NEIGHBOUR: 'it returns false'. Refute it at one input. -/
def fnExactExpandLanesWrong : ChangeSpec := { name := "fnExactExpandLanes", fn := fun _ => fun
  | [d1, d2, d3] => { results := [.lit (.bool false)], args := [d1, d2, d3] }
  | _ => none }
def FnExactExpandLanesWrongFalsely : Prop := fnExactExpandLanesRow.holds Try.pinned (OpenSpec.ofChange fnExactExpandLanesWrong)

/-- 'laws.FnExactSlideLanes': WHATEVER THE INPUT: true; the input reads as it did. -/
def fnExactSlideLanesSpec : ChangeSpec := { name := "fnExactSlideLanes", fn := fun _ => fun
  | [d1, d2, d3, d4] => { results := [.lit (.bool true)], args := [d1, d2, d3, d4] }
  | _ => none }
def fnExactSlideLanesRow : OpenClaim := { program := "ytmdoafkacglphaa", sum := "e84871ad12ba06c1c0a7572d71abcd189e4ccfa34c0144097257a7a115f600d5", func := "loop.example/g01139/laws.FnExactSlideLanes", spec := "fnExactSlideLanes", apart := false }
def FnExactSlideLanesSaid : Prop := fnExactSlideLanesRow.holds Try.pinned (OpenSpec.ofChange fnExactSlideLanesSpec)

/-- ITS FALSE NEIGHBOUR: 'it returns false'. Refute it at one input. -/
def fnExactSlideLanesWrong : ChangeSpec := { name := "fnExactSlideLanes", fn := fun _ => fun
  | [d1, d2, d3, d4] => { results := [.lit (.bool false)], args := [d1, d2, d3, d4] }
  | _ => none }
def FnExactSlideLanesWrongFalsely : Prop := fnExactSlideLanesRow.holds Try.pinned (OpenSpec.ofChange fnExactSlideLanesWrong)

/-- 'laws.FnExactInterleaveLanes': WHATEVER THE INPUT: true; the input reads as it did. -/
def fnExactInterleaveLanesSpec : ChangeSpec := { name := "fnExactInterleaveLanes", fn := fun _ => fun
  | [d1, d2, d3] => { results := [.lit (.bool true)], args := [d1, d2, d3] }
  | _ => none }
def fnExactInterleaveLanesRow : OpenClaim := { program := "ytmdoafkacglphaa", sum := "e84871ad12ba06c1c0a7572d71abcd189e4ccfa34c0144097257a7a115f600d5", func := "loop.example/g01139/laws.FnExactInterleaveLanes", spec := "fnExactInterleaveLanes", apart := false }
def FnExactInterleaveLanesSaid : Prop := fnExactInterleaveLanesRow.holds Try.pinned (OpenSpec.ofChange fnExactInterleaveLanesSpec)

/-- ITS FALSE NEIGHBOUR: 'it returns false'. Refute it at one input. -/
def fnExactInterleaveLanesWrong : ChangeSpec := { name := "fnExactInterleaveLanes", fn := fun _ => fun
  | [d1, d2, d3] => { results := [.lit (.bool false)], args := [d1, d2, d3] }
  | _ => none }
def FnExactInterleaveLanesWrongFalsely : Prop := fnExactInterleaveLanesRow.holds Try.pinned (OpenSpec.ofChange fnExactInterleaveLanesWrong)

/-- 'laws.FnExactDeinterleaveLanes': WHATEVER THE INPUT: true; the input reads as it did. -/
def fnExactDeinterleaveLanesSpec : ChangeSpec := { name := "fnExactDeinterleaveLanes", fn := fun _ => fun
  | [d1, d2, d3] => { results := [.lit (.bool true)], args := [d1, d2, d3] }
  | _ => none }
def fnExactDeinterleaveLanesRow : OpenClaim := { program := "ytmdoafkacglphaa", sum := "e84871ad12ba06c1c0a7572d71abcd189e4ccfa34c0144097257a7a115f600d5", func := "loop.example/g01139/laws.FnExactDeinterleaveLanes", spec := "fnExactDeinterleaveLanes", apart := false }
def FnExactDeinterleaveLanesSaid : Prop := fnExactDeinterleaveLanesRow.holds Try.pinned (OpenSpec.ofChange fnExactDeinterleaveLanesSpec)

/-- ITS FALSE NEIGHBOUR: 'it returns false'. Refute it at one input. -/
def fnExactDeinterleaveLanesWrong : ChangeSpec := { name := "fnExactDeinterleaveLanes", fn := fun _ => fun
  | [d1, d2, d3] => { results := [.lit (.bool false)], args := [d1, d2, d3] }
  | _ => none }
def FnExactDeinterleaveLanesWrongFalsely : Prop := fnExactDeinterleaveLanesRow.holds Try.pinned (OpenSpec.ofChange fnExactDeinterleaveLanesWrong)

/-- 'laws.FnExactWidenLanes': WHATEVER THE INPUT: true; the input reads as it did. -/
def fnExactWidenLanesSpec : ChangeSpec := { name := "fnExactWidenLanes", fn := fun _ => fun
  | [d1, d2, d3] => { results := [.lit (.bool true)], args := [d1, d2, d3] }
  | _ => none }
def fnExactWidenLanesRow : OpenClaim := { program := "ytmdoafkacglphaa", sum := "e84871ad12ba06c1c0a7572d71abcd189e4ccfa34c0144097257a7a115f600d5", func := "loop.example/g01139/laws.FnExactWidenLanes", spec := "fnExactWidenLanes", apart := false }
def FnExactWidenLanesSaid : Prop := fnExactWidenLanesRow.holds Try.pinned (OpenSpec.ofChange fnExactWidenLanesSpec)

/-- ITS FALSE NEIGHBOUR: 'it returns false'. Refute it at one input. -/
def fnExactWidenLanesWrong : ChangeSpec := { name := "fnExactWidenLanes", fn := fun _ => fun
  | [d1, d2, d3] => { results := [.lit (.bool false)], args := [d1, d2, d3] }
  | _ => none }
def FnExactWidenLanesWrongFalsely : Prop := fnExactWidenLanesRow.holds Try.pinned (OpenSpec.ofChange fnExactWidenLanesWrong)

/-- 'laws.FnExactConflictsOf': WHATEVER THE INPUT: true; the input reads as it did. -/
def fnExactConflictsOfSpec : ChangeSpec := { name := "fnExactConflictsOf", fn := fun _ => fun
  | [d] => { results := [.lit (.bool true)], args := [d] }
  | _ => none }
def fnExactConflictsOfRow : OpenClaim := { program := "ytmdoafkacglphaa", sum := "e84871ad12ba06c1c0a7572d71abcd189e4ccfa34c0144097257a7a115f600d5", func := "loop.example/g01139/laws.FnExactConflictsOf", spec := "fnExactConflictsOf", apart := false }
def FnExactConflictsOfSaid : Prop := fnExactConflictsOfRow.holds Try.pinned (OpenSpec.ofChange fnExactConflictsOfSpec)

/-- ITS FALSE NEIGHBOUR: 'it returns false'. Refute it at one input. -/
def fnExactConflictsOfWrong : ChangeSpec := { name := "fnExactConflictsOf", fn := fun _ => fun
  | [d] => { results := [.lit (.bool false)], args := [d] }
  | _ => none }
def FnExactConflictsOfWrongFalsely : Prop := fnExactConflictsOfRow.holds Try.pinned (OpenSpec.ofChange fnExactConflictsOfWrong)

/- THE SECOND FORM. 'bulk': how many values and letters a reading holds, each counted each time it is reached (what is shared counts as often as it is met; a slice's spare places count too). A statement '..UptoSaid' is the law's where the arguments, and the package variables that the reading takes, are together of bulk at most 1048576: NARROWER than '..Said'. Prove '..Said' where nothing that the law and all that it calls make is longer than what came in: it says more and counts as full. Else prove '..UptoSaid'. A law counts once. -/
mutual
def uptoBulk {H : Type} : DataW H → Nat
  | .lit (.string bytes) => bytes.length + 1
  | .lit _ => 1
  | .nil => 1
  | .ptr d => uptoBulk d + 1
  | .slice elems spare => uptoBulkAll elems + uptoBulkAll spare + 1
  | .agg parts => uptoBulkAll parts + 1
  | .iface _ d => uptoBulk d + 1
  | .map entries => uptoBulkEntries entries + 1
  | .held _ => 1
def uptoBulkAll {H : Type} : List (DataW H) → Nat
  | [] => 0
  | d :: r => uptoBulk d + uptoBulkAll r
def uptoBulkEntries {H : Type} : List (Lit × DataW H) → Nat
  | [] => 0
  | x :: r => uptoBulkEntry x + uptoBulkEntries r
def uptoBulkEntry {H : Type} : Lit × DataW H → Nat
  | (.string bytes, d) => bytes.length + uptoBulk d + 1
  | (_, d) => uptoBulk d + 1
 end
def uptoSmall : (H : Type) → List (DataW H) → Bool := fun _ ds => decide (uptoBulkAll ds ≤ 1048576)
def OpenSpec.upto (s : _root_.Go.ChangeSpec) : _root_.Go.OpenSpec := { _root_.Go.OpenSpec.ofChange s with cond := some uptoSmall }

/-- 'laws.FnTurns', WHERE WHAT IT READS IS OF BULK AT MOST 1048576: true; the input reads as it did. -/
def fnTurnsUptoRow : OpenClaim := { program := "ytmdoafkacglphaa", sum := "e84871ad12ba06c1c0a7572d71abcd189e4ccfa34c0144097257a7a115f600d5", func := "loop.example/g01139/laws.FnTurns", spec := "fnTurns", apart := false, narrowed := true }
def FnTurnsUptoSaid : Prop := fnTurnsUptoRow.holds Try.pinned (OpenSpec.upto fnTurnsSpec)

/-- 'laws.FnExactIsVector', WHERE WHAT IT READS IS OF BULK AT MOST 1048576: true; the input reads as it did. -/
def fnExactIsVectorUptoRow : OpenClaim := { program := "ytmdoafkacglphaa", sum := "e84871ad12ba06c1c0a7572d71abcd189e4ccfa34c0144097257a7a115f600d5", func := "loop.example/g01139/laws.FnExactIsVector", spec := "fnExactIsVector", apart := false, narrowed := true }
def FnExactIsVectorUptoSaid : Prop := fnExactIsVectorUptoRow.holds Try.pinned (OpenSpec.upto fnExactIsVectorSpec)

/-- 'laws.FnExactIsMask', WHERE WHAT IT READS IS OF BULK AT MOST 1048576: true; the input reads as it did. -/
def fnExactIsMaskUptoRow : OpenClaim := { program := "ytmdoafkacglphaa", sum := "e84871ad12ba06c1c0a7572d71abcd189e4ccfa34c0144097257a7a115f600d5", func := "loop.example/g01139/laws.FnExactIsMask", spec := "fnExactIsMask", apart := false, narrowed := true }
def FnExactIsMaskUptoSaid : Prop := fnExactIsMaskUptoRow.holds Try.pinned (OpenSpec.upto fnExactIsMaskSpec)

/-- 'laws.FnExactRampLanes', WHERE WHAT IT READS IS OF BULK AT MOST 1048576: true; the input reads as it did. -/
def fnExactRampLanesUptoRow : OpenClaim := { program := "ytmdoafkacglphaa", sum := "e84871ad12ba06c1c0a7572d71abcd189e4ccfa34c0144097257a7a115f600d5", func := "loop.example/g01139/laws.FnExactRampLanes", spec := "fnExactRampLanes", apart := false, narrowed := true }
def FnExactRampLanesUptoSaid : Prop := fnExactRampLanesUptoRow.holds Try.pinned (OpenSpec.upto fnExactRampLanesSpec)

/-- 'laws.FnExactCompareLanes', WHERE WHAT IT READS IS OF BULK AT MOST 1048576: true; the input reads as it did. -/
def fnExactCompareLanesUptoRow : OpenClaim := { program := "ytmdoafkacglphaa", sum := "e84871ad12ba06c1c0a7572d71abcd189e4ccfa34c0144097257a7a115f600d5", func := "loop.example/g01139/laws.FnExactCompareLanes", spec := "fnExactCompareLanes", apart := false, narrowed := true }
def FnExactCompareLanesUptoSaid : Prop := fnExactCompareLanesUptoRow.holds Try.pinned (OpenSpec.upto fnExactCompareLanesSpec)

/-- 'laws.FnExactSelectLanes', WHERE WHAT IT READS IS OF BULK AT MOST 1048576: true; the input reads as it did. -/
def fnExactSelectLanesUptoRow : OpenClaim := { program := "ytmdoafkacglphaa", sum := "e84871ad12ba06c1c0a7572d71abcd189e4ccfa34c0144097257a7a115f600d5", func := "loop.example/g01139/laws.FnExactSelectLanes", spec := "fnExactSelectLanes", apart := false, narrowed := true }
def FnExactSelectLanesUptoSaid : Prop := fnExactSelectLanesUptoRow.holds Try.pinned (OpenSpec.upto fnExactSelectLanesSpec)

/-- 'laws.FnExactCountLanes', WHERE WHAT IT READS IS OF BULK AT MOST 1048576: true; the input reads as it did. -/
def fnExactCountLanesUptoRow : OpenClaim := { program := "ytmdoafkacglphaa", sum := "e84871ad12ba06c1c0a7572d71abcd189e4ccfa34c0144097257a7a115f600d5", func := "loop.example/g01139/laws.FnExactCountLanes", spec := "fnExactCountLanes", apart := false, narrowed := true }
def FnExactCountLanesUptoSaid : Prop := fnExactCountLanesUptoRow.holds Try.pinned (OpenSpec.upto fnExactCountLanesSpec)

/-- 'laws.FnExactFirstLane', WHERE WHAT IT READS IS OF BULK AT MOST 1048576: true; the input reads as it did. -/
def fnExactFirstLaneUptoRow : OpenClaim := { program := "ytmdoafkacglphaa", sum := "e84871ad12ba06c1c0a7572d71abcd189e4ccfa34c0144097257a7a115f600d5", func := "loop.example/g01139/laws.FnExactFirstLane", spec := "fnExactFirstLane", apart := false, narrowed := true }
def FnExactFirstLaneUptoSaid : Prop := fnExactFirstLaneUptoRow.holds Try.pinned (OpenSpec.upto fnExactFirstLaneSpec)

/-- 'laws.FnExactCompressLanes', WHERE WHAT IT READS IS OF BULK AT MOST 1048576: true; the input reads as it did. -/
def fnExactCompressLanesUptoRow : OpenClaim := { program := "ytmdoafkacglphaa", sum := "e84871ad12ba06c1c0a7572d71abcd189e4ccfa34c0144097257a7a115f600d5", func := "loop.example/g01139/laws.FnExactCompressLanes", spec := "fnExactCompressLanes", apart := false, narrowed := true }
def FnExactCompressLanesUptoSaid : Prop := fnExactCompressLanesUptoRow.holds Try.pinned (OpenSpec.upto fnExactCompressLanesSpec)

/-- 'laws.FnExactExpandLanes', WHERE WHAT IT READS IS OF BULK AT MOST 1048576: true; the input reads as it did. -/
def fnExactExpandLanesUptoRow : OpenClaim := { program := "ytmdoafkacglphaa", sum := "e84871ad12ba06c1c0a7572d71abcd189e4ccfa34c0144097257a7a115f600d5", func := "loop.example/g01139/laws.FnExactExpandLanes", spec := "fnExactExpandLanes", apart := false, narrowed := true }
def FnExactExpandLanesUptoSaid : Prop := fnExactExpandLanesUptoRow.holds Try.pinned (OpenSpec.upto fnExactExpandLanesSpec)

/-- 'laws.FnExactSlideLanes', WHERE WHAT IT READS IS OF BULK AT MOST 1048576: true; the input reads as it did. -/
def fnExactSlideLanesUptoRow : OpenClaim := { program := "ytmdoafkacglphaa", sum := "e84871ad12ba06c1c0a7572d71abcd189e4ccfa34c0144097257a7a115f600d5", func := "loop.example/g01139/laws.FnExactSlideLanes", spec := "fnExactSlideLanes", apart := false, narrowed := true }
def FnExactSlideLanesUptoSaid : Prop := fnExactSlideLanesUptoRow.holds Try.pinned (OpenSpec.upto fnExactSlideLanesSpec)

/-- 'laws.FnExactInterleaveLanes', WHERE WHAT IT READS IS OF BULK AT MOST 1048576: true; the input reads as it did. -/
def fnExactInterleaveLanesUptoRow : OpenClaim := { program := "ytmdoafkacglphaa", sum := "e84871ad12ba06c1c0a7572d71abcd189e4ccfa34c0144097257a7a115f600d5", func := "loop.example/g01139/laws.FnExactInterleaveLanes", spec := "fnExactInterleaveLanes", apart := false, narrowed := true }
def FnExactInterleaveLanesUptoSaid : Prop := fnExactInterleaveLanesUptoRow.holds Try.pinned (OpenSpec.upto fnExactInterleaveLanesSpec)

/-- 'laws.FnExactDeinterleaveLanes', WHERE WHAT IT READS IS OF BULK AT MOST 1048576: true; the input reads as it did. -/
def fnExactDeinterleaveLanesUptoRow : OpenClaim := { program := "ytmdoafkacglphaa", sum := "e84871ad12ba06c1c0a7572d71abcd189e4ccfa34c0144097257a7a115f600d5", func := "loop.example/g01139/laws.FnExactDeinterleaveLanes", spec := "fnExactDeinterleaveLanes", apart := false, narrowed := true }
def FnExactDeinterleaveLanesUptoSaid : Prop := fnExactDeinterleaveLanesUptoRow.holds Try.pinned (OpenSpec.upto fnExactDeinterleaveLanesSpec)

/-- 'laws.FnExactWidenLanes', WHERE WHAT IT READS IS OF BULK AT MOST 1048576: true; the input reads as it did. -/
def fnExactWidenLanesUptoRow : OpenClaim := { program := "ytmdoafkacglphaa", sum := "e84871ad12ba06c1c0a7572d71abcd189e4ccfa34c0144097257a7a115f600d5", func := "loop.example/g01139/laws.FnExactWidenLanes", spec := "fnExactWidenLanes", apart := false, narrowed := true }
def FnExactWidenLanesUptoSaid : Prop := fnExactWidenLanesUptoRow.holds Try.pinned (OpenSpec.upto fnExactWidenLanesSpec)

/-- 'laws.FnExactConflictsOf', WHERE WHAT IT READS IS OF BULK AT MOST 1048576: true; the input reads as it did. -/
def fnExactConflictsOfUptoRow : OpenClaim := { program := "ytmdoafkacglphaa", sum := "e84871ad12ba06c1c0a7572d71abcd189e4ccfa34c0144097257a7a115f600d5", func := "loop.example/g01139/laws.FnExactConflictsOf", spec := "fnExactConflictsOf", apart := false, narrowed := true }
def FnExactConflictsOfUptoSaid : Prop := fnExactConflictsOfUptoRow.holds Try.pinned (OpenSpec.upto fnExactConflictsOfSpec)

end Rows
end Go.Proofs.Ytmdoafkacglphaa
