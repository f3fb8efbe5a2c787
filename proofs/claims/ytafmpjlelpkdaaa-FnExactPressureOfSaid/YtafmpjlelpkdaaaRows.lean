/-
  No cell of these rows narrows 'for every input' (looked for: loops, veiled, ifaces, maps, wideKeys, modest, calm, conditions, laid).
  DERIVED. THE GIVEN ROWS OF THIS SEAT. 15 by the template 'for every input the law returns true; each argument reads behind the call as it read before'; 0 by the template 'total and deterministic' (their statements: YtafmpjlelpkdaaaTotals.lean).
  GIVEN WITH THE SEED: the statements are not yours to turn. If you find one false, say at which input.
  Laid BY PROGRAM, IN A SANDBOX (cutbox-rows.mjs): the forced cells as the released guide's own fill.sh prints them over the translation 9b9b4ed51a31ba05… (all of the seat's roots in one cut). By AI agents, Wed Nov 11 2026. No macro, syntax, notation, axiom, sorry.
-/
import Derived.Test.YtafmpjlelpkdaaaChecked
import GoSem.Claim
import GoSem.ClaimJoined
import GoSem.ClaimMapViews
import Derived.JoinedTies
import Derived.KernelRfl
namespace Go.Proofs.Ytafmpjlelpkdaaa
/- THE CELL 'sum', in the pinned program and in every row, IS THE sha256 OF THE DUMP (.gsa) THAT YtafmpjlelpkdaaaProg.lean LOADS. Nothing in Lean hashes anything: it is a label: what it is worth is what the hold of that sum in a sandbox is worth. -/
noncomputable def Try.pinned : Pinned := { name := "ytafmpjlelpkdaaa", sum := "9b9b4ed51a31ba05e23a9966a308a6a46c371189cab44787ade0c5ae31ce1517", checked := Try.checked }
namespace Rows
def none {H : Type} : Left H := { results := [], args := [] }

/-- 'laws.FnScheduled': WHATEVER THE INPUT: true; the input reads as it did. -/
def fnScheduledSpec : ChangeSpec := { name := "fnScheduled", fn := fun _ => fun
  | [d1, d2] => { results := [.lit (.bool true)], args := [d1, d2] }
  | _ => none }
def fnScheduledRow : OpenClaim := { program := "ytafmpjlelpkdaaa", sum := "9b9b4ed51a31ba05e23a9966a308a6a46c371189cab44787ade0c5ae31ce1517", func := "loop.example/g01139/laws.FnScheduled", spec := "fnScheduled", unfollowed := true, recurses := true, plainKeys := false, apart := false }
def FnScheduledSaid : Prop := fnScheduledRow.holds Try.pinned (OpenSpec.ofChange fnScheduledSpec)

/-- ITS FALSE NEIGHBOUR: 'it returns false'. Refute it at one input. -/
def fnScheduledWrong : ChangeSpec := { name := "fnScheduled", fn := fun _ => fun
  | [d1, d2] => { results := [.lit (.bool false)], args := [d1, d2] }
  | _ => none }
def FnScheduledWrongFalsely : Prop := fnScheduledRow.holds Try.pinned (OpenSpec.ofChange fnScheduledWrong)

/-- 'laws.FnPressed': WHATEVER THE INPUT: true; the input reads as it did. -/
def fnPressedSpec : ChangeSpec := { name := "fnPressed", fn := fun _ => fun
  | [d1, d2] => { results := [.lit (.bool true)], args := [d1, d2] }
  | _ => none }
def fnPressedRow : OpenClaim := { program := "ytafmpjlelpkdaaa", sum := "9b9b4ed51a31ba05e23a9966a308a6a46c371189cab44787ade0c5ae31ce1517", func := "loop.example/g01139/laws.FnPressed", spec := "fnPressed", unfollowed := true, recurses := true, plainKeys := false, apart := false }
def FnPressedSaid : Prop := fnPressedRow.holds Try.pinned (OpenSpec.ofChange fnPressedSpec)

/-- ITS FALSE NEIGHBOUR: 'it returns false'. Refute it at one input. -/
def fnPressedWrong : ChangeSpec := { name := "fnPressed", fn := fun _ => fun
  | [d1, d2] => { results := [.lit (.bool false)], args := [d1, d2] }
  | _ => none }
def FnPressedWrongFalsely : Prop := fnPressedRow.holds Try.pinned (OpenSpec.ofChange fnPressedWrong)

/-- 'laws.FnExactValidTasks': WHATEVER THE INPUT: true; the input reads as it did. -/
def fnExactValidTasksSpec : ChangeSpec := { name := "fnExactValidTasks", fn := fun _ => fun
  | [d] => { results := [.lit (.bool true)], args := [d] }
  | _ => none }
def fnExactValidTasksRow : OpenClaim := { program := "ytafmpjlelpkdaaa", sum := "9b9b4ed51a31ba05e23a9966a308a6a46c371189cab44787ade0c5ae31ce1517", func := "loop.example/g01139/laws.FnExactValidTasks", spec := "fnExactValidTasks", plainKeys := false, apart := false }
def FnExactValidTasksSaid : Prop := fnExactValidTasksRow.holds Try.pinned (OpenSpec.ofChange fnExactValidTasksSpec)

/-- ITS FALSE NEIGHBOUR: 'it returns false'. Refute it at one input. -/
def fnExactValidTasksWrong : ChangeSpec := { name := "fnExactValidTasks", fn := fun _ => fun
  | [d] => { results := [.lit (.bool false)], args := [d] }
  | _ => none }
def FnExactValidTasksWrongFalsely : Prop := fnExactValidTasksRow.holds Try.pinned (OpenSpec.ofChange fnExactValidTasksWrong)

/-- 'laws.FnExactIsSchedule': WHATEVER THE INPUT: true; the input reads as it did. -/
def fnExactIsScheduleSpec : ChangeSpec := { name := "fnExactIsSchedule", fn := fun _ => fun
  | [d1, d2] => { results := [.lit (.bool true)], args := [d1, d2] }
  | _ => none }
def fnExactIsScheduleRow : OpenClaim := { program := "ytafmpjlelpkdaaa", sum := "9b9b4ed51a31ba05e23a9966a308a6a46c371189cab44787ade0c5ae31ce1517", func := "loop.example/g01139/laws.FnExactIsSchedule", spec := "fnExactIsSchedule", plainKeys := false, apart := false }
def FnExactIsScheduleSaid : Prop := fnExactIsScheduleRow.holds Try.pinned (OpenSpec.ofChange fnExactIsScheduleSpec)

/-- ITS FALSE NEIGHBOUR: 'it returns false'. Refute it at one input. -/
def fnExactIsScheduleWrong : ChangeSpec := { name := "fnExactIsSchedule", fn := fun _ => fun
  | [d1, d2] => { results := [.lit (.bool false)], args := [d1, d2] }
  | _ => none }
def FnExactIsScheduleWrongFalsely : Prop := fnExactIsScheduleRow.holds Try.pinned (OpenSpec.ofChange fnExactIsScheduleWrong)

/-- 'laws.FnExactLengthOf': WHATEVER THE INPUT: true; the input reads as it did. -/
def fnExactLengthOfSpec : ChangeSpec := { name := "fnExactLengthOf", fn := fun _ => fun
  | [d1, d2] => { results := [.lit (.bool true)], args := [d1, d2] }
  | _ => none }
def fnExactLengthOfRow : OpenClaim := { program := "ytafmpjlelpkdaaa", sum := "9b9b4ed51a31ba05e23a9966a308a6a46c371189cab44787ade0c5ae31ce1517", func := "loop.example/g01139/laws.FnExactLengthOf", spec := "fnExactLengthOf", plainKeys := false, apart := false }
def FnExactLengthOfSaid : Prop := fnExactLengthOfRow.holds Try.pinned (OpenSpec.ofChange fnExactLengthOfSpec)

/-- ITS FALSE NEIGHBOUR: 'it returns false'. Refute it at one input. -/
def fnExactLengthOfWrong : ChangeSpec := { name := "fnExactLengthOf", fn := fun _ => fun
  | [d1, d2] => { results := [.lit (.bool false)], args := [d1, d2] }
  | _ => none }
def FnExactLengthOfWrongFalsely : Prop := fnExactLengthOfRow.holds Try.pinned (OpenSpec.ofChange fnExactLengthOfWrong)

/-- 'laws.FnExactPathBound': WHATEVER THE INPUT: true; the input reads as it did. -/
def fnExactPathBoundSpec : ChangeSpec := { name := "fnExactPathBound", fn := fun _ => fun
  | [d] => { results := [.lit (.bool true)], args := [d] }
  | _ => none }
def fnExactPathBoundRow : OpenClaim := { program := "ytafmpjlelpkdaaa", sum := "9b9b4ed51a31ba05e23a9966a308a6a46c371189cab44787ade0c5ae31ce1517", func := "loop.example/g01139/laws.FnExactPathBound", spec := "fnExactPathBound", unfollowed := true, recurses := true, plainKeys := false, apart := false }
def FnExactPathBoundSaid : Prop := fnExactPathBoundRow.holds Try.pinned (OpenSpec.ofChange fnExactPathBoundSpec)

/-- ITS FALSE NEIGHBOUR: 'it returns false'. Refute it at one input. -/
def fnExactPathBoundWrong : ChangeSpec := { name := "fnExactPathBound", fn := fun _ => fun
  | [d] => { results := [.lit (.bool false)], args := [d] }
  | _ => none }
def FnExactPathBoundWrongFalsely : Prop := fnExactPathBoundRow.holds Try.pinned (OpenSpec.ofChange fnExactPathBoundWrong)

/-- 'laws.FnExactPortBound': WHATEVER THE INPUT: true; the input reads as it did. -/
def fnExactPortBoundSpec : ChangeSpec := { name := "fnExactPortBound", fn := fun _ => fun
  | [d] => { results := [.lit (.bool true)], args := [d] }
  | _ => none }
def fnExactPortBoundRow : OpenClaim := { program := "ytafmpjlelpkdaaa", sum := "9b9b4ed51a31ba05e23a9966a308a6a46c371189cab44787ade0c5ae31ce1517", func := "loop.example/g01139/laws.FnExactPortBound", spec := "fnExactPortBound", plainKeys := false, apart := false }
def FnExactPortBoundSaid : Prop := fnExactPortBoundRow.holds Try.pinned (OpenSpec.ofChange fnExactPortBoundSpec)

/-- ITS FALSE NEIGHBOUR: 'it returns false'. Refute it at one input. -/
def fnExactPortBoundWrong : ChangeSpec := { name := "fnExactPortBound", fn := fun _ => fun
  | [d] => { results := [.lit (.bool false)], args := [d] }
  | _ => none }
def FnExactPortBoundWrongFalsely : Prop := fnExactPortBoundRow.holds Try.pinned (OpenSpec.ofChange fnExactPortBoundWrong)

/-- 'laws.FnExactHeightsOf': WHATEVER THE INPUT: true; the input reads as it did. -/
def fnExactHeightsOfSpec : ChangeSpec := { name := "fnExactHeightsOf", fn := fun _ => fun
  | [d] => { results := [.lit (.bool true)], args := [d] }
  | _ => none }
def fnExactHeightsOfRow : OpenClaim := { program := "ytafmpjlelpkdaaa", sum := "9b9b4ed51a31ba05e23a9966a308a6a46c371189cab44787ade0c5ae31ce1517", func := "loop.example/g01139/laws.FnExactHeightsOf", spec := "fnExactHeightsOf", unfollowed := true, recurses := true, plainKeys := false, apart := false }
def FnExactHeightsOfSaid : Prop := fnExactHeightsOfRow.holds Try.pinned (OpenSpec.ofChange fnExactHeightsOfSpec)

/-- ITS FALSE NEIGHBOUR: 'it returns false'. Refute it at one input. -/
def fnExactHeightsOfWrong : ChangeSpec := { name := "fnExactHeightsOf", fn := fun _ => fun
  | [d] => { results := [.lit (.bool false)], args := [d] }
  | _ => none }
def FnExactHeightsOfWrongFalsely : Prop := fnExactHeightsOfRow.holds Try.pinned (OpenSpec.ofChange fnExactHeightsOfWrong)

/-- 'laws.FnExactListSchedule': WHATEVER THE INPUT: true; the input reads as it did. -/
def fnExactListScheduleSpec : ChangeSpec := { name := "fnExactListSchedule", fn := fun _ => fun
  | [d] => { results := [.lit (.bool true)], args := [d] }
  | _ => none }
def fnExactListScheduleRow : OpenClaim := { program := "ytafmpjlelpkdaaa", sum := "9b9b4ed51a31ba05e23a9966a308a6a46c371189cab44787ade0c5ae31ce1517", func := "loop.example/g01139/laws.FnExactListSchedule", spec := "fnExactListSchedule", unfollowed := true, recurses := true, plainKeys := false, apart := false }
def FnExactListScheduleSaid : Prop := fnExactListScheduleRow.holds Try.pinned (OpenSpec.ofChange fnExactListScheduleSpec)

/-- ITS FALSE NEIGHBOUR: 'it returns false'. Refute it at one input. -/
def fnExactListScheduleWrong : ChangeSpec := { name := "fnExactListSchedule", fn := fun _ => fun
  | [d] => { results := [.lit (.bool false)], args := [d] }
  | _ => none }
def FnExactListScheduleWrongFalsely : Prop := fnExactListScheduleRow.holds Try.pinned (OpenSpec.ofChange fnExactListScheduleWrong)

/-- 'laws.FnExactBestSchedule': WHATEVER THE INPUT: true; the input reads as it did. -/
def fnExactBestScheduleSpec : ChangeSpec := { name := "fnExactBestSchedule", fn := fun _ => fun
  | [d] => { results := [.lit (.bool true)], args := [d] }
  | _ => none }
def fnExactBestScheduleRow : OpenClaim := { program := "ytafmpjlelpkdaaa", sum := "9b9b4ed51a31ba05e23a9966a308a6a46c371189cab44787ade0c5ae31ce1517", func := "loop.example/g01139/laws.FnExactBestSchedule", spec := "fnExactBestSchedule", unfollowed := true, recurses := true, plainKeys := false, apart := false }
def FnExactBestScheduleSaid : Prop := fnExactBestScheduleRow.holds Try.pinned (OpenSpec.ofChange fnExactBestScheduleSpec)

/-- ITS FALSE NEIGHBOUR: 'it returns false'. Refute it at one input. -/
def fnExactBestScheduleWrong : ChangeSpec := { name := "fnExactBestSchedule", fn := fun _ => fun
  | [d] => { results := [.lit (.bool false)], args := [d] }
  | _ => none }
def FnExactBestScheduleWrongFalsely : Prop := fnExactBestScheduleRow.holds Try.pinned (OpenSpec.ofChange fnExactBestScheduleWrong)

/-- 'laws.FnExactIsTaskOrder': WHATEVER THE INPUT: true; the input reads as it did. -/
def fnExactIsTaskOrderSpec : ChangeSpec := { name := "fnExactIsTaskOrder", fn := fun _ => fun
  | [d1, d2] => { results := [.lit (.bool true)], args := [d1, d2] }
  | _ => none }
def fnExactIsTaskOrderRow : OpenClaim := { program := "ytafmpjlelpkdaaa", sum := "9b9b4ed51a31ba05e23a9966a308a6a46c371189cab44787ade0c5ae31ce1517", func := "loop.example/g01139/laws.FnExactIsTaskOrder", spec := "fnExactIsTaskOrder", plainKeys := false, apart := false }
def FnExactIsTaskOrderSaid : Prop := fnExactIsTaskOrderRow.holds Try.pinned (OpenSpec.ofChange fnExactIsTaskOrderSpec)

/-- ITS FALSE NEIGHBOUR: 'it returns false'. Refute it at one input. -/
def fnExactIsTaskOrderWrong : ChangeSpec := { name := "fnExactIsTaskOrder", fn := fun _ => fun
  | [d1, d2] => { results := [.lit (.bool false)], args := [d1, d2] }
  | _ => none }
def FnExactIsTaskOrderWrongFalsely : Prop := fnExactIsTaskOrderRow.holds Try.pinned (OpenSpec.ofChange fnExactIsTaskOrderWrong)

/-- 'laws.FnExactPressureOf': WHATEVER THE INPUT: true; the input reads as it did. -/
def fnExactPressureOfSpec : ChangeSpec := { name := "fnExactPressureOf", fn := fun _ => fun
  | [d1, d2] => { results := [.lit (.bool true)], args := [d1, d2] }
  | _ => none }
def fnExactPressureOfRow : OpenClaim := { program := "ytafmpjlelpkdaaa", sum := "9b9b4ed51a31ba05e23a9966a308a6a46c371189cab44787ade0c5ae31ce1517", func := "loop.example/g01139/laws.FnExactPressureOf", spec := "fnExactPressureOf", plainKeys := false, apart := false }
def FnExactPressureOfSaid : Prop := fnExactPressureOfRow.holds Try.pinned (OpenSpec.ofChange fnExactPressureOfSpec)

/-- ITS FALSE NEIGHBOUR: 'it returns false'. Refute it at one input. -/
def fnExactPressureOfWrong : ChangeSpec := { name := "fnExactPressureOf", fn := fun _ => fun
  | [d1, d2] => { results := [.lit (.bool false)], args := [d1, d2] }
  | _ => none }
def FnExactPressureOfWrongFalsely : Prop := fnExactPressureOfRow.holds Try.pinned (OpenSpec.ofChange fnExactPressureOfWrong)

/-- 'laws.FnExactLeastPressure': WHATEVER THE INPUT: true; the input reads as it did. -/
def fnExactLeastPressureSpec : ChangeSpec := { name := "fnExactLeastPressure", fn := fun _ => fun
  | [d] => { results := [.lit (.bool true)], args := [d] }
  | _ => none }
def fnExactLeastPressureRow : OpenClaim := { program := "ytafmpjlelpkdaaa", sum := "9b9b4ed51a31ba05e23a9966a308a6a46c371189cab44787ade0c5ae31ce1517", func := "loop.example/g01139/laws.FnExactLeastPressure", spec := "fnExactLeastPressure", unfollowed := true, recurses := true, plainKeys := false, apart := false }
def FnExactLeastPressureSaid : Prop := fnExactLeastPressureRow.holds Try.pinned (OpenSpec.ofChange fnExactLeastPressureSpec)

/-- ITS FALSE NEIGHBOUR: 'it returns false'. Refute it at one input. -/
def fnExactLeastPressureWrong : ChangeSpec := { name := "fnExactLeastPressure", fn := fun _ => fun
  | [d] => { results := [.lit (.bool false)], args := [d] }
  | _ => none }
def FnExactLeastPressureWrongFalsely : Prop := fnExactLeastPressureRow.holds Try.pinned (OpenSpec.ofChange fnExactLeastPressureWrong)

/-- 'laws.FnExactValidRanges': WHATEVER THE INPUT: true; the input reads as it did. -/
def fnExactValidRangesSpec : ChangeSpec := { name := "fnExactValidRanges", fn := fun _ => fun
  | [d] => { results := [.lit (.bool true)], args := [d] }
  | _ => none }
def fnExactValidRangesRow : OpenClaim := { program := "ytafmpjlelpkdaaa", sum := "9b9b4ed51a31ba05e23a9966a308a6a46c371189cab44787ade0c5ae31ce1517", func := "loop.example/g01139/laws.FnExactValidRanges", spec := "fnExactValidRanges", unfollowed := true, recurses := true, plainKeys := false, apart := false }
def FnExactValidRangesSaid : Prop := fnExactValidRangesRow.holds Try.pinned (OpenSpec.ofChange fnExactValidRangesSpec)

/-- ITS FALSE NEIGHBOUR: 'it returns false'. Refute it at one input. -/
def fnExactValidRangesWrong : ChangeSpec := { name := "fnExactValidRanges", fn := fun _ => fun
  | [d] => { results := [.lit (.bool false)], args := [d] }
  | _ => none }
def FnExactValidRangesWrongFalsely : Prop := fnExactValidRangesRow.holds Try.pinned (OpenSpec.ofChange fnExactValidRangesWrong)

/-- 'laws.FnExactWidthOf': WHATEVER THE INPUT: true; the input reads as it did. -/
def fnExactWidthOfSpec : ChangeSpec := { name := "fnExactWidthOf", fn := fun _ => fun
  | [d] => { results := [.lit (.bool true)], args := [d] }
  | _ => none }
def fnExactWidthOfRow : OpenClaim := { program := "ytafmpjlelpkdaaa", sum := "9b9b4ed51a31ba05e23a9966a308a6a46c371189cab44787ade0c5ae31ce1517", func := "loop.example/g01139/laws.FnExactWidthOf", spec := "fnExactWidthOf", unfollowed := true, recurses := true, plainKeys := false, apart := false }
def FnExactWidthOfSaid : Prop := fnExactWidthOfRow.holds Try.pinned (OpenSpec.ofChange fnExactWidthOfSpec)

/-- ITS FALSE NEIGHBOUR: 'it returns false'. Refute it at one input. -/
def fnExactWidthOfWrong : ChangeSpec := { name := "fnExactWidthOf", fn := fun _ => fun
  | [d] => { results := [.lit (.bool false)], args := [d] }
  | _ => none }
def FnExactWidthOfWrongFalsely : Prop := fnExactWidthOfRow.holds Try.pinned (OpenSpec.ofChange fnExactWidthOfWrong)

/- THE SECOND FORM. 'bulk': how many values and letters a reading holds, each counted each time it is reached (what is shared counts as often as it is met; a slice's spare places count too). A statement '..UptoSaid' is the law's where the arguments, and the package variables that the reading takes, are together of bulk at most 1048576: NARROWER than '..Said'. Prove '..Said' where nothing that the law and all that it calls make is longer than what came in: it says more and counts as full. Else prove '..UptoSaid'. A law counts once. -/
mutual
def uptoBulk {H : Type} : DataW H → Nat
  | .lit (.string bytes) => bytes.length + 1
  | .lit _ => 1
  | .nil => 1
  | .ptr d => uptoBulk d + 1
  | .slice elems spare => uptoBulkAll elems + uptoBulkAll spare + 1
  | .agg parts => uptoBulkAll parts + 1
  | .iface _ d => uptoBulk d + 1
  | .map entries => uptoBulkEntries entries + 1
  | .held _ => 1
def uptoBulkAll {H : Type} : List (DataW H) → Nat
  | [] => 0
  | d :: r => uptoBulk d + uptoBulkAll r
def uptoBulkEntries {H : Type} : List (Lit × DataW H) → Nat
  | [] => 0
  | x :: r => uptoBulkEntry x + uptoBulkEntries r
def uptoBulkEntry {H : Type} : Lit × DataW H → Nat
  | (.string bytes, d) => bytes.length + uptoBulk d + 1
  | (_, d) => uptoBulk d + 1
 end
def uptoSmall : (H : Type) → List (DataW H) → Bool := fun _ ds => decide (uptoBulkAll ds ≤ 1048576)
def OpenSpec.upto (s : _root_.Go.ChangeSpec) : _root_.Go.OpenSpec := { _root_.Go.OpenSpec.ofChange s with cond := some uptoSmall }

/-- 'laws.FnScheduled', WHERE WHAT IT READS IS OF BULK AT MOST 1048576: true; the input reads as it did. -/
def fnScheduledUptoRow : OpenClaim := { program := "ytafmpjlelpkdaaa", sum := "9b9b4ed51a31ba05e23a9966a308a6a46c371189cab44787ade0c5ae31ce1517", func := "loop.example/g01139/laws.FnScheduled", spec := "fnScheduled", unfollowed := true, recurses := true, plainKeys := false, apart := false, narrowed := true }
def FnScheduledUptoSaid : Prop := fnScheduledUptoRow.holds Try.pinned (OpenSpec.upto fnScheduledSpec)

/-- 'laws.FnPressed', WHERE WHAT IT READS IS OF BULK AT MOST 1048576: true; the input reads as it did. -/
def fnPressedUptoRow : OpenClaim := { program := "ytafmpjlelpkdaaa", sum := "9b9b4ed51a31ba05e23a9966a308a6a46c371189cab44787ade0c5ae31ce1517", func := "loop.example/g01139/laws.FnPressed", spec := "fnPressed", unfollowed := true, recurses := true, plainKeys := false, apart := false, narrowed := true }
def FnPressedUptoSaid : Prop := fnPressedUptoRow.holds Try.pinned (OpenSpec.upto fnPressedSpec)

/-- 'laws.FnExactValidTasks', WHERE WHAT IT READS IS OF BULK AT MOST 1048576: true; the input reads as it did. -/
def fnExactValidTasksUptoRow : OpenClaim := { program := "ytafmpjlelpkdaaa", sum := "9b9b4ed51a31ba05e23a9966a308a6a46c371189cab44787ade0c5ae31ce1517", func := "loop.example/g01139/laws.FnExactValidTasks", spec := "fnExactValidTasks", plainKeys := false, apart := false, narrowed := true }
def FnExactValidTasksUptoSaid : Prop := fnExactValidTasksUptoRow.holds Try.pinned (OpenSpec.upto fnExactValidTasksSpec)

/-- 'laws.FnExactIsSchedule', WHERE WHAT IT READS IS OF BULK AT MOST 1048576: true; the input reads as it did. -/
def fnExactIsScheduleUptoRow : OpenClaim := { program := "ytafmpjlelpkdaaa", sum := "9b9b4ed51a31ba05e23a9966a308a6a46c371189cab44787ade0c5ae31ce1517", func := "loop.example/g01139/laws.FnExactIsSchedule", spec := "fnExactIsSchedule", plainKeys := false, apart := false, narrowed := true }
def FnExactIsScheduleUptoSaid : Prop := fnExactIsScheduleUptoRow.holds Try.pinned (OpenSpec.upto fnExactIsScheduleSpec)

/-- 'laws.FnExactLengthOf', WHERE WHAT IT READS IS OF BULK AT MOST 1048576: true; the input reads as it did. -/
def fnExactLengthOfUptoRow : OpenClaim := { program := "ytafmpjlelpkdaaa", sum := "9b9b4ed51a31ba05e23a9966a308a6a46c371189cab44787ade0c5ae31ce1517", func := "loop.example/g01139/laws.FnExactLengthOf", spec := "fnExactLengthOf", plainKeys := false, apart := false, narrowed := true }
def FnExactLengthOfUptoSaid : Prop := fnExactLengthOfUptoRow.holds Try.pinned (OpenSpec.upto fnExactLengthOfSpec)

/-- 'laws.FnExactPathBound', WHERE WHAT IT READS IS OF BULK AT MOST 1048576: true; the input reads as it did. -/
def fnExactPathBoundUptoRow : OpenClaim := { program := "ytafmpjlelpkdaaa", sum := "9b9b4ed51a31ba05e23a9966a308a6a46c371189cab44787ade0c5ae31ce1517", func := "loop.example/g01139/laws.FnExactPathBound", spec := "fnExactPathBound", unfollowed := true, recurses := true, plainKeys := false, apart := false, narrowed := true }
def FnExactPathBoundUptoSaid : Prop := fnExactPathBoundUptoRow.holds Try.pinned (OpenSpec.upto fnExactPathBoundSpec)

/-- 'laws.FnExactPortBound', WHERE WHAT IT READS IS OF BULK AT MOST 1048576: true; the input reads as it did. -/
def fnExactPortBoundUptoRow : OpenClaim := { program := "ytafmpjlelpkdaaa", sum := "9b9b4ed51a31ba05e23a9966a308a6a46c371189cab44787ade0c5ae31ce1517", func := "loop.example/g01139/laws.FnExactPortBound", spec := "fnExactPortBound", plainKeys := false, apart := false, narrowed := true }
def FnExactPortBoundUptoSaid : Prop := fnExactPortBoundUptoRow.holds Try.pinned (OpenSpec.upto fnExactPortBoundSpec)

/-- 'laws.FnExactHeightsOf', WHERE WHAT IT READS IS OF BULK AT MOST 1048576: true; the input reads as it did. -/
def fnExactHeightsOfUptoRow : OpenClaim := { program := "ytafmpjlelpkdaaa", sum := "9b9b4ed51a31ba05e23a9966a308a6a46c371189cab44787ade0c5ae31ce1517", func := "loop.example/g01139/laws.FnExactHeightsOf", spec := "fnExactHeightsOf", unfollowed := true, recurses := true, plainKeys := false, apart := false, narrowed := true }
def FnExactHeightsOfUptoSaid : Prop := fnExactHeightsOfUptoRow.holds Try.pinned (OpenSpec.upto fnExactHeightsOfSpec)

/-- 'laws.FnExactListSchedule', WHERE WHAT IT READS IS OF BULK AT MOST 1048576: true; the input reads as it did. -/
def fnExactListScheduleUptoRow : OpenClaim := { program := "ytafmpjlelpkdaaa", sum := "9b9b4ed51a31ba05e23a9966a308a6a46c371189cab44787ade0c5ae31ce1517", func := "loop.example/g01139/laws.FnExactListSchedule", spec := "fnExactListSchedule", unfollowed := true, recurses := true, plainKeys := false, apart := false, narrowed := true }
def FnExactListScheduleUptoSaid : Prop := fnExactListScheduleUptoRow.holds Try.pinned (OpenSpec.upto fnExactListScheduleSpec)

/-- 'laws.FnExactBestSchedule', WHERE WHAT IT READS IS OF BULK AT MOST 1048576: true; the input reads as it did. -/
def fnExactBestScheduleUptoRow : OpenClaim := { program := "ytafmpjlelpkdaaa", sum := "9b9b4ed51a31ba05e23a9966a308a6a46c371189cab44787ade0c5ae31ce1517", func := "loop.example/g01139/laws.FnExactBestSchedule", spec := "fnExactBestSchedule", unfollowed := true, recurses := true, plainKeys := false, apart := false, narrowed := true }
def FnExactBestScheduleUptoSaid : Prop := fnExactBestScheduleUptoRow.holds Try.pinned (OpenSpec.upto fnExactBestScheduleSpec)

/-- 'laws.FnExactIsTaskOrder', WHERE WHAT IT READS IS OF BULK AT MOST 1048576: true; the input reads as it did. -/
def fnExactIsTaskOrderUptoRow : OpenClaim := { program := "ytafmpjlelpkdaaa", sum := "9b9b4ed51a31ba05e23a9966a308a6a46c371189cab44787ade0c5ae31ce1517", func := "loop.example/g01139/laws.FnExactIsTaskOrder", spec := "fnExactIsTaskOrder", plainKeys := false, apart := false, narrowed := true }
def FnExactIsTaskOrderUptoSaid : Prop := fnExactIsTaskOrderUptoRow.holds Try.pinned (OpenSpec.upto fnExactIsTaskOrderSpec)

/-- 'laws.FnExactPressureOf', WHERE WHAT IT READS IS OF BULK AT MOST 1048576: true; the input reads as it did. -/
def fnExactPressureOfUptoRow : OpenClaim := { program := "ytafmpjlelpkdaaa", sum := "9b9b4ed51a31ba05e23a9966a308a6a46c371189cab44787ade0c5ae31ce1517", func := "loop.example/g01139/laws.FnExactPressureOf", spec := "fnExactPressureOf", plainKeys := false, apart := false, narrowed := true }
def FnExactPressureOfUptoSaid : Prop := fnExactPressureOfUptoRow.holds Try.pinned (OpenSpec.upto fnExactPressureOfSpec)

/-- 'laws.FnExactLeastPressure', WHERE WHAT IT READS IS OF BULK AT MOST 1048576: true; the input reads as it did. -/
def fnExactLeastPressureUptoRow : OpenClaim := { program := "ytafmpjlelpkdaaa", sum := "9b9b4ed51a31ba05e23a9966a308a6a46c371189cab44787ade0c5ae31ce1517", func := "loop.example/g01139/laws.FnExactLeastPressure", spec := "fnExactLeastPressure", unfollowed := true, recurses := true, plainKeys := false, apart := false, narrowed := true }
def FnExactLeastPressureUptoSaid : Prop := fnExactLeastPressureUptoRow.holds Try.pinned (OpenSpec.upto fnExactLeastPressureSpec)

/-- 'laws.FnExactValidRanges', WHERE WHAT IT READS IS OF BULK AT MOST 1048576: true; the input reads as it did. -/
def fnExactValidRangesUptoRow : OpenClaim := { program := "ytafmpjlelpkdaaa", sum := "9b9b4ed51a31ba05e23a9966a308a6a46c371189cab44787ade0c5ae31ce1517", func := "loop.example/g01139/laws.FnExactValidRanges", spec := "fnExactValidRanges", unfollowed := true, recurses := true, plainKeys := false, apart := false, narrowed := true }
def FnExactValidRangesUptoSaid : Prop := fnExactValidRangesUptoRow.holds Try.pinned (OpenSpec.upto fnExactValidRangesSpec)

/-- 'laws.FnExactWidthOf', WHERE WHAT IT READS IS OF BULK AT MOST 1048576: true; the input reads as it did. -/
def fnExactWidthOfUptoRow : OpenClaim := { program := "ytafmpjlelpkdaaa", sum := "9b9b4ed51a31ba05e23a9966a308a6a46c371189cab44787ade0c5ae31ce1517", func := "loop.example/g01139/laws.FnExactWidthOf", spec := "fnExactWidthOf", unfollowed := true, recurses := true, plainKeys := false, apart := false, narrowed := true }
def FnExactWidthOfUptoSaid : Prop := fnExactWidthOfUptoRow.holds Try.pinned (OpenSpec.upto fnExactWidthOfSpec)

end Rows
end Go.Proofs.Ytafmpjlelpkdaaa
