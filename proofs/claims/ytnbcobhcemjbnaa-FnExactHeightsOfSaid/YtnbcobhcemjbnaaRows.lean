/-
  No cell of these rows narrows 'for every input' (looked for: loops, veiled, ifaces, maps, wideKeys, modest, calm, conditions, laid).
  DERIVED. THE GIVEN ROWS OF THIS SEAT. 6 by the template 'for every input the law returns true; each argument reads behind the call as it read before'; 0 by the template 'total and deterministic' (their statements: YtnbcobhcemjbnaaTotals.lean).
  GIVEN WITH THE SEED: the statements are not yours to turn. If you find one false, say at which input.
  Laid BY PROGRAM, IN A SANDBOX (cutbox-rows.mjs): the forced cells as the released guide's own fill.sh prints them over the translation 9029a9ddc4a8e010… (all of the seat's roots in one cut). By AI agents, Wed Nov 11 2026. No macro, syntax, notation, axiom, sorry.
-/
import Derived.Test.YtnbcobhcemjbnaaChecked
import GoSem.Claim
import GoSem.ClaimJoined
import GoSem.ClaimMapViews
import Derived.JoinedTies
import Derived.KernelRfl
namespace Go.Proofs.Ytnbcobhcemjbnaa
/- THE CELL 'sum', in the pinned program and in every row, IS THE sha256 OF THE DUMP (.gsa) THAT YtnbcobhcemjbnaaProg.lean LOADS. Nothing in Lean hashes anything: it is a label: what it is worth is what the hold of that sum in a sandbox is worth. -/
noncomputable def Try.pinned : Pinned := { name := "ytnbcobhcemjbnaa", sum := "9029a9ddc4a8e010ebc04a235e73ebdeb3f5749933b1ad323ebfc152294f0a05", checked := Try.checked }
namespace Rows
def none {H : Type} : Left H := { results := [], args := [] }

/-- 'laws.FnPressed': WHATEVER THE INPUT: true; the input reads as it did. -/
def fnPressedSpec : ChangeSpec := { name := "fnPressed", fn := fun _ => fun
  | [d1, d2] => { results := [.lit (.bool true)], args := [d1, d2] }
  | _ => none }
def fnPressedRow : OpenClaim := { program := "ytnbcobhcemjbnaa", sum := "9029a9ddc4a8e010ebc04a235e73ebdeb3f5749933b1ad323ebfc152294f0a05", func := "loop.example/g01139/laws.FnPressed", spec := "fnPressed", unfollowed := true, recurses := true, plainKeys := false, apart := false }
def FnPressedSaid : Prop := fnPressedRow.holds Try.pinned (OpenSpec.ofChange fnPressedSpec)

/-- ITS FALSE NEIGHBOUR: 'it returns false'. Refute it at one input. -/
def fnPressedWrong : ChangeSpec := { name := "fnPressed", fn := fun _ => fun
  | [d1, d2] => { results := [.lit (.bool false)], args := [d1, d2] }
  | _ => none }
def FnPressedWrongFalsely : Prop := fnPressedRow.holds Try.pinned (OpenSpec.ofChange fnPressedWrong)

/-- 'laws.FnExactIsSchedule': WHATEVER THE INPUT: true; the input reads as it did. -/
def fnExactIsScheduleSpec : ChangeSpec := { name := "fnExactIsSchedule", fn := fun _ => fun
  | [d1, d2] => { results := [.lit (.bool true)], args := [d1, d2] }
  | _ => none }
def fnExactIsScheduleRow : OpenClaim := { program := "ytnbcobhcemjbnaa", sum := "9029a9ddc4a8e010ebc04a235e73ebdeb3f5749933b1ad323ebfc152294f0a05", func := "loop.example/g01139/laws.FnExactIsSchedule", spec := "fnExactIsSchedule", plainKeys := false, apart := false }
def FnExactIsScheduleSaid : Prop := fnExactIsScheduleRow.holds Try.pinned (OpenSpec.ofChange fnExactIsScheduleSpec)

/-- ITS FALSE NEIGHBOUR: 'it returns false'. Refute it at one input. -/
def fnExactIsScheduleWrong : ChangeSpec := { name := "fnExactIsSchedule", fn := fun _ => fun
  | [d1, d2] => { results := [.lit (.bool false)], args := [d1, d2] }
  | _ => none }
def FnExactIsScheduleWrongFalsely : Prop := fnExactIsScheduleRow.holds Try.pinned (OpenSpec.ofChange fnExactIsScheduleWrong)

/-- 'laws.FnExactLengthOf': WHATEVER THE INPUT: true; the input reads as it did. -/
def fnExactLengthOfSpec : ChangeSpec := { name := "fnExactLengthOf", fn := fun _ => fun
  | [d1, d2] => { results := [.lit (.bool true)], args := [d1, d2] }
  | _ => none }
def fnExactLengthOfRow : OpenClaim := { program := "ytnbcobhcemjbnaa", sum := "9029a9ddc4a8e010ebc04a235e73ebdeb3f5749933b1ad323ebfc152294f0a05", func := "loop.example/g01139/laws.FnExactLengthOf", spec := "fnExactLengthOf", plainKeys := false, apart := false }
def FnExactLengthOfSaid : Prop := fnExactLengthOfRow.holds Try.pinned (OpenSpec.ofChange fnExactLengthOfSpec)

/-- ITS FALSE NEIGHBOUR: 'it returns false'. Refute it at one input. -/
def fnExactLengthOfWrong : ChangeSpec := { name := "fnExactLengthOf", fn := fun _ => fun
  | [d1, d2] => { results := [.lit (.bool false)], args := [d1, d2] }
  | _ => none }
def FnExactLengthOfWrongFalsely : Prop := fnExactLengthOfRow.holds Try.pinned (OpenSpec.ofChange fnExactLengthOfWrong)

/-- 'laws.FnExactPathBound': WHATEVER THE INPUT: true; the input reads as it did. -/
def fnExactPathBoundSpec : ChangeSpec := { name := "fnExactPathBound", fn := fun _ => fun
  | [d] => { results := [.lit (.bool true)], args := [d] }
  | _ => none }
def fnExactPathBoundRow : OpenClaim := { program := "ytnbcobhcemjbnaa", sum := "9029a9ddc4a8e010ebc04a235e73ebdeb3f5749933b1ad323ebfc152294f0a05", func := "loop.example/g01139/laws.FnExactPathBound", spec := "fnExactPathBound", unfollowed := true, recurses := true, plainKeys := false, apart := false }
def FnExactPathBoundSaid : Prop := fnExactPathBoundRow.holds Try.pinned (OpenSpec.ofChange fnExactPathBoundSpec)

/-- ITS FALSE NEIGHBOUR: 'it returns false'. Refute it at one input. -/
def fnExactPathBoundWrong : ChangeSpec := { name := "fnExactPathBound", fn := fun _ => fun
  | [d] => { results := [.lit (.bool false)], args := [d] }
  | _ => none }
def FnExactPathBoundWrongFalsely : Prop := fnExactPathBoundRow.holds Try.pinned (OpenSpec.ofChange fnExactPathBoundWrong)

/-- 'laws.FnExactHeightsOf': WHATEVER THE INPUT: true; the input reads as it did. -/
def fnExactHeightsOfSpec : ChangeSpec := { name := "fnExactHeightsOf", fn := fun _ => fun
  | [d] => { results := [.lit (.bool true)], args := [d] }
  | _ => none }
def fnExactHeightsOfRow : OpenClaim := { program := "ytnbcobhcemjbnaa", sum := "9029a9ddc4a8e010ebc04a235e73ebdeb3f5749933b1ad323ebfc152294f0a05", func := "loop.example/g01139/laws.FnExactHeightsOf", spec := "fnExactHeightsOf", unfollowed := true, recurses := true, plainKeys := false, apart := false }
def FnExactHeightsOfSaid : Prop := fnExactHeightsOfRow.holds Try.pinned (OpenSpec.ofChange fnExactHeightsOfSpec)

/-- ITS FALSE NEIGHBOUR: 'it returns false'. Refute it at one input. -/
def fnExactHeightsOfWrong : ChangeSpec := { name := "fnExactHeightsOf", fn := fun _ => fun
  | [d] => { results := [.lit (.bool false)], args := [d] }
  | _ => none }
def FnExactHeightsOfWrongFalsely : Prop := fnExactHeightsOfRow.holds Try.pinned (OpenSpec.ofChange fnExactHeightsOfWrong)

/-- 'laws.FnExactLeastPressure': WHATEVER THE INPUT: true; the input reads as it did. -/
def fnExactLeastPressureSpec : ChangeSpec := { name := "fnExactLeastPressure", fn := fun _ => fun
  | [d] => { results := [.lit (.bool true)], args := [d] }
  | _ => none }
def fnExactLeastPressureRow : OpenClaim := { program := "ytnbcobhcemjbnaa", sum := "9029a9ddc4a8e010ebc04a235e73ebdeb3f5749933b1ad323ebfc152294f0a05", func := "loop.example/g01139/laws.FnExactLeastPressure", spec := "fnExactLeastPressure", unfollowed := true, recurses := true, plainKeys := false, apart := false }
def FnExactLeastPressureSaid : Prop := fnExactLeastPressureRow.holds Try.pinned (OpenSpec.ofChange fnExactLeastPressureSpec)

/-- ITS FALSE NEIGHBOUR: 'it returns false'. Refute it at one input. -/
def fnExactLeastPressureWrong : ChangeSpec := { name := "fnExactLeastPressure", fn := fun _ => fun
  | [d] => { results := [.lit (.bool false)], args := [d] }
  | _ => none }
def FnExactLeastPressureWrongFalsely : Prop := fnExactLeastPressureRow.holds Try.pinned (OpenSpec.ofChange fnExactLeastPressureWrong)

/- THE SECOND FORM. 'bulk': how many values and letters a reading holds, each counted each time it is reached (what is shared counts as often as it is met; a slice's spare places count too). A statement '..UptoSaid' is the law's where the arguments, and the package variables that the reading takes, are together of bulk at most 1048576: NARROWER than '..Said'. Prove '..Said' where nothing that the law and all that it calls make is longer than what came in: it says more and counts as full. Else prove '..UptoSaid'. A law counts once. -/
mutual
def uptoBulk {H : Type} : DataW H → Nat
  | .lit (.string bytes) => bytes.length + 1
  | .lit _ => 1
  | .nil => 1
  | .ptr d => uptoBulk d + 1
  | .slice elems spare => uptoBulkAll elems + uptoBulkAll spare + 1
  | .agg parts => uptoBulkAll parts + 1
  | .iface _ d => uptoBulk d + 1
  | .map entries => uptoBulkEntries entries + 1
  | .held _ => 1
def uptoBulkAll {H : Type} : List (DataW H) → Nat
  | [] => 0
  | d :: r => uptoBulk d + uptoBulkAll r
def uptoBulkEntries {H : Type} : List (Lit × DataW H) → Nat
  | [] => 0
  | x :: r => uptoBulkEntry x + uptoBulkEntries r
def uptoBulkEntry {H : Type} : Lit × DataW H → Nat
  | (.string bytes, d) => bytes.length + uptoBulk d + 1
  | (_, d) => uptoBulk d + 1
 end
def uptoSmall : (H : Type) → List (DataW H) → Bool := fun _ ds => decide (uptoBulkAll ds ≤ 1048576)
def OpenSpec.upto (s : _root_.Go.ChangeSpec) : _root_.Go.OpenSpec := { _root_.Go.OpenSpec.ofChange s with cond := some uptoSmall }

/-- 'laws.FnPressed', WHERE WHAT IT READS IS OF BULK AT MOST 1048576: true; the input reads as it did. -/
def fnPressedUptoRow : OpenClaim := { program := "ytnbcobhcemjbnaa", sum := "9029a9ddc4a8e010ebc04a235e73ebdeb3f5749933b1ad323ebfc152294f0a05", func := "loop.example/g01139/laws.FnPressed", spec := "fnPressed", unfollowed := true, recurses := true, plainKeys := false, apart := false, narrowed := true }
def FnPressedUptoSaid : Prop := fnPressedUptoRow.holds Try.pinned (OpenSpec.upto fnPressedSpec)

/-- 'laws.FnExactIsSchedule', WHERE WHAT IT READS IS OF BULK AT MOST 1048576: true; the input reads as it did. -/
def fnExactIsScheduleUptoRow : OpenClaim := { program := "ytnbcobhcemjbnaa", sum := "9029a9ddc4a8e010ebc04a235e73ebdeb3f5749933b1ad323ebfc152294f0a05", func := "loop.example/g01139/laws.FnExactIsSchedule", spec := "fnExactIsSchedule", plainKeys := false, apart := false, narrowed := true }
def FnExactIsScheduleUptoSaid : Prop := fnExactIsScheduleUptoRow.holds Try.pinned (OpenSpec.upto fnExactIsScheduleSpec)

/-- 'laws.FnExactLengthOf', WHERE WHAT IT READS IS OF BULK AT MOST 1048576: true; the input reads as it did. -/
def fnExactLengthOfUptoRow : OpenClaim := { program := "ytnbcobhcemjbnaa", sum := "9029a9ddc4a8e010ebc04a235e73ebdeb3f5749933b1ad323ebfc152294f0a05", func := "loop.example/g01139/laws.FnExactLengthOf", spec := "fnExactLengthOf", plainKeys := false, apart := false, narrowed := true }
def FnExactLengthOfUptoSaid : Prop := fnExactLengthOfUptoRow.holds Try.pinned (OpenSpec.upto fnExactLengthOfSpec)

/-- 'laws.FnExactPathBound', WHERE WHAT IT READS IS OF BULK AT MOST 1048576: true; the input reads as it did. -/
def fnExactPathBoundUptoRow : OpenClaim := { program := "ytnbcobhcemjbnaa", sum := "9029a9ddc4a8e010ebc04a235e73ebdeb3f5749933b1ad323ebfc152294f0a05", func := "loop.example/g01139/laws.FnExactPathBound", spec := "fnExactPathBound", unfollowed := true, recurses := true, plainKeys := false, apart := false, narrowed := true }
def FnExactPathBoundUptoSaid : Prop := fnExactPathBoundUptoRow.holds Try.pinned (OpenSpec.upto fnExactPathBoundSpec)

/-- 'laws.FnExactHeightsOf', WHERE WHAT IT READS IS OF BULK AT MOST 1048576: true; the input reads as it did. -/
def fnExactHeightsOfUptoRow : OpenClaim := { program := "ytnbcobhcemjbnaa", sum := "9029a9ddc4a8e010ebc04a235e73ebdeb3f5749933b1ad323ebfc152294f0a05", func := "loop.example/g01139/laws.FnExactHeightsOf", spec := "fnExactHeightsOf", unfollowed := true, recurses := true, plainKeys := false, apart := false, narrowed := true }
def FnExactHeightsOfUptoSaid : Prop := fnExactHeightsOfUptoRow.holds Try.pinned (OpenSpec.upto fnExactHeightsOfSpec)

/-- 'laws.FnExactLeastPressure', WHERE WHAT IT READS IS OF BULK AT MOST 1048576: true; the input reads as it did. -/
def fnExactLeastPressureUptoRow : OpenClaim := { program := "ytnbcobhcemjbnaa", sum := "9029a9ddc4a8e010ebc04a235e73ebdeb3f5749933b1ad323ebfc152294f0a05", func := "loop.example/g01139/laws.FnExactLeastPressure", spec := "fnExactLeastPressure", unfollowed := true, recurses := true, plainKeys := false, apart := false, narrowed := true }
def FnExactLeastPressureUptoSaid : Prop := fnExactLeastPressureUptoRow.holds Try.pinned (OpenSpec.upto fnExactLeastPressureSpec)

end Rows
end Go.Proofs.Ytnbcobhcemjbnaa
