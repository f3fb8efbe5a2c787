/-
  No cell of these rows narrows 'for every input' (looked for: loops, veiled, ifaces, maps, wideKeys, modest, calm, conditions, laid).
  DERIVED. THE GIVEN ROWS OF THIS SEAT. 8 by the template 'for every input the law returns true; each argument reads behind the call as it read before'; 0 by the template 'total and deterministic' (their statements: YtfmplneopmbfoaaTotals.lean).
  GIVEN WITH THE SEED: the statements are not yours to turn. If you find one false, say at which input.
  Laid BY PROGRAM, IN A SANDBOX (cutbox-rows.mjs): the forced cells as the released guide's own fill.sh prints them over the translation b8b8033161704f50… (all of the seat's roots in one cut). By AI agents, Wed Nov 11 2026. No macro, syntax, notation, axiom, sorry.
-/
import Derived.Test.YtfmplneopmbfoaaChecked
import GoSem.Claim
import GoSem.ClaimJoined
import GoSem.ClaimMapViews
import Derived.JoinedTies
import Derived.KernelRfl
namespace Go.Proofs.Ytfmplneopmbfoaa
/- THE CELL 'sum', in the pinned program and in every row, IS THE sha256 OF THE DUMP (.gsa) THAT YtfmplneopmbfoaaProg.lean LOADS. Nothing in Lean hashes anything: it is a label: what it is worth is what the hold of that sum in a sandbox is worth. -/
noncomputable def Try.pinned : Pinned := { name := "ytfmplneopmbfoaa", sum := "b8b8033161704f50f7d5e7677b8ff49bf841c6f033123825202ee4cc10b86147", checked := Try.checked }
namespace Rows
def none {H : Type} : Left H := { results := [], args := [] }

/-- 'laws.FnShuffled': WHATEVER THE INPUT: true; the input reads as it did. -/
def fnShuffledSpec : ChangeSpec := { name := "fnShuffled", fn := fun _ => fun
  | [d1, d2] => { results := [.lit (.bool true)], args := [d1, d2] }
  | _ => none }
def fnShuffledRow : OpenClaim := { program := "ytfmplneopmbfoaa", sum := "b8b8033161704f50f7d5e7677b8ff49bf841c6f033123825202ee4cc10b86147", func := "loop.example/g01139/laws.FnShuffled", spec := "fnShuffled", unfollowed := true, recurses := true, apart := false }
def FnShuffledSaid : Prop := fnShuffledRow.holds Try.pinned (OpenSpec.ofChange fnShuffledSpec)

/-- ITS FALSE NEIGHBOUR: 'it returns false'. Refute it at one input. -/
def fnShuffledWrong : ChangeSpec := { name := "fnShuffled", fn := fun _ => fun
  | [d1, d2] => { results := [.lit (.bool false)], args := [d1, d2] }
  | _ => none }
def FnShuffledWrongFalsely : Prop := fnShuffledRow.holds Try.pinned (OpenSpec.ofChange fnShuffledWrong)

/-- 'laws.FnPressed': WHATEVER THE INPUT: true; the input reads as it did. -/
def fnPressedSpec : ChangeSpec := { name := "fnPressed", fn := fun _ => fun
  | [d1, d2] => { results := [.lit (.bool true)], args := [d1, d2] }
  | _ => none }
def fnPressedRow : OpenClaim := { program := "ytfmplneopmbfoaa", sum := "b8b8033161704f50f7d5e7677b8ff49bf841c6f033123825202ee4cc10b86147", func := "loop.example/g01139/laws.FnPressed", spec := "fnPressed", unfollowed := true, recurses := true, apart := false }
def FnPressedSaid : Prop := fnPressedRow.holds Try.pinned (OpenSpec.ofChange fnPressedSpec)

/-- ITS FALSE NEIGHBOUR: 'it returns false'. Refute it at one input. -/
def fnPressedWrong : ChangeSpec := { name := "fnPressed", fn := fun _ => fun
  | [d1, d2] => { results := [.lit (.bool false)], args := [d1, d2] }
  | _ => none }
def FnPressedWrongFalsely : Prop := fnPressedRow.holds Try.pinned (OpenSpec.ofChange fnPressedWrong)

/-- 'laws.FnExactIsShuffle': WHATEVER THE INPUT: true; the input reads as it did. -/
def fnExactIsShuffleSpec : ChangeSpec := { name := "fnExactIsShuffle", fn := fun _ => fun
  | [d] => { results := [.lit (.bool true)], args := [d] }
  | _ => none }
def fnExactIsShuffleRow : OpenClaim := { program := "ytfmplneopmbfoaa", sum := "b8b8033161704f50f7d5e7677b8ff49bf841c6f033123825202ee4cc10b86147", func := "loop.example/g01139/laws.FnExactIsShuffle", spec := "fnExactIsShuffle", unfollowed := true, recurses := true, apart := false }
def FnExactIsShuffleSaid : Prop := fnExactIsShuffleRow.holds Try.pinned (OpenSpec.ofChange fnExactIsShuffleSpec)

/-- ITS FALSE NEIGHBOUR: 'it returns false'. Refute it at one input. -/
def fnExactIsShuffleWrong : ChangeSpec := { name := "fnExactIsShuffle", fn := fun _ => fun
  | [d] => { results := [.lit (.bool false)], args := [d] }
  | _ => none }
def FnExactIsShuffleWrongFalsely : Prop := fnExactIsShuffleRow.holds Try.pinned (OpenSpec.ofChange fnExactIsShuffleWrong)

/-- 'laws.FnExactShuffleLanes': WHATEVER THE INPUT: true; the input reads as it did. -/
def fnExactShuffleLanesSpec : ChangeSpec := { name := "fnExactShuffleLanes", fn := fun _ => fun
  | [d1, d2, d3] => { results := [.lit (.bool true)], args := [d1, d2, d3] }
  | _ => none }
def fnExactShuffleLanesRow : OpenClaim := { program := "ytfmplneopmbfoaa", sum := "b8b8033161704f50f7d5e7677b8ff49bf841c6f033123825202ee4cc10b86147", func := "loop.example/g01139/laws.FnExactShuffleLanes", spec := "fnExactShuffleLanes", unfollowed := true, recurses := true, apart := false }
def FnExactShuffleLanesSaid : Prop := fnExactShuffleLanesRow.holds Try.pinned (OpenSpec.ofChange fnExactShuffleLanesSpec)

/-- ITS FALSE NEIGHBOUR: 'it returns false'. Refute it at one input. -/
def fnExactShuffleLanesWrong : ChangeSpec := { name := "fnExactShuffleLanes", fn := fun _ => fun
  | [d1, d2, d3] => { results := [.lit (.bool false)], args := [d1, d2, d3] }
  | _ => none }
def FnExactShuffleLanesWrongFalsely : Prop := fnExactShuffleLanesRow.holds Try.pinned (OpenSpec.ofChange fnExactShuffleLanesWrong)

/-- 'laws.FnExactThenShuffle': WHATEVER THE INPUT: true; the input reads as it did. -/
def fnExactThenShuffleSpec : ChangeSpec := { name := "fnExactThenShuffle", fn := fun _ => fun
  | [d1, d2] => { results := [.lit (.bool true)], args := [d1, d2] }
  | _ => none }
def fnExactThenShuffleRow : OpenClaim := { program := "ytfmplneopmbfoaa", sum := "b8b8033161704f50f7d5e7677b8ff49bf841c6f033123825202ee4cc10b86147", func := "loop.example/g01139/laws.FnExactThenShuffle", spec := "fnExactThenShuffle", unfollowed := true, recurses := true, apart := false }
def FnExactThenShuffleSaid : Prop := fnExactThenShuffleRow.holds Try.pinned (OpenSpec.ofChange fnExactThenShuffleSpec)

/-- ITS FALSE NEIGHBOUR: 'it returns false'. Refute it at one input. -/
def fnExactThenShuffleWrong : ChangeSpec := { name := "fnExactThenShuffle", fn := fun _ => fun
  | [d1, d2] => { results := [.lit (.bool false)], args := [d1, d2] }
  | _ => none }
def FnExactThenShuffleWrongFalsely : Prop := fnExactThenShuffleRow.holds Try.pinned (OpenSpec.ofChange fnExactThenShuffleWrong)

/-- 'laws.FnExactInverseShuffle': WHATEVER THE INPUT: true; the input reads as it did. -/
def fnExactInverseShuffleSpec : ChangeSpec := { name := "fnExactInverseShuffle", fn := fun _ => fun
  | [d] => { results := [.lit (.bool true)], args := [d] }
  | _ => none }
def fnExactInverseShuffleRow : OpenClaim := { program := "ytfmplneopmbfoaa", sum := "b8b8033161704f50f7d5e7677b8ff49bf841c6f033123825202ee4cc10b86147", func := "loop.example/g01139/laws.FnExactInverseShuffle", spec := "fnExactInverseShuffle", unfollowed := true, recurses := true, apart := false }
def FnExactInverseShuffleSaid : Prop := fnExactInverseShuffleRow.holds Try.pinned (OpenSpec.ofChange fnExactInverseShuffleSpec)

/-- ITS FALSE NEIGHBOUR: 'it returns false'. Refute it at one input. -/
def fnExactInverseShuffleWrong : ChangeSpec := { name := "fnExactInverseShuffle", fn := fun _ => fun
  | [d] => { results := [.lit (.bool false)], args := [d] }
  | _ => none }
def FnExactInverseShuffleWrongFalsely : Prop := fnExactInverseShuffleRow.holds Try.pinned (OpenSpec.ofChange fnExactInverseShuffleWrong)

/-- 'laws.FnExactPickLanes': WHATEVER THE INPUT: true; the input reads as it did. -/
def fnExactPickLanesSpec : ChangeSpec := { name := "fnExactPickLanes", fn := fun _ => fun
  | [d1, d2, d3, d4] => { results := [.lit (.bool true)], args := [d1, d2, d3, d4] }
  | _ => none }
def fnExactPickLanesRow : OpenClaim := { program := "ytfmplneopmbfoaa", sum := "b8b8033161704f50f7d5e7677b8ff49bf841c6f033123825202ee4cc10b86147", func := "loop.example/g01139/laws.FnExactPickLanes", spec := "fnExactPickLanes", unfollowed := true, recurses := true, apart := false }
def FnExactPickLanesSaid : Prop := fnExactPickLanesRow.holds Try.pinned (OpenSpec.ofChange fnExactPickLanesSpec)

/-- ITS FALSE NEIGHBOUR: 'it returns false'. Refute it at one input. -/
def fnExactPickLanesWrong : ChangeSpec := { name := "fnExactPickLanes", fn := fun _ => fun
  | [d1, d2, d3, d4] => { results := [.lit (.bool false)], args := [d1, d2, d3, d4] }
  | _ => none }
def FnExactPickLanesWrongFalsely : Prop := fnExactPickLanesRow.holds Try.pinned (OpenSpec.ofChange fnExactPickLanesWrong)

/-- 'laws.FnExactLeastPressure': WHATEVER THE INPUT: true; the input reads as it did. -/
def fnExactLeastPressureSpec : ChangeSpec := { name := "fnExactLeastPressure", fn := fun _ => fun
  | [d] => { results := [.lit (.bool true)], args := [d] }
  | _ => none }
def fnExactLeastPressureRow : OpenClaim := { program := "ytfmplneopmbfoaa", sum := "b8b8033161704f50f7d5e7677b8ff49bf841c6f033123825202ee4cc10b86147", func := "loop.example/g01139/laws.FnExactLeastPressure", spec := "fnExactLeastPressure", unfollowed := true, recurses := true, apart := false }
def FnExactLeastPressureSaid : Prop := fnExactLeastPressureRow.holds Try.pinned (OpenSpec.ofChange fnExactLeastPressureSpec)

/-- ITS FALSE NEIGHBOUR: 'it returns false'. Refute it at one input. -/
def fnExactLeastPressureWrong : ChangeSpec := { name := "fnExactLeastPressure", fn := fun _ => fun
  | [d] => { results := [.lit (.bool false)], args := [d] }
  | _ => none }
def FnExactLeastPressureWrongFalsely : Prop := fnExactLeastPressureRow.holds Try.pinned (OpenSpec.ofChange fnExactLeastPressureWrong)

/- THE SECOND FORM. 'bulk': how many values and letters a reading holds, each counted each time it is reached (what is shared counts as often as it is met; a slice's spare places count too). A statement '..UptoSaid' is the law's where the arguments, and the package variables that the reading takes, are together of bulk at most 1048576: NARROWER than '..Said'. Prove '..Said' where nothing that the law and all that it calls make is longer than what came in: it says more and counts as full. Else prove '..UptoSaid'. A law counts once. -/
mutual
def uptoBulk {H : Type} : DataW H → Nat
  | .lit (.string bytes) => bytes.length + 1
  | .lit _ => 1
  | .nil => 1
  | .ptr d => uptoBulk d + 1
  | .slice elems spare => uptoBulkAll elems + uptoBulkAll spare + 1
  | .agg parts => uptoBulkAll parts + 1
  | .iface _ d => uptoBulk d + 1
  | .map entries => uptoBulkEntries entries + 1
  | .held _ => 1
def uptoBulkAll {H : Type} : List (DataW H) → Nat
  | [] => 0
  | d :: r => uptoBulk d + uptoBulkAll r
def uptoBulkEntries {H : Type} : List (Lit × DataW H) → Nat
  | [] => 0
  | x :: r => uptoBulkEntry x + uptoBulkEntries r
def uptoBulkEntry {H : Type} : Lit × DataW H → Nat
  | (.string bytes, d) => bytes.length + uptoBulk d + 1
  | (_, d) => uptoBulk d + 1
 end
def uptoSmall : (H : Type) → List (DataW H) → Bool := fun _ ds => decide (uptoBulkAll ds ≤ 1048576)
def OpenSpec.upto (s : _root_.Go.ChangeSpec) : _root_.Go.OpenSpec := { _root_.Go.OpenSpec.ofChange s with cond := some uptoSmall }

/-- 'laws.FnShuffled', WHERE WHAT IT READS IS OF BULK AT MOST 1048576: true; the input reads as it did. -/
def fnShuffledUptoRow : OpenClaim := { program := "ytfmplneopmbfoaa", sum := "b8b8033161704f50f7d5e7677b8ff49bf841c6f033123825202ee4cc10b86147", func := "loop.example/g01139/laws.FnShuffled", spec := "fnShuffled", unfollowed := true, recurses := true, apart := false, narrowed := true }
def FnShuffledUptoSaid : Prop := fnShuffledUptoRow.holds Try.pinned (OpenSpec.upto fnShuffledSpec)

/-- 'laws.FnPressed', WHERE WHAT IT READS IS OF BULK AT MOST 1048576: true; the input reads as it did. -/
def fnPressedUptoRow : OpenClaim := { program := "ytfmplneopmbfoaa", sum := "b8b8033161704f50f7d5e7677b8ff49bf841c6f033123825202ee4cc10b86147", func := "loop.example/g01139/laws.FnPressed", spec := "fnPressed", unfollowed := true, recurses := true, apart := false, narrowed := true }
def FnPressedUptoSaid : Prop := fnPressedUptoRow.holds Try.pinned (OpenSpec.upto fnPressedSpec)

/-- 'laws.FnExactIsShuffle', WHERE WHAT IT READS IS OF BULK AT MOST 1048576: true; the input reads as it did. -/
def fnExactIsShuffleUptoRow : OpenClaim := { program := "ytfmplneopmbfoaa", sum := "b8b8033161704f50f7d5e7677b8ff49bf841c6f033123825202ee4cc10b86147", func := "loop.example/g01139/laws.FnExactIsShuffle", spec := "fnExactIsShuffle", unfollowed := true, recurses := true, apart := false, narrowed := true }
def FnExactIsShuffleUptoSaid : Prop := fnExactIsShuffleUptoRow.holds Try.pinned (OpenSpec.upto fnExactIsShuffleSpec)

/-- 'laws.FnExactShuffleLanes', WHERE WHAT IT READS IS OF BULK AT MOST 1048576: true; the input reads as it did. -/
def fnExactShuffleLanesUptoRow : OpenClaim := { program := "ytfmplneopmbfoaa", sum := "b8b8033161704f50f7d5e7677b8ff49bf841c6f033123825202ee4cc10b86147", func := "loop.example/g01139/laws.FnExactShuffleLanes", spec := "fnExactShuffleLanes", unfollowed := true, recurses := true, apart := false, narrowed := true }
def FnExactShuffleLanesUptoSaid : Prop := fnExactShuffleLanesUptoRow.holds Try.pinned (OpenSpec.upto fnExactShuffleLanesSpec)

/-- 'laws.FnExactThenShuffle', WHERE WHAT IT READS IS OF BULK AT MOST 1048576: true; the input reads as it did. -/
def fnExactThenShuffleUptoRow : OpenClaim := { program := "ytfmplneopmbfoaa", sum := "b8b8033161704f50f7d5e7677b8ff49bf841c6f033123825202ee4cc10b86147", func := "loop.example/g01139/laws.FnExactThenShuffle", spec := "fnExactThenShuffle", unfollowed := true, recurses := true, apart := false, narrowed := true }
def FnExactThenShuffleUptoSaid : Prop := fnExactThenShuffleUptoRow.holds Try.pinned (OpenSpec.upto fnExactThenShuffleSpec)

/-- 'laws.FnExactInverseShuffle', WHERE WHAT IT READS IS OF BULK AT MOST 1048576: true; the input reads as it did. -/
def fnExactInverseShuffleUptoRow : OpenClaim := { program := "ytfmplneopmbfoaa", sum := "b8b8033161704f50f7d5e7677b8ff49bf841c6f033123825202ee4cc10b86147", func := "loop.example/g01139/laws.FnExactInverseShuffle", spec := "fnExactInverseShuffle", unfollowed := true, recurses := true, apart := false, narrowed := true }
def FnExactInverseShuffleUptoSaid : Prop := fnExactInverseShuffleUptoRow.holds Try.pinned (OpenSpec.upto fnExactInverseShuffleSpec)

/-- 'laws.FnExactPickLanes', WHERE WHAT IT READS IS OF BULK AT MOST 1048576: true; the input reads as it did. -/
def fnExactPickLanesUptoRow : OpenClaim := { program := "ytfmplneopmbfoaa", sum := "b8b8033161704f50f7d5e7677b8ff49bf841c6f033123825202ee4cc10b86147", func := "loop.example/g01139/laws.FnExactPickLanes", spec := "fnExactPickLanes", unfollowed := true, recurses := true, apart := false, narrowed := true }
def FnExactPickLanesUptoSaid : Prop := fnExactPickLanesUptoRow.holds Try.pinned (OpenSpec.upto fnExactPickLanesSpec)

/-- 'laws.FnExactLeastPressure', WHERE WHAT IT READS IS OF BULK AT MOST 1048576: true; the input reads as it did. -/
def fnExactLeastPressureUptoRow : OpenClaim := { program := "ytfmplneopmbfoaa", sum := "b8b8033161704f50f7d5e7677b8ff49bf841c6f033123825202ee4cc10b86147", func := "loop.example/g01139/laws.FnExactLeastPressure", spec := "fnExactLeastPressure", unfollowed := true, recurses := true, apart := false, narrowed := true }
def FnExactLeastPressureUptoSaid : Prop := fnExactLeastPressureUptoRow.holds Try.pinned (OpenSpec.upto fnExactLeastPressureSpec)

end Rows
end Go.Proofs.Ytfmplneopmbfoaa
