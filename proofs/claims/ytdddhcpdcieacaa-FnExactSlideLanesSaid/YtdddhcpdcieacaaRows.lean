/-
  No cell of these rows narrows 'for every input' (looked for: loops, veiled, ifaces, maps, wideKeys, modest, calm, conditions, laid).
  DERIVED. THE GIVEN ROWS OF THIS SEAT. 6 by the template 'for every input the law returns true; each argument reads behind the call as it read before'; 0 by the template 'total and deterministic' (their statements: YtdddhcpdcieacaaTotals.lean).
  GIVEN WITH THE SEED: the statements are not yours to turn. If you find one false, say at which input.
  Laid BY PROGRAM, IN A SANDBOX (cutbox-rows.mjs): the forced cells as the released guide's own fill.sh prints them over the translation f77bdd46f95d7a42… (all of the seat's roots in one cut). By AI agents, Wed Nov 11 2026. No macro, syntax, notation, axiom, sorry.
-/
import Derived.Test.YtdddhcpdcieacaaChecked
import GoSem.Claim
import GoSem.ClaimJoined
import GoSem.ClaimMapViews
import Derived.JoinedTies
import Derived.KernelRfl
namespace Go.Proofs.Ytdddhcpdcieacaa
/- THE CELL 'sum', in the pinned program and in every row, IS THE sha256 OF THE DUMP (.gsa) THAT YtdddhcpdcieacaaProg.lean LOADS. Nothing in Lean hashes anything: it is a label: what it is worth is what the hold of that sum in a sandbox is worth. -/
noncomputable def Try.pinned : Pinned := { name := "ytdddhcpdcieacaa", sum := "f77bdd46f95d7a42ea15e79035bb12377ae1c690f18e8ddc74d600674a531aa3", checked := Try.checked }
namespace Rows
def none {H : Type} : Left H := { results := [], args := [] }

/-- 'laws.FnExactIsVector': WHATEVER THE INPUT: true; the input reads as it did. -/
def fnExactIsVectorSpec : ChangeSpec := { name := "fnExactIsVector", fn := fun _ => fun
  | [d1, d2] => { results := [.lit (.bool true)], args := [d1, d2] }
  | _ => none }
def fnExactIsVectorRow : OpenClaim := { program := "ytdddhcpdcieacaa", sum := "f77bdd46f95d7a42ea15e79035bb12377ae1c690f18e8ddc74d600674a531aa3", func := "loop.example/g01139/laws.FnExactIsVector", spec := "fnExactIsVector", unfollowed := true, recurses := true, apart := false }
def FnExactIsVectorSaid : Prop := fnExactIsVectorRow.holds Try.pinned (OpenSpec.ofChange fnExactIsVectorSpec)

/-- ITS FALSE NEIGHBOUR: 'it returns false'. Refute it at one input. -/
def fnExactIsVectorWrong : ChangeSpec := { name := "fnExactIsVector", fn := fun _ => fun
  | [d1, d2] => { results := [.lit (.bool false)], args := [d1, d2] }
  | _ => none }
def FnExactIsVectorWrongFalsely : Prop := fnExactIsVectorRow.holds Try.pinned (OpenSpec.ofChange fnExactIsVectorWrong)

/-- 'laws.FnExactCompareLanes': WHATEVER THE INPUT: true; the input reads as it did. -/
def fnExactCompareLanesSpec : ChangeSpec := { name := "fnExactCompareLanes", fn := fun _ => fun
  | [d1, d2, d3, d4] => { results := [.lit (.bool true)], args := [d1, d2, d3, d4] }
  | _ => none }
def fnExactCompareLanesRow : OpenClaim := { program := "ytdddhcpdcieacaa", sum := "f77bdd46f95d7a42ea15e79035bb12377ae1c690f18e8ddc74d600674a531aa3", func := "loop.example/g01139/laws.FnExactCompareLanes", spec := "fnExactCompareLanes", unfollowed := true, recurses := true, apart := false }
def FnExactCompareLanesSaid : Prop := fnExactCompareLanesRow.holds Try.pinned (OpenSpec.ofChange fnExactCompareLanesSpec)

/-- ITS FALSE NEIGHBOUR: 'it returns false'. Refute it at one input. -/
def fnExactCompareLanesWrong : ChangeSpec := { name := "fnExactCompareLanes", fn := fun _ => fun
  | [d1, d2, d3, d4] => { results := [.lit (.bool false)], args := [d1, d2, d3, d4] }
  | _ => none }
def FnExactCompareLanesWrongFalsely : Prop := fnExactCompareLanesRow.holds Try.pinned (OpenSpec.ofChange fnExactCompareLanesWrong)

/-- 'laws.FnExactSelectLanes': WHATEVER THE INPUT: true; the input reads as it did. -/
def fnExactSelectLanesSpec : ChangeSpec := { name := "fnExactSelectLanes", fn := fun _ => fun
  | [d1, d2, d3, d4] => { results := [.lit (.bool true)], args := [d1, d2, d3, d4] }
  | _ => none }
def fnExactSelectLanesRow : OpenClaim := { program := "ytdddhcpdcieacaa", sum := "f77bdd46f95d7a42ea15e79035bb12377ae1c690f18e8ddc74d600674a531aa3", func := "loop.example/g01139/laws.FnExactSelectLanes", spec := "fnExactSelectLanes", unfollowed := true, recurses := true, apart := false }
def FnExactSelectLanesSaid : Prop := fnExactSelectLanesRow.holds Try.pinned (OpenSpec.ofChange fnExactSelectLanesSpec)

/-- ITS FALSE NEIGHBOUR: 'it returns false'. Refute it at one input. -/
def fnExactSelectLanesWrong : ChangeSpec := { name := "fnExactSelectLanes", fn := fun _ => fun
  | [d1, d2, d3, d4] => { results := [.lit (.bool false)], args := [d1, d2, d3, d4] }
  | _ => none }
def FnExactSelectLanesWrongFalsely : Prop := fnExactSelectLanesRow.holds Try.pinned (OpenSpec.ofChange fnExactSelectLanesWrong)

/-- 'laws.FnExactCompressLanes': WHATEVER THE INPUT: true; the input reads as it did. -/
def fnExactCompressLanesSpec : ChangeSpec := { name := "fnExactCompressLanes", fn := fun _ => fun
  | [d1, d2, d3] => { results := [.lit (.bool true)], args := [d1, d2, d3] }
  | _ => none }
def fnExactCompressLanesRow : OpenClaim := { program := "ytdddhcpdcieacaa", sum := "f77bdd46f95d7a42ea15e79035bb12377ae1c690f18e8ddc74d600674a531aa3", func := "loop.example/g01139/laws.FnExactCompressLanes", spec := "fnExactCompressLanes", unfollowed := true, recurses := true, apart := false }
def FnExactCompressLanesSaid : Prop := fnExactCompressLanesRow.holds Try.pinned (OpenSpec.ofChange fnExactCompressLanesSpec)

/-- ITS FALSE NEIGHBOUR: 'it returns false'. Refute it at one input. -/
def fnExactCompressLanesWrong : ChangeSpec := { name := "fnExactCompressLanes", fn := fun _ => fun
  | [d1, d2, d3] => { results := [.lit (.bool false)], args := [d1, d2, d3] }
  | _ => none }
def FnExactCompressLanesWrongFalsely : Prop := fnExactCompressLanesRow.holds Try.pinned (OpenSpec.ofChange fnExactCompressLanesWrong)

/-- 'laws.FnExactExpandLanes': WHATEVER THE INPUT: true; the input reads as it did. -/
def fnExactExpandLanesSpec : ChangeSpec := { name := "fnExactExpandLanes", fn := fun _ => fun
  | [d1, d2, d3] => { results := [.lit (.bool true)], args := [d1, d2, d3] }
  | _ => none }
def fnExactExpandLanesRow : OpenClaim := { program := "ytdddhcpdcieacaa", sum := "f77bdd46f95d7a42ea15e79035bb12377ae1c690f18e8ddc74d600674a531aa3", func := "loop.example/g01139/laws.FnExactExpandLanes", spec := "fnExactExpandLanes", unfollowed := true, recurses := true, apart := false }
def FnExactExpandLanesSaid : Prop := fnExactExpandLanesRow.holds Try.pinned (OpenSpec.ofChange fnExactExpandLanesSpec)

/-- ITS FALSE NEIGHBOUR: 'it returns false'. Refute it at one input. -/
def fnExactExpandLanesWrong : ChangeSpec := { name := "fnExactExpandLanes", fn := fun _ => fun
  | [d1, d2, d3] => { results := [.lit (.bool false)], args := [d1, d2, d3] }
  | _ => none }
def FnExactExpandLanesWrongFalsely : Prop := fnExactExpandLanesRow.holds Try.pinned (OpenSpec.ofChange fnExactExpandLanesWrong)

/-- 'laws.FnExactSlideLanes': WHATEVER THE INPUT: true; the input reads as it did. -/
def fnExactSlideLanesSpec : ChangeSpec := { name := "fnExactSlideLanes", fn := fun _ => fun
  | [d1, d2, d3, d4] => { results := [.lit (.bool true)], args := [d1, d2, d3, d4] }
  | _ => none }
def fnExactSlideLanesRow : OpenClaim := { program := "ytdddhcpdcieacaa", sum := "f77bdd46f95d7a42ea15e79035bb12377ae1c690f18e8ddc74d600674a531aa3", func := "loop.example/g01139/laws.FnExactSlideLanes", spec := "fnExactSlideLanes", unfollowed := true, recurses := true, apart := false }
def FnExactSlideLanesSaid : Prop := fnExactSlideLanesRow.holds Try.pinned (OpenSpec.ofChange fnExactSlideLanesSpec)

/-- ITS FALSE NEIGHBOUR: 'it returns false'. Refute it at one input. -/
def fnExactSlideLanesWrong : ChangeSpec := { name := "fnExactSlideLanes", fn := fun _ => fun
  | [d1, d2, d3, d4] => { results := [.lit (.bool false)], args := [d1, d2, d3, d4] }
  | _ => none }
def FnExactSlideLanesWrongFalsely : Prop := fnExactSlideLanesRow.holds Try.pinned (OpenSpec.ofChange fnExactSlideLanesWrong)

/- THE SECOND FORM. 'bulk': how many values and letters a reading holds, each counted each time it is reached (what is shared counts as often as it is met; a slice's spare places count too). A statement '..UptoSaid' is the law's where the arguments, and the package variables that the reading takes, are together of bulk at most 1048576: NARROWER than '..Said'. Prove '..Said' where nothing that the law and all that it calls make is longer than what came in: it says more and counts as full. Else prove '..UptoSaid'. A law counts once. -/
mutual
def uptoBulk {H : Type} : DataW H → Nat
  | .lit (.string bytes) => bytes.length + 1
  | .lit _ => 1
  | .nil => 1
  | .ptr d => uptoBulk d + 1
  | .slice elems spare => uptoBulkAll elems + uptoBulkAll spare + 1
  | .agg parts => uptoBulkAll parts + 1
  | .iface _ d => uptoBulk d + 1
  | .map entries => uptoBulkEntries entries + 1
  | .held _ => 1
def uptoBulkAll {H : Type} : List (DataW H) → Nat
  | [] => 0
  | d :: r => uptoBulk d + uptoBulkAll r
def uptoBulkEntries {H : Type} : List (Lit × DataW H) → Nat
  | [] => 0
  | x :: r => uptoBulkEntry x + uptoBulkEntries r
def uptoBulkEntry {H : Type} : Lit × DataW H → Nat
  | (.string bytes, d) => bytes.length + uptoBulk d + 1
  | (_, d) => uptoBulk d + 1
 end
def uptoSmall : (H : Type) → List (DataW H) → Bool := fun _ ds => decide (uptoBulkAll ds ≤ 1048576)
def OpenSpec.upto (s : _root_.Go.ChangeSpec) : _root_.Go.OpenSpec := { _root_.Go.OpenSpec.ofChange s with cond := some uptoSmall }

/-- 'laws.FnExactIsVector', WHERE WHAT IT READS IS OF BULK AT MOST 1048576: true; the input reads as it did. -/
def fnExactIsVectorUptoRow : OpenClaim := { program := "ytdddhcpdcieacaa", sum := "f77bdd46f95d7a42ea15e79035bb12377ae1c690f18e8ddc74d600674a531aa3", func := "loop.example/g01139/laws.FnExactIsVector", spec := "fnExactIsVector", unfollowed := true, recurses := true, apart := false, narrowed := true }
def FnExactIsVectorUptoSaid : Prop := fnExactIsVectorUptoRow.holds Try.pinned (OpenSpec.upto fnExactIsVectorSpec)

/-- 'laws.FnExactCompareLanes', WHERE WHAT IT READS IS OF BULK AT MOST 1048576: true; the input reads as it did. -/
def fnExactCompareLanesUptoRow : OpenClaim := { program := "ytdddhcpdcieacaa", sum := "f77bdd46f95d7a42ea15e79035bb12377ae1c690f18e8ddc74d600674a531aa3", func := "loop.example/g01139/laws.FnExactCompareLanes", spec := "fnExactCompareLanes", unfollowed := true, recurses := true, apart := false, narrowed := true }
def FnExactCompareLanesUptoSaid : Prop := fnExactCompareLanesUptoRow.holds Try.pinned (OpenSpec.upto fnExactCompareLanesSpec)

/-- 'laws.FnExactSelectLanes', WHERE WHAT IT READS IS OF BULK AT MOST 1048576: true; the input reads as it did. -/
def fnExactSelectLanesUptoRow : OpenClaim := { program := "ytdddhcpdcieacaa", sum := "f77bdd46f95d7a42ea15e79035bb12377ae1c690f18e8ddc74d600674a531aa3", func := "loop.example/g01139/laws.FnExactSelectLanes", spec := "fnExactSelectLanes", unfollowed := true, recurses := true, apart := false, narrowed := true }
def FnExactSelectLanesUptoSaid : Prop := fnExactSelectLanesUptoRow.holds Try.pinned (OpenSpec.upto fnExactSelectLanesSpec)

/-- 'laws.FnExactCompressLanes', WHERE WHAT IT READS IS OF BULK AT MOST 1048576: true; the input reads as it did. -/
def fnExactCompressLanesUptoRow : OpenClaim := { program := "ytdddhcpdcieacaa", sum := "f77bdd46f95d7a42ea15e79035bb12377ae1c690f18e8ddc74d600674a531aa3", func := "loop.example/g01139/laws.FnExactCompressLanes", spec := "fnExactCompressLanes", unfollowed := true, recurses := true, apart := false, narrowed := true }
def FnExactCompressLanesUptoSaid : Prop := fnExactCompressLanesUptoRow.holds Try.pinned (OpenSpec.upto fnExactCompressLanesSpec)

/-- 'laws.FnExactExpandLanes', WHERE WHAT IT READS IS OF BULK AT MOST 1048576: true; the input reads as it did. -/
def fnExactExpandLanesUptoRow : OpenClaim := { program := "ytdddhcpdcieacaa", sum := "f77bdd46f95d7a42ea15e79035bb12377ae1c690f18e8ddc74d600674a531aa3", func := "loop.example/g01139/laws.FnExactExpandLanes", spec := "fnExactExpandLanes", unfollowed := true, recurses := true, apart := false, narrowed := true }
def FnExactExpandLanesUptoSaid : Prop := fnExactExpandLanesUptoRow.holds Try.pinned (OpenSpec.upto fnExactExpandLanesSpec)

/-- 'laws.FnExactSlideLanes', WHERE WHAT IT READS IS OF BULK AT MOST 1048576: true; the input reads as it did. -/
def fnExactSlideLanesUptoRow : OpenClaim := { program := "ytdddhcpdcieacaa", sum := "f77bdd46f95d7a42ea15e79035bb12377ae1c690f18e8ddc74d600674a531aa3", func := "loop.example/g01139/laws.FnExactSlideLanes", spec := "fnExactSlideLanes", unfollowed := true, recurses := true, apart := false, narrowed := true }
def FnExactSlideLanesUptoSaid : Prop := fnExactSlideLanesUptoRow.holds Try.pinned (OpenSpec.upto fnExactSlideLanesSpec)

end Rows
end Go.Proofs.Ytdddhcpdcieacaa
