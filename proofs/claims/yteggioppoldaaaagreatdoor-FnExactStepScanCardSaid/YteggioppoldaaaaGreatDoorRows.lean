/-
  NARROWER THAN 'FOR EVERY INPUT', by the rows' own cells (each row's printed sentence says how): FnScans: laid · FnExactLaneWise: laid · FnExactLaneWiseMasked: laid · FnExactReduceLanes: laid · FnExactScanLanes: laid · FnExactStepScan: laid.
  DERIVED. THE GIVEN ROWS OF THIS SEAT. 6 by the template 'for every input the law returns true; each argument reads behind the call as it read before'; 0 by the template 'total and deterministic' (their statements: YteggioppoldaaaaGreatDoorTotals.lean).
  GIVEN WITH THE SEED: the statements are not yours to turn. If you find one false, say at which input.
  Laid BY PROGRAM, IN A SANDBOX (cutbox-rows.mjs): the forced cells as the released guide's own fill.sh prints them over the translation 40189de69fad2412… (all of the seat's roots in one cut). By AI agents, Wed Nov 11 2026. No macro, syntax, notation, axiom, sorry.
-/
import Derived.Test.YteggioppoldaaaaGreatDoorChecked
import GoSem.Claim
import GoSem.ClaimJoined
import GoSem.ClaimMapViews
import Derived.JoinedTies
import Derived.KernelRfl
namespace Go.Proofs.YteggioppoldaaaaGreatDoor
/- THE CELL 'sum', in the pinned program and in every row, IS THE sha256 OF THE DUMP (.gsa) THAT YteggioppoldaaaaGreatDoorProg.lean LOADS. Nothing in Lean hashes anything: it is a label: what it is worth is what the hold of that sum in a sandbox is worth. -/
noncomputable def Tryz.pinned : Pinned := { name := "yteggioppoldaaaagreatdoor", sum := "40189de69fad24122950c64d4d21b3b97bf38a390cf8f20970d2f920bb79df46", checked := Tryz.checked }
namespace Rows
def none {H : Type} : Left H := { results := [], args := [] }

/- WHAT THE LISTED PACKAGE-LEVEL VARIABLES READ AS WHEN THE CALL BEGINS. Each datum BY PROGRAM (the guide's laid-datum.mjs) off the statement by which the dump's own 'gosem.cut.vars' lays the variable. In a bare row this is a premise. The card (YteggioppoldaaaaGreatDoorCards.lean) ties it to the program's text. -/
def laid_errors_errorType {H : Type} : DataW H := .iface "internal/reflectlite.rtype" (.agg [.ptr (.lit (.string [101, 114, 114, 111, 114]))])

/-- 'laws.FnScans': WHATEVER THE INPUT: true; the input reads as it did. -/
def fnScansSpec : ChangeSpec := { name := "fnScans", fn := fun _ => fun
  | [d1, d2] => { results := [.lit (.bool true)], args := [d1, d2] }
  | _ => none }
def fnScansRow : OpenClaim := { program := "yteggioppoldaaaagreatdoor", sum := "40189de69fad24122950c64d4d21b3b97bf38a390cf8f20970d2f920bb79df46", func := "loop.example/g01139/laws.FnScans", spec := "fnScans", inPlace := ["internal/reflectlite.ValueOf", "(internal/reflectlite.Value).Type", "(internal/reflectlite.Value).IsNil", "internal/reflectlite.TypeOf", "(internal/reflectlite.Value).Elem", "(internal/reflectlite.Value).Set"], unfollowed := true, recurses := true, named := ["errors.errorType"], apart := false, laid := [("errors.errorType", laid_errors_errorType)] }
def FnScansSaid : Prop := fnScansRow.holds Tryz.pinned (OpenSpec.ofChange fnScansSpec)

/-- ITS FALSE NEIGHBOUR: 'it returns false'. Refute it at one input. -/
def fnScansWrong : ChangeSpec := { name := "fnScans", fn := fun _ => fun
  | [d1, d2] => { results := [.lit (.bool false)], args := [d1, d2] }
  | _ => none }
def FnScansWrongFalsely : Prop := fnScansRow.holds Tryz.pinned (OpenSpec.ofChange fnScansWrong)

/-- 'laws.FnExactLaneWise': WHATEVER THE INPUT: true; the input reads as it did. -/
def fnExactLaneWiseSpec : ChangeSpec := { name := "fnExactLaneWise", fn := fun _ => fun
  | [d1, d2, d3, d4] => { results := [.lit (.bool true)], args := [d1, d2, d3, d4] }
  | _ => none }
def fnExactLaneWiseRow : OpenClaim := { program := "yteggioppoldaaaagreatdoor", sum := "40189de69fad24122950c64d4d21b3b97bf38a390cf8f20970d2f920bb79df46", func := "loop.example/g01139/laws.FnExactLaneWise", spec := "fnExactLaneWise", inPlace := ["internal/reflectlite.ValueOf", "(internal/reflectlite.Value).Type", "(internal/reflectlite.Value).IsNil", "internal/reflectlite.TypeOf", "(internal/reflectlite.Value).Elem", "(internal/reflectlite.Value).Set"], unfollowed := true, recurses := true, named := ["errors.errorType"], apart := false, laid := [("errors.errorType", laid_errors_errorType)] }
def FnExactLaneWiseSaid : Prop := fnExactLaneWiseRow.holds Tryz.pinned (OpenSpec.ofChange fnExactLaneWiseSpec)

/-- ITS FALSE NEIGHBOUR: 'it returns false'. Refute it at one input. -/
def fnExactLaneWiseWrong : ChangeSpec := { name := "fnExactLaneWise", fn := fun _ => fun
  | [d1, d2, d3, d4] => { results := [.lit (.bool false)], args := [d1, d2, d3, d4] }
  | _ => none }
def FnExactLaneWiseWrongFalsely : Prop := fnExactLaneWiseRow.holds Tryz.pinned (OpenSpec.ofChange fnExactLaneWiseWrong)

/-- 'laws.FnExactLaneWiseMasked': WHATEVER THE INPUT: true; the input reads as it did. -/
def fnExactLaneWiseMaskedSpec : ChangeSpec := { name := "fnExactLaneWiseMasked", fn := fun _ => fun
  | [d1, d2, d3, d4, d5, d6] => { results := [.lit (.bool true)], args := [d1, d2, d3, d4, d5, d6] }
  | _ => none }
def fnExactLaneWiseMaskedRow : OpenClaim := { program := "yteggioppoldaaaagreatdoor", sum := "40189de69fad24122950c64d4d21b3b97bf38a390cf8f20970d2f920bb79df46", func := "loop.example/g01139/laws.FnExactLaneWiseMasked", spec := "fnExactLaneWiseMasked", inPlace := ["internal/reflectlite.ValueOf", "(internal/reflectlite.Value).Type", "(internal/reflectlite.Value).IsNil", "internal/reflectlite.TypeOf", "(internal/reflectlite.Value).Elem", "(internal/reflectlite.Value).Set"], unfollowed := true, recurses := true, named := ["errors.errorType"], apart := false, laid := [("errors.errorType", laid_errors_errorType)] }
def FnExactLaneWiseMaskedSaid : Prop := fnExactLaneWiseMaskedRow.holds Tryz.pinned (OpenSpec.ofChange fnExactLaneWiseMaskedSpec)

/-- ITS FALSE NEIGHBOUR: 'it returns false'. Refute it at one input. -/
def fnExactLaneWiseMaskedWrong : ChangeSpec := { name := "fnExactLaneWiseMasked", fn := fun _ => fun
  | [d1, d2, d3, d4, d5, d6] => { results := [.lit (.bool false)], args := [d1, d2, d3, d4, d5, d6] }
  | _ => none }
def FnExactLaneWiseMaskedWrongFalsely : Prop := fnExactLaneWiseMaskedRow.holds Tryz.pinned (OpenSpec.ofChange fnExactLaneWiseMaskedWrong)

/-- 'laws.FnExactReduceLanes': WHATEVER THE INPUT: true; the input reads as it did. -/
def fnExactReduceLanesSpec : ChangeSpec := { name := "fnExactReduceLanes", fn := fun _ => fun
  | [d1, d2, d3] => { results := [.lit (.bool true)], args := [d1, d2, d3] }
  | _ => none }
def fnExactReduceLanesRow : OpenClaim := { program := "yteggioppoldaaaagreatdoor", sum := "40189de69fad24122950c64d4d21b3b97bf38a390cf8f20970d2f920bb79df46", func := "loop.example/g01139/laws.FnExactReduceLanes", spec := "fnExactReduceLanes", inPlace := ["internal/reflectlite.ValueOf", "(internal/reflectlite.Value).Type", "(internal/reflectlite.Value).IsNil", "internal/reflectlite.TypeOf", "(internal/reflectlite.Value).Elem", "(internal/reflectlite.Value).Set"], unfollowed := true, recurses := true, named := ["errors.errorType"], apart := false, laid := [("errors.errorType", laid_errors_errorType)] }
def FnExactReduceLanesSaid : Prop := fnExactReduceLanesRow.holds Tryz.pinned (OpenSpec.ofChange fnExactReduceLanesSpec)

/-- ITS FALSE NEIGHBOUR: 'it returns false'. Refute it at one input. -/
def fnExactReduceLanesWrong : ChangeSpec := { name := "fnExactReduceLanes", fn := fun _ => fun
  | [d1, d2, d3] => { results := [.lit (.bool false)], args := [d1, d2, d3] }
  | _ => none }
def FnExactReduceLanesWrongFalsely : Prop := fnExactReduceLanesRow.holds Tryz.pinned (OpenSpec.ofChange fnExactReduceLanesWrong)

/-- 'laws.FnExactScanLanes': WHATEVER THE INPUT: true; the input reads as it did. -/
def fnExactScanLanesSpec : ChangeSpec := { name := "fnExactScanLanes", fn := fun _ => fun
  | [d1, d2, d3] => { results := [.lit (.bool true)], args := [d1, d2, d3] }
  | _ => none }
def fnExactScanLanesRow : OpenClaim := { program := "yteggioppoldaaaagreatdoor", sum := "40189de69fad24122950c64d4d21b3b97bf38a390cf8f20970d2f920bb79df46", func := "loop.example/g01139/laws.FnExactScanLanes", spec := "fnExactScanLanes", inPlace := ["internal/reflectlite.ValueOf", "(internal/reflectlite.Value).Type", "(internal/reflectlite.Value).IsNil", "internal/reflectlite.TypeOf", "(internal/reflectlite.Value).Elem", "(internal/reflectlite.Value).Set"], unfollowed := true, recurses := true, named := ["errors.errorType"], apart := false, laid := [("errors.errorType", laid_errors_errorType)] }
def FnExactScanLanesSaid : Prop := fnExactScanLanesRow.holds Tryz.pinned (OpenSpec.ofChange fnExactScanLanesSpec)

/-- ITS FALSE NEIGHBOUR: 'it returns false'. Refute it at one input. -/
def fnExactScanLanesWrong : ChangeSpec := { name := "fnExactScanLanes", fn := fun _ => fun
  | [d1, d2, d3] => { results := [.lit (.bool false)], args := [d1, d2, d3] }
  | _ => none }
def FnExactScanLanesWrongFalsely : Prop := fnExactScanLanesRow.holds Tryz.pinned (OpenSpec.ofChange fnExactScanLanesWrong)

/-- 'laws.FnExactStepScan': WHATEVER THE INPUT: true; the input reads as it did. -/
def fnExactStepScanSpec : ChangeSpec := { name := "fnExactStepScan", fn := fun _ => fun
  | [d1, d2, d3] => { results := [.lit (.bool true)], args := [d1, d2, d3] }
  | _ => none }
def fnExactStepScanRow : OpenClaim := { program := "yteggioppoldaaaagreatdoor", sum := "40189de69fad24122950c64d4d21b3b97bf38a390cf8f20970d2f920bb79df46", func := "loop.example/g01139/laws.FnExactStepScan", spec := "fnExactStepScan", inPlace := ["internal/reflectlite.ValueOf", "(internal/reflectlite.Value).Type", "(internal/reflectlite.Value).IsNil", "internal/reflectlite.TypeOf", "(internal/reflectlite.Value).Elem", "(internal/reflectlite.Value).Set"], unfollowed := true, recurses := true, named := ["errors.errorType"], apart := false, laid := [("errors.errorType", laid_errors_errorType)] }
def FnExactStepScanSaid : Prop := fnExactStepScanRow.holds Tryz.pinned (OpenSpec.ofChange fnExactStepScanSpec)

/-- ITS FALSE NEIGHBOUR: 'it returns false'. Refute it at one input. -/
def fnExactStepScanWrong : ChangeSpec := { name := "fnExactStepScan", fn := fun _ => fun
  | [d1, d2, d3] => { results := [.lit (.bool false)], args := [d1, d2, d3] }
  | _ => none }
def FnExactStepScanWrongFalsely : Prop := fnExactStepScanRow.holds Tryz.pinned (OpenSpec.ofChange fnExactStepScanWrong)

/- THE SECOND FORM. 'bulk': how many values and letters a reading holds, each counted each time it is reached (what is shared counts as often as it is met; a slice's spare places count too). A statement '..UptoSaid' is the law's where the arguments, and the package variables that the reading takes, are together of bulk at most 1048576: NARROWER than '..Said'. Prove '..Said' where nothing that the law and all that it calls make is longer than what came in: it says more and counts as full. Else prove '..UptoSaid'. A law counts once. -/
mutual
def uptoBulk {H : Type} : DataW H → Nat
  | .lit (.string bytes) => bytes.length + 1
  | .lit _ => 1
  | .nil => 1
  | .ptr d => uptoBulk d + 1
  | .slice elems spare => uptoBulkAll elems + uptoBulkAll spare + 1
  | .agg parts => uptoBulkAll parts + 1
  | .iface _ d => uptoBulk d + 1
  | .map entries => uptoBulkEntries entries + 1
  | .held _ => 1
def uptoBulkAll {H : Type} : List (DataW H) → Nat
  | [] => 0
  | d :: r => uptoBulk d + uptoBulkAll r
def uptoBulkEntries {H : Type} : List (Lit × DataW H) → Nat
  | [] => 0
  | x :: r => uptoBulkEntry x + uptoBulkEntries r
def uptoBulkEntry {H : Type} : Lit × DataW H → Nat
  | (.string bytes, d) => bytes.length + uptoBulk d + 1
  | (_, d) => uptoBulk d + 1
 end
def uptoSmall : (H : Type) → List (DataW H) → Bool := fun _ ds => decide (uptoBulkAll ds ≤ 1048576)
def OpenSpec.upto (s : _root_.Go.ChangeSpec) : _root_.Go.OpenSpec := { _root_.Go.OpenSpec.ofChange s with cond := some uptoSmall }

/-- 'laws.FnScans', WHERE WHAT IT READS IS OF BULK AT MOST 1048576: true; the input reads as it did. -/
def fnScansUptoRow : OpenClaim := { program := "yteggioppoldaaaagreatdoor", sum := "40189de69fad24122950c64d4d21b3b97bf38a390cf8f20970d2f920bb79df46", func := "loop.example/g01139/laws.FnScans", spec := "fnScans", inPlace := ["internal/reflectlite.ValueOf", "(internal/reflectlite.Value).Type", "(internal/reflectlite.Value).IsNil", "internal/reflectlite.TypeOf", "(internal/reflectlite.Value).Elem", "(internal/reflectlite.Value).Set"], unfollowed := true, recurses := true, named := ["errors.errorType"], apart := false, laid := [("errors.errorType", laid_errors_errorType)], narrowed := true }
def FnScansUptoSaid : Prop := fnScansUptoRow.holds Tryz.pinned (OpenSpec.upto fnScansSpec)

/-- 'laws.FnExactLaneWise', WHERE WHAT IT READS IS OF BULK AT MOST 1048576: true; the input reads as it did. -/
def fnExactLaneWiseUptoRow : OpenClaim := { program := "yteggioppoldaaaagreatdoor", sum := "40189de69fad24122950c64d4d21b3b97bf38a390cf8f20970d2f920bb79df46", func := "loop.example/g01139/laws.FnExactLaneWise", spec := "fnExactLaneWise", inPlace := ["internal/reflectlite.ValueOf", "(internal/reflectlite.Value).Type", "(internal/reflectlite.Value).IsNil", "internal/reflectlite.TypeOf", "(internal/reflectlite.Value).Elem", "(internal/reflectlite.Value).Set"], unfollowed := true, recurses := true, named := ["errors.errorType"], apart := false, laid := [("errors.errorType", laid_errors_errorType)], narrowed := true }
def FnExactLaneWiseUptoSaid : Prop := fnExactLaneWiseUptoRow.holds Tryz.pinned (OpenSpec.upto fnExactLaneWiseSpec)

/-- 'laws.FnExactLaneWiseMasked', WHERE WHAT IT READS IS OF BULK AT MOST 1048576: true; the input reads as it did. -/
def fnExactLaneWiseMaskedUptoRow : OpenClaim := { program := "yteggioppoldaaaagreatdoor", sum := "40189de69fad24122950c64d4d21b3b97bf38a390cf8f20970d2f920bb79df46", func := "loop.example/g01139/laws.FnExactLaneWiseMasked", spec := "fnExactLaneWiseMasked", inPlace := ["internal/reflectlite.ValueOf", "(internal/reflectlite.Value).Type", "(internal/reflectlite.Value).IsNil", "internal/reflectlite.TypeOf", "(internal/reflectlite.Value).Elem", "(internal/reflectlite.Value).Set"], unfollowed := true, recurses := true, named := ["errors.errorType"], apart := false, laid := [("errors.errorType", laid_errors_errorType)], narrowed := true }
def FnExactLaneWiseMaskedUptoSaid : Prop := fnExactLaneWiseMaskedUptoRow.holds Tryz.pinned (OpenSpec.upto fnExactLaneWiseMaskedSpec)

/-- 'laws.FnExactReduceLanes', WHERE WHAT IT READS IS OF BULK AT MOST 1048576: true; the input reads as it did. -/
def fnExactReduceLanesUptoRow : OpenClaim := { program := "yteggioppoldaaaagreatdoor", sum := "40189de69fad24122950c64d4d21b3b97bf38a390cf8f20970d2f920bb79df46", func := "loop.example/g01139/laws.FnExactReduceLanes", spec := "fnExactReduceLanes", inPlace := ["internal/reflectlite.ValueOf", "(internal/reflectlite.Value).Type", "(internal/reflectlite.Value).IsNil", "internal/reflectlite.TypeOf", "(internal/reflectlite.Value).Elem", "(internal/reflectlite.Value).Set"], unfollowed := true, recurses := true, named := ["errors.errorType"], apart := false, laid := [("errors.errorType", laid_errors_errorType)], narrowed := true }
def FnExactReduceLanesUptoSaid : Prop := fnExactReduceLanesUptoRow.holds Tryz.pinned (OpenSpec.upto fnExactReduceLanesSpec)

/-- 'laws.FnExactScanLanes', WHERE WHAT IT READS IS OF BULK AT MOST 1048576: true; the input reads as it did. -/
def fnExactScanLanesUptoRow : OpenClaim := { program := "yteggioppoldaaaagreatdoor", sum := "40189de69fad24122950c64d4d21b3b97bf38a390cf8f20970d2f920bb79df46", func := "loop.example/g01139/laws.FnExactScanLanes", spec := "fnExactScanLanes", inPlace := ["internal/reflectlite.ValueOf", "(internal/reflectlite.Value).Type", "(internal/reflectlite.Value).IsNil", "internal/reflectlite.TypeOf", "(internal/reflectlite.Value).Elem", "(internal/reflectlite.Value).Set"], unfollowed := true, recurses := true, named := ["errors.errorType"], apart := false, laid := [("errors.errorType", laid_errors_errorType)], narrowed := true }
def FnExactScanLanesUptoSaid : Prop := fnExactScanLanesUptoRow.holds Tryz.pinned (OpenSpec.upto fnExactScanLanesSpec)

/-- 'laws.FnExactStepScan', WHERE WHAT IT READS IS OF BULK AT MOST 1048576: true; the input reads as it did. -/
def fnExactStepScanUptoRow : OpenClaim := { program := "yteggioppoldaaaagreatdoor", sum := "40189de69fad24122950c64d4d21b3b97bf38a390cf8f20970d2f920bb79df46", func := "loop.example/g01139/laws.FnExactStepScan", spec := "fnExactStepScan", inPlace := ["internal/reflectlite.ValueOf", "(internal/reflectlite.Value).Type", "(internal/reflectlite.Value).IsNil", "internal/reflectlite.TypeOf", "(internal/reflectlite.Value).Elem", "(internal/reflectlite.Value).Set"], unfollowed := true, recurses := true, named := ["errors.errorType"], apart := false, laid := [("errors.errorType", laid_errors_errorType)], narrowed := true }
def FnExactStepScanUptoSaid : Prop := fnExactStepScanUptoRow.holds Tryz.pinned (OpenSpec.upto fnExactStepScanSpec)

end Rows
end Go.Proofs.YteggioppoldaaaaGreatDoor
