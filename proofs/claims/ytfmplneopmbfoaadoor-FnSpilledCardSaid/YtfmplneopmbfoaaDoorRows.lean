/-
  NARROWER THAN 'FOR EVERY INPUT', by the rows' own cells (each row's printed sentence says how): FnAssigned: laid · FnSpilled: laid · FnExactAssignRegisters: laid · FnExactFewestSpills: laid.
  DERIVED. THE GIVEN ROWS OF THIS SEAT. 4 by the template 'for every input the law returns true; each argument reads behind the call as it read before'; 0 by the template 'total and deterministic' (their statements: YtfmplneopmbfoaaDoorTotals.lean).
  GIVEN WITH THE SEED: the statements are not yours to turn. If you find one false, say at which input.
  Laid BY PROGRAM, IN A SANDBOX (cutbox-rows.mjs): the forced cells as the released guide's own fill.sh prints them over the translation b1fa3d2a3e9cc21b… (all of the seat's roots in one cut). By AI agents, Wed Nov 11 2026. No macro, syntax, notation, axiom, sorry.
-/
import Derived.Test.YtfmplneopmbfoaaDoorChecked
import GoSem.Claim
import GoSem.ClaimJoined
import GoSem.ClaimMapViews
import Derived.JoinedTies
import Derived.KernelRfl
namespace Go.Proofs.YtfmplneopmbfoaaDoor
/- THE CELL 'sum', in the pinned program and in every row, IS THE sha256 OF THE DUMP (.gsa) THAT YtfmplneopmbfoaaDoorProg.lean LOADS. Nothing in Lean hashes anything: it is a label: what it is worth is what the hold of that sum in a sandbox is worth. -/
noncomputable def Tryd.pinned : Pinned := { name := "ytfmplneopmbfoaadoor", sum := "b1fa3d2a3e9cc21bff204b388689a1b73f96adf4784276864f3e7f00e006e3c2", checked := Tryd.checked }
namespace Rows
def none {H : Type} : Left H := { results := [], args := [] }

/- WHAT THE LISTED PACKAGE-LEVEL VARIABLES READ AS WHEN THE CALL BEGINS. Each datum BY PROGRAM (the guide's laid-datum.mjs) off the statement by which the dump's own 'gosem.cut.vars' lays the variable. In a bare row this is a premise. The card (YtfmplneopmbfoaaDoorCards.lean) ties it to the program's text. -/
def laid_math_bits_deBruijn32tab {H : Type} : DataW H := .agg [.lit (.int .u8 0), .lit (.int .u8 1), .lit (.int .u8 28), .lit (.int .u8 2), .lit (.int .u8 29), .lit (.int .u8 14), .lit (.int .u8 24), .lit (.int .u8 3), .lit (.int .u8 30), .lit (.int .u8 22), .lit (.int .u8 20), .lit (.int .u8 15), .lit (.int .u8 25), .lit (.int .u8 17), .lit (.int .u8 4), .lit (.int .u8 8), .lit (.int .u8 31), .lit (.int .u8 27), .lit (.int .u8 13), .lit (.int .u8 23), .lit (.int .u8 21), .lit (.int .u8 19), .lit (.int .u8 16), .lit (.int .u8 7), .lit (.int .u8 26), .lit (.int .u8 12), .lit (.int .u8 18), .lit (.int .u8 6), .lit (.int .u8 11), .lit (.int .u8 5), .lit (.int .u8 10), .lit (.int .u8 9)]

/-- 'laws.FnAssigned': WHATEVER THE INPUT: true; the input reads as it did. -/
def fnAssignedSpec : ChangeSpec := { name := "fnAssigned", fn := fun _ => fun
  | [d1, d2] => { results := [.lit (.bool true)], args := [d1, d2] }
  | _ => none }
def fnAssignedRow : OpenClaim := { program := "ytfmplneopmbfoaadoor", sum := "b1fa3d2a3e9cc21bff204b388689a1b73f96adf4784276864f3e7f00e006e3c2", func := "loop.example/g01139/laws.FnAssigned", spec := "fnAssigned", unfollowed := true, recurses := true, named := ["math/bits.deBruijn32tab"], apart := false, laid := [("math/bits.deBruijn32tab", laid_math_bits_deBruijn32tab)] }
def FnAssignedSaid : Prop := fnAssignedRow.holds Tryd.pinned (OpenSpec.ofChange fnAssignedSpec)

/-- ITS FALSE NEIGHBOUR: 'it returns false'. Refute it at one input. -/
def fnAssignedWrong : ChangeSpec := { name := "fnAssigned", fn := fun _ => fun
  | [d1, d2] => { results := [.lit (.bool false)], args := [d1, d2] }
  | _ => none }
def FnAssignedWrongFalsely : Prop := fnAssignedRow.holds Tryd.pinned (OpenSpec.ofChange fnAssignedWrong)

/-- 'laws.FnSpilled': WHATEVER THE INPUT: true; the input reads as it did. -/
def fnSpilledSpec : ChangeSpec := { name := "fnSpilled", fn := fun _ => fun
  | [d1, d2] => { results := [.lit (.bool true)], args := [d1, d2] }
  | _ => none }
def fnSpilledRow : OpenClaim := { program := "ytfmplneopmbfoaadoor", sum := "b1fa3d2a3e9cc21bff204b388689a1b73f96adf4784276864f3e7f00e006e3c2", func := "loop.example/g01139/laws.FnSpilled", spec := "fnSpilled", unfollowed := true, recurses := true, named := ["math/bits.deBruijn32tab"], apart := false, laid := [("math/bits.deBruijn32tab", laid_math_bits_deBruijn32tab)] }
def FnSpilledSaid : Prop := fnSpilledRow.holds Tryd.pinned (OpenSpec.ofChange fnSpilledSpec)

/-- ITS FALSE NEIGHBOUR: 'it returns false'. Refute it at one input. -/
def fnSpilledWrong : ChangeSpec := { name := "fnSpilled", fn := fun _ => fun
  | [d1, d2] => { results := [.lit (.bool false)], args := [d1, d2] }
  | _ => none }
def FnSpilledWrongFalsely : Prop := fnSpilledRow.holds Tryd.pinned (OpenSpec.ofChange fnSpilledWrong)

/-- 'laws.FnExactAssignRegisters': WHATEVER THE INPUT: true; the input reads as it did. -/
def fnExactAssignRegistersSpec : ChangeSpec := { name := "fnExactAssignRegisters", fn := fun _ => fun
  | [d1, d2] => { results := [.lit (.bool true)], args := [d1, d2] }
  | _ => none }
def fnExactAssignRegistersRow : OpenClaim := { program := "ytfmplneopmbfoaadoor", sum := "b1fa3d2a3e9cc21bff204b388689a1b73f96adf4784276864f3e7f00e006e3c2", func := "loop.example/g01139/laws.FnExactAssignRegisters", spec := "fnExactAssignRegisters", unfollowed := true, recurses := true, named := ["math/bits.deBruijn32tab"], apart := false, laid := [("math/bits.deBruijn32tab", laid_math_bits_deBruijn32tab)] }
def FnExactAssignRegistersSaid : Prop := fnExactAssignRegistersRow.holds Tryd.pinned (OpenSpec.ofChange fnExactAssignRegistersSpec)

/-- ITS FALSE NEIGHBOUR: 'it returns false'. Refute it at one input. -/
def fnExactAssignRegistersWrong : ChangeSpec := { name := "fnExactAssignRegisters", fn := fun _ => fun
  | [d1, d2] => { results := [.lit (.bool false)], args := [d1, d2] }
  | _ => none }
def FnExactAssignRegistersWrongFalsely : Prop := fnExactAssignRegistersRow.holds Tryd.pinned (OpenSpec.ofChange fnExactAssignRegistersWrong)

/-- 'laws.FnExactFewestSpills': WHATEVER THE INPUT: true; the input reads as it did. -/
def fnExactFewestSpillsSpec : ChangeSpec := { name := "fnExactFewestSpills", fn := fun _ => fun
  | [d1, d2] => { results := [.lit (.bool true)], args := [d1, d2] }
  | _ => none }
def fnExactFewestSpillsRow : OpenClaim := { program := "ytfmplneopmbfoaadoor", sum := "b1fa3d2a3e9cc21bff204b388689a1b73f96adf4784276864f3e7f00e006e3c2", func := "loop.example/g01139/laws.FnExactFewestSpills", spec := "fnExactFewestSpills", unfollowed := true, recurses := true, named := ["math/bits.deBruijn32tab"], apart := false, laid := [("math/bits.deBruijn32tab", laid_math_bits_deBruijn32tab)] }
def FnExactFewestSpillsSaid : Prop := fnExactFewestSpillsRow.holds Tryd.pinned (OpenSpec.ofChange fnExactFewestSpillsSpec)

/-- ITS FALSE NEIGHBOUR: 'it returns false'. Refute it at one input. -/
def fnExactFewestSpillsWrong : ChangeSpec := { name := "fnExactFewestSpills", fn := fun _ => fun
  | [d1, d2] => { results := [.lit (.bool false)], args := [d1, d2] }
  | _ => none }
def FnExactFewestSpillsWrongFalsely : Prop := fnExactFewestSpillsRow.holds Tryd.pinned (OpenSpec.ofChange fnExactFewestSpillsWrong)

/- THE SECOND FORM. 'bulk': how many values and letters a reading holds, each counted each time it is reached (what is shared counts as often as it is met; a slice's spare places count too). A statement '..UptoSaid' is the law's where the arguments, and the package variables that the reading takes, are together of bulk at most 1048576: NARROWER than '..Said'. Prove '..Said' where nothing that the law and all that it calls make is longer than what came in: it says more and counts as full. Else prove '..UptoSaid'. A law counts once. -/
mutual
def uptoBulk {H : Type} : DataW H → Nat
  | .lit (.string bytes) => bytes.length + 1
  | .lit _ => 1
  | .nil => 1
  | .ptr d => uptoBulk d + 1
  | .slice elems spare => uptoBulkAll elems + uptoBulkAll spare + 1
  | .agg parts => uptoBulkAll parts + 1
  | .iface _ d => uptoBulk d + 1
  | .map entries => uptoBulkEntries entries + 1
  | .held _ => 1
def uptoBulkAll {H : Type} : List (DataW H) → Nat
  | [] => 0
  | d :: r => uptoBulk d + uptoBulkAll r
def uptoBulkEntries {H : Type} : List (Lit × DataW H) → Nat
  | [] => 0
  | x :: r => uptoBulkEntry x + uptoBulkEntries r
def uptoBulkEntry {H : Type} : Lit × DataW H → Nat
  | (.string bytes, d) => bytes.length + uptoBulk d + 1
  | (_, d) => uptoBulk d + 1
 end
def uptoSmall : (H : Type) → List (DataW H) → Bool := fun _ ds => decide (uptoBulkAll ds ≤ 1048576)
def OpenSpec.upto (s : _root_.Go.ChangeSpec) : _root_.Go.OpenSpec := { _root_.Go.OpenSpec.ofChange s with cond := some uptoSmall }

/-- 'laws.FnAssigned', WHERE WHAT IT READS IS OF BULK AT MOST 1048576: true; the input reads as it did. -/
def fnAssignedUptoRow : OpenClaim := { program := "ytfmplneopmbfoaadoor", sum := "b1fa3d2a3e9cc21bff204b388689a1b73f96adf4784276864f3e7f00e006e3c2", func := "loop.example/g01139/laws.FnAssigned", spec := "fnAssigned", unfollowed := true, recurses := true, named := ["math/bits.deBruijn32tab"], apart := false, laid := [("math/bits.deBruijn32tab", laid_math_bits_deBruijn32tab)], narrowed := true }
def FnAssignedUptoSaid : Prop := fnAssignedUptoRow.holds Tryd.pinned (OpenSpec.upto fnAssignedSpec)

/-- 'laws.FnSpilled', WHERE WHAT IT READS IS OF BULK AT MOST 1048576: true; the input reads as it did. -/
def fnSpilledUptoRow : OpenClaim := { program := "ytfmplneopmbfoaadoor", sum := "b1fa3d2a3e9cc21bff204b388689a1b73f96adf4784276864f3e7f00e006e3c2", func := "loop.example/g01139/laws.FnSpilled", spec := "fnSpilled", unfollowed := true, recurses := true, named := ["math/bits.deBruijn32tab"], apart := false, laid := [("math/bits.deBruijn32tab", laid_math_bits_deBruijn32tab)], narrowed := true }
def FnSpilledUptoSaid : Prop := fnSpilledUptoRow.holds Tryd.pinned (OpenSpec.upto fnSpilledSpec)

/-- 'laws.FnExactAssignRegisters', WHERE WHAT IT READS IS OF BULK AT MOST 1048576: true; the input reads as it did. -/
def fnExactAssignRegistersUptoRow : OpenClaim := { program := "ytfmplneopmbfoaadoor", sum := "b1fa3d2a3e9cc21bff204b388689a1b73f96adf4784276864f3e7f00e006e3c2", func := "loop.example/g01139/laws.FnExactAssignRegisters", spec := "fnExactAssignRegisters", unfollowed := true, recurses := true, named := ["math/bits.deBruijn32tab"], apart := false, laid := [("math/bits.deBruijn32tab", laid_math_bits_deBruijn32tab)], narrowed := true }
def FnExactAssignRegistersUptoSaid : Prop := fnExactAssignRegistersUptoRow.holds Tryd.pinned (OpenSpec.upto fnExactAssignRegistersSpec)

/-- 'laws.FnExactFewestSpills', WHERE WHAT IT READS IS OF BULK AT MOST 1048576: true; the input reads as it did. -/
def fnExactFewestSpillsUptoRow : OpenClaim := { program := "ytfmplneopmbfoaadoor", sum := "b1fa3d2a3e9cc21bff204b388689a1b73f96adf4784276864f3e7f00e006e3c2", func := "loop.example/g01139/laws.FnExactFewestSpills", spec := "fnExactFewestSpills", unfollowed := true, recurses := true, named := ["math/bits.deBruijn32tab"], apart := false, laid := [("math/bits.deBruijn32tab", laid_math_bits_deBruijn32tab)], narrowed := true }
def FnExactFewestSpillsUptoSaid : Prop := fnExactFewestSpillsUptoRow.holds Tryd.pinned (OpenSpec.upto fnExactFewestSpillsSpec)

end Rows
end Go.Proofs.YtfmplneopmbfoaaDoor
