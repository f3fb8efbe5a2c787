/-
  No cell of these rows narrows 'for every input' (looked for: loops, veiled, ifaces, maps, wideKeys, modest, calm, conditions, laid).
  DERIVED. THE GIVEN ROWS OF THIS SEAT. 6 by the template 'for every input the law returns true; each argument reads behind the call as it read before'; 0 by the template 'total and deterministic' (their statements: YtbaiaahdjkjjoaaTotals.lean).
  GIVEN WITH THE SEED: the statements are not yours to turn. If you find one false, say at which input.
  Laid BY PROGRAM, IN A SANDBOX (cutbox-rows.mjs): the forced cells as the released guide's own fill.sh prints them over the translation 3c413cc258d84051… (all of the seat's roots in one cut). By AI agents, Wed Nov 11 2026. No macro, syntax, notation, axiom, sorry.
-/
import Derived.Test.YtbaiaahdjkjjoaaChecked
import GoSem.Claim
import GoSem.ClaimJoined
import GoSem.ClaimMapViews
import Derived.JoinedTies
import Derived.KernelRfl
namespace Go.Proofs.Ytbaiaahdjkjjoaa
/- THE CELL 'sum', in the pinned program and in every row, IS THE sha256 OF THE DUMP (.gsa) THAT YtbaiaahdjkjjoaaProg.lean LOADS. Nothing in Lean hashes anything: it is a label: what it is worth is what the hold of that sum in a sandbox is worth. -/
noncomputable def Try.pinned : Pinned := { name := "ytbaiaahdjkjjoaa", sum := "3c413cc258d840514a2fb8cdfab9eb4342dfa4230bc74e623f6f9d0f767da79d", checked := Try.checked }
namespace Rows
def none {H : Type} : Left H := { results := [], args := [] }

/-- 'laws.FnCountedOrders': WHATEVER THE INPUT: true; the input reads as it did. -/
def fnCountedOrdersSpec : ChangeSpec := { name := "fnCountedOrders", fn := fun _ => fun
  | [d1, d2] => { results := [.lit (.bool true)], args := [d1, d2] }
  | _ => none }
def fnCountedOrdersRow : OpenClaim := { program := "ytbaiaahdjkjjoaa", sum := "3c413cc258d840514a2fb8cdfab9eb4342dfa4230bc74e623f6f9d0f767da79d", func := "loop.example/g01139/laws.FnCountedOrders", spec := "fnCountedOrders", unfollowed := true, recurses := true, apart := false }
def FnCountedOrdersSaid : Prop := fnCountedOrdersRow.holds Try.pinned (OpenSpec.ofChange fnCountedOrdersSpec)

/-- ITS FALSE NEIGHBOUR: 'it returns false'. Refute it at one input. -/
def fnCountedOrdersWrong : ChangeSpec := { name := "fnCountedOrders", fn := fun _ => fun
  | [d1, d2] => { results := [.lit (.bool false)], args := [d1, d2] }
  | _ => none }
def FnCountedOrdersWrongFalsely : Prop := fnCountedOrdersRow.holds Try.pinned (OpenSpec.ofChange fnCountedOrdersWrong)

/-- 'laws.FnExactValidCode': WHATEVER THE INPUT: true; the input reads as it did. -/
def fnExactValidCodeSpec : ChangeSpec := { name := "fnExactValidCode", fn := fun _ => fun
  | [d] => { results := [.lit (.bool true)], args := [d] }
  | _ => none }
def fnExactValidCodeRow : OpenClaim := { program := "ytbaiaahdjkjjoaa", sum := "3c413cc258d840514a2fb8cdfab9eb4342dfa4230bc74e623f6f9d0f767da79d", func := "loop.example/g01139/laws.FnExactValidCode", spec := "fnExactValidCode", unfollowed := true, recurses := true, apart := false }
def FnExactValidCodeSaid : Prop := fnExactValidCodeRow.holds Try.pinned (OpenSpec.ofChange fnExactValidCodeSpec)

/-- ITS FALSE NEIGHBOUR: 'it returns false'. Refute it at one input. -/
def fnExactValidCodeWrong : ChangeSpec := { name := "fnExactValidCode", fn := fun _ => fun
  | [d] => { results := [.lit (.bool false)], args := [d] }
  | _ => none }
def FnExactValidCodeWrongFalsely : Prop := fnExactValidCodeRow.holds Try.pinned (OpenSpec.ofChange fnExactValidCodeWrong)

/-- 'laws.FnExactMustFollow': WHATEVER THE INPUT: true; the input reads as it did. -/
def fnExactMustFollowSpec : ChangeSpec := { name := "fnExactMustFollow", fn := fun _ => fun
  | [d1, d2, d3] => { results := [.lit (.bool true)], args := [d1, d2, d3] }
  | _ => none }
def fnExactMustFollowRow : OpenClaim := { program := "ytbaiaahdjkjjoaa", sum := "3c413cc258d840514a2fb8cdfab9eb4342dfa4230bc74e623f6f9d0f767da79d", func := "loop.example/g01139/laws.FnExactMustFollow", spec := "fnExactMustFollow", unfollowed := true, recurses := true, apart := false }
def FnExactMustFollowSaid : Prop := fnExactMustFollowRow.holds Try.pinned (OpenSpec.ofChange fnExactMustFollowSpec)

/-- ITS FALSE NEIGHBOUR: 'it returns false'. Refute it at one input. -/
def fnExactMustFollowWrong : ChangeSpec := { name := "fnExactMustFollow", fn := fun _ => fun
  | [d1, d2, d3] => { results := [.lit (.bool false)], args := [d1, d2, d3] }
  | _ => none }
def FnExactMustFollowWrongFalsely : Prop := fnExactMustFollowRow.holds Try.pinned (OpenSpec.ofChange fnExactMustFollowWrong)

/-- 'laws.FnExactIsOrder': WHATEVER THE INPUT: true; the input reads as it did. -/
def fnExactIsOrderSpec : ChangeSpec := { name := "fnExactIsOrder", fn := fun _ => fun
  | [d1, d2] => { results := [.lit (.bool true)], args := [d1, d2] }
  | _ => none }
def fnExactIsOrderRow : OpenClaim := { program := "ytbaiaahdjkjjoaa", sum := "3c413cc258d840514a2fb8cdfab9eb4342dfa4230bc74e623f6f9d0f767da79d", func := "loop.example/g01139/laws.FnExactIsOrder", spec := "fnExactIsOrder", unfollowed := true, recurses := true, apart := false }
def FnExactIsOrderSaid : Prop := fnExactIsOrderRow.holds Try.pinned (OpenSpec.ofChange fnExactIsOrderSpec)

/-- ITS FALSE NEIGHBOUR: 'it returns false'. Refute it at one input. -/
def fnExactIsOrderWrong : ChangeSpec := { name := "fnExactIsOrder", fn := fun _ => fun
  | [d1, d2] => { results := [.lit (.bool false)], args := [d1, d2] }
  | _ => none }
def FnExactIsOrderWrongFalsely : Prop := fnExactIsOrderRow.holds Try.pinned (OpenSpec.ofChange fnExactIsOrderWrong)

/-- 'laws.FnExactReorderCode': WHATEVER THE INPUT: true; the input reads as it did. -/
def fnExactReorderCodeSpec : ChangeSpec := { name := "fnExactReorderCode", fn := fun _ => fun
  | [d1, d2] => { results := [.lit (.bool true)], args := [d1, d2] }
  | _ => none }
def fnExactReorderCodeRow : OpenClaim := { program := "ytbaiaahdjkjjoaa", sum := "3c413cc258d840514a2fb8cdfab9eb4342dfa4230bc74e623f6f9d0f767da79d", func := "loop.example/g01139/laws.FnExactReorderCode", spec := "fnExactReorderCode", unfollowed := true, recurses := true, apart := false }
def FnExactReorderCodeSaid : Prop := fnExactReorderCodeRow.holds Try.pinned (OpenSpec.ofChange fnExactReorderCodeSpec)

/-- ITS FALSE NEIGHBOUR: 'it returns false'. Refute it at one input. -/
def fnExactReorderCodeWrong : ChangeSpec := { name := "fnExactReorderCode", fn := fun _ => fun
  | [d1, d2] => { results := [.lit (.bool false)], args := [d1, d2] }
  | _ => none }
def FnExactReorderCodeWrongFalsely : Prop := fnExactReorderCodeRow.holds Try.pinned (OpenSpec.ofChange fnExactReorderCodeWrong)

/-- 'laws.FnExactCountOrders': WHATEVER THE INPUT: true; the input reads as it did. -/
def fnExactCountOrdersSpec : ChangeSpec := { name := "fnExactCountOrders", fn := fun _ => fun
  | [d] => { results := [.lit (.bool true)], args := [d] }
  | _ => none }
def fnExactCountOrdersRow : OpenClaim := { program := "ytbaiaahdjkjjoaa", sum := "3c413cc258d840514a2fb8cdfab9eb4342dfa4230bc74e623f6f9d0f767da79d", func := "loop.example/g01139/laws.FnExactCountOrders", spec := "fnExactCountOrders", unfollowed := true, recurses := true, apart := false }
def FnExactCountOrdersSaid : Prop := fnExactCountOrdersRow.holds Try.pinned (OpenSpec.ofChange fnExactCountOrdersSpec)

/-- ITS FALSE NEIGHBOUR: 'it returns false'. Refute it at one input. -/
def fnExactCountOrdersWrong : ChangeSpec := { name := "fnExactCountOrders", fn := fun _ => fun
  | [d] => { results := [.lit (.bool false)], args := [d] }
  | _ => none }
def FnExactCountOrdersWrongFalsely : Prop := fnExactCountOrdersRow.holds Try.pinned (OpenSpec.ofChange fnExactCountOrdersWrong)

/- THE SECOND FORM. 'bulk': how many values and letters a reading holds, each counted each time it is reached (what is shared counts as often as it is met; a slice's spare places count too). A statement '..UptoSaid' is the law's where the arguments, and the package variables that the reading takes, are together of bulk at most 1048576: NARROWER than '..Said'. Prove '..Said' where nothing that the law and all that it calls make is longer than what came in: it says more and counts as full. Else prove '..UptoSaid'. A law counts once. -/
mutual
def uptoBulk {H : Type} : DataW H → Nat
  | .lit (.string bytes) => bytes.length + 1
  | .lit _ => 1
  | .nil => 1
  | .ptr d => uptoBulk d + 1
  | .slice elems spare => uptoBulkAll elems + uptoBulkAll spare + 1
  | .agg parts => uptoBulkAll parts + 1
  | .iface _ d => uptoBulk d + 1
  | .map entries => uptoBulkEntries entries + 1
  | .held _ => 1
def uptoBulkAll {H : Type} : List (DataW H) → Nat
  | [] => 0
  | d :: r => uptoBulk d + uptoBulkAll r
def uptoBulkEntries {H : Type} : List (Lit × DataW H) → Nat
  | [] => 0
  | x :: r => uptoBulkEntry x + uptoBulkEntries r
def uptoBulkEntry {H : Type} : Lit × DataW H → Nat
  | (.string bytes, d) => bytes.length + uptoBulk d + 1
  | (_, d) => uptoBulk d + 1
 end
def uptoSmall : (H : Type) → List (DataW H) → Bool := fun _ ds => decide (uptoBulkAll ds ≤ 1048576)
def OpenSpec.upto (s : _root_.Go.ChangeSpec) : _root_.Go.OpenSpec := { _root_.Go.OpenSpec.ofChange s with cond := some uptoSmall }

/-- 'laws.FnCountedOrders', WHERE WHAT IT READS IS OF BULK AT MOST 1048576: true; the input reads as it did. -/
def fnCountedOrdersUptoRow : OpenClaim := { program := "ytbaiaahdjkjjoaa", sum := "3c413cc258d840514a2fb8cdfab9eb4342dfa4230bc74e623f6f9d0f767da79d", func := "loop.example/g01139/laws.FnCountedOrders", spec := "fnCountedOrders", unfollowed := true, recurses := true, apart := false, narrowed := true }
def FnCountedOrdersUptoSaid : Prop := fnCountedOrdersUptoRow.holds Try.pinned (OpenSpec.upto fnCountedOrdersSpec)

/-- 'laws.FnExactValidCode', WHERE WHAT IT READS IS OF BULK AT MOST 1048576: true; the input reads as it did. -/
def fnExactValidCodeUptoRow : OpenClaim := { program := "ytbaiaahdjkjjoaa", sum := "3c413cc258d840514a2fb8cdfab9eb4342dfa4230bc74e623f6f9d0f767da79d", func := "loop.example/g01139/laws.FnExactValidCode", spec := "fnExactValidCode", unfollowed := true, recurses := true, apart := false, narrowed := true }
def FnExactValidCodeUptoSaid : Prop := fnExactValidCodeUptoRow.holds Try.pinned (OpenSpec.upto fnExactValidCodeSpec)

/-- 'laws.FnExactMustFollow', WHERE WHAT IT READS IS OF BULK AT MOST 1048576: true; the input reads as it did. -/
def fnExactMustFollowUptoRow : OpenClaim := { program := "ytbaiaahdjkjjoaa", sum := "3c413cc258d840514a2fb8cdfab9eb4342dfa4230bc74e623f6f9d0f767da79d", func := "loop.example/g01139/laws.FnExactMustFollow", spec := "fnExactMustFollow", unfollowed := true, recurses := true, apart := false, narrowed := true }
def FnExactMustFollowUptoSaid : Prop := fnExactMustFollowUptoRow.holds Try.pinned (OpenSpec.upto fnExactMustFollowSpec)

/-- 'laws.FnExactIsOrder', WHERE WHAT IT READS IS OF BULK AT MOST 1048576: true; the input reads as it did. -/
def fnExactIsOrderUptoRow : OpenClaim := { program := "ytbaiaahdjkjjoaa", sum := "3c413cc258d840514a2fb8cdfab9eb4342dfa4230bc74e623f6f9d0f767da79d", func := "loop.example/g01139/laws.FnExactIsOrder", spec := "fnExactIsOrder", unfollowed := true, recurses := true, apart := false, narrowed := true }
def FnExactIsOrderUptoSaid : Prop := fnExactIsOrderUptoRow.holds Try.pinned (OpenSpec.upto fnExactIsOrderSpec)

/-- 'laws.FnExactReorderCode', WHERE WHAT IT READS IS OF BULK AT MOST 1048576: true; the input reads as it did. -/
def fnExactReorderCodeUptoRow : OpenClaim := { program := "ytbaiaahdjkjjoaa", sum := "3c413cc258d840514a2fb8cdfab9eb4342dfa4230bc74e623f6f9d0f767da79d", func := "loop.example/g01139/laws.FnExactReorderCode", spec := "fnExactReorderCode", unfollowed := true, recurses := true, apart := false, narrowed := true }
def FnExactReorderCodeUptoSaid : Prop := fnExactReorderCodeUptoRow.holds Try.pinned (OpenSpec.upto fnExactReorderCodeSpec)

/-- 'laws.FnExactCountOrders', WHERE WHAT IT READS IS OF BULK AT MOST 1048576: true; the input reads as it did. -/
def fnExactCountOrdersUptoRow : OpenClaim := { program := "ytbaiaahdjkjjoaa", sum := "3c413cc258d840514a2fb8cdfab9eb4342dfa4230bc74e623f6f9d0f767da79d", func := "loop.example/g01139/laws.FnExactCountOrders", spec := "fnExactCountOrders", unfollowed := true, recurses := true, apart := false, narrowed := true }
def FnExactCountOrdersUptoSaid : Prop := fnExactCountOrdersUptoRow.holds Try.pinned (OpenSpec.upto fnExactCountOrdersSpec)

end Rows
end Go.Proofs.Ytbaiaahdjkjjoaa
