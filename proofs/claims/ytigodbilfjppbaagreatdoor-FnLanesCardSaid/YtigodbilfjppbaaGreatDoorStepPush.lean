/-
  Appending one number inside a region that draws its order: the law at a step.
-/
import Derived.Test.YtigodbilfjppbaaGreatDoorPush
import Derived.Deep.RegionHeld3
import Derived.Deep.AppendLies
namespace Go.Proofs.YtigodbilfjppbaaGreatDoor.Wds
open Go.RowKit
set_option linter.unusedVariables false

theorem step_push {P : Program} {ops : Array Oper} {o : Oper} {a : Act} {K : Act → World → Prop} {Q : Exit → Act → World → Prop} {E : Prop} (W : World) (hgd : o.guard = none) (s x : Operand)
    (ho : o.op = .call { callee := .builtin .append, args := #[s, x], argTypes := #[25, 25] })
    (i : TypeInfo) (ht : P.underlying 25 = some (.slice 2)) (hi : P.info? 2 = some i) (hz : i.zero = some (.int .i64 0)) (hsize : i.size = 1) (hby : i.bytes = 8)
    (base : Nat) (v : Value) (n : Nat) (xs : List Int) (z : Int) (hs : a.eval s = v) (hown : W.ownsRow base 2 1 v n (xs.map (Value.int .i64)))
    (ad : Nat) (hx : a.eval x = .slice (some ⟨ad, 0, none⟩) 1 1) (hcell : W.cell? ⟨ad, 0, none⟩ = some (.int .i64 z)) (hn : n ≤ 1099511627776) (hbase : base ≤ W.heap.size)
    (h : ∀ v' w', w'.ownsRow base 2 1 v' (n + 1) ((xs ++ [z]).map (Value.int .i64)) → Below base W w' → K (a.put o.dst v') w') :
    if Region.wanted o (yielded ops a.tmps) = true then Oper.wp P o a W K Q else E := by
  refine step_append_lies W hgd s x 25 ho base 2 i (.int .i64 0) 1 8 ht hi hz hsize hby rfl (by decide) v n _ hs hown ⟨ad, 0, none⟩ 1 1 [.int .i64 z] hx rfl ?_ ?_ (by decide) ?_ ?_ hbase W.heap.size rfl ?_
  · intro j u hj
    match j, hj with
    | 0, hj => simp at hj; subst hj; simpa [Addr.add] using hcell
  · intro u hu; simp at hu; subst hu; rfl
  · unfold maxLen; omega
  · omega
  · intro g cap w' hown' hg hat _
    refine h _ w' (by simpa using hown') ?_
    refine (Below.refl base W).grown hg hbase fun r hr => ?_
    rcases hown.2 with ⟨rfl, _⟩ | ⟨g, cp, cur, rfl, hg', _⟩
    · cases hr
    · simp only [Value.ownBlock, Option.some.injEq] at hr; omega
end Go.Proofs.YtigodbilfjppbaaGreatDoor.Wds
