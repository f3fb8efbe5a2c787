/-
  Appending to one of two rows of the call's own: the other one stays; and cells of rows made at two moments.
-/
import Derived.Test.YteggioppoldaaaaPush
import Derived.Maps.AppendAt
namespace Go.Proofs.Yteggioppoldaaaa.Wds
open Go.RowKit
set_option linter.unusedVariables false

/-- Two slices of the call's own do not lie in one block. -/
def Sep (u v : Value) : Prop := ∀ r, u.ownBlock = some r → v.ownBlock ≠ some r
theorem Sep.symm {u v : Value} (h : Sep u v) : Sep v u := fun r hr hu => h r hu hr
theorem wpList_push2 {P : Program} {ops : Array Oper} {rest : List Oper} {o : Oper} {a : Act} {Q : Exit → Act → World → Prop} (w : World) (hgd : o.guard = none) (s x : Operand)
    (ho : o.op = .call { callee := .builtin .append, args := #[s, x], argTypes := #[25, 25] })
    (i : TypeInfo) (ht : P.underlying 25 = some (.slice 2)) (hi : P.info? 2 = some i) (hz : i.zero = some (.int .i64 0)) (hsize : i.size = 1) (hby : i.bytes = 8)
    (base : Nat) (v : Value) (n : Nat) (xs : List Int) (z : Int) (hs : a.eval s = v) (hown : w.ownsRow base 2 1 v n (xs.map (Value.int .i64)))
    (hx : a.eval x = .slice (some ⟨w.heap.size, 0, none⟩) 1 1) (hn : n ≤ 1099511627776) (hbase : base ≤ w.heap.size)
    (h : ∀ v' w', w'.ownsRow base 2 1 v' (n + 1) ((xs ++ [z]).map (Value.int .i64)) → Below base w w' →
      Hid (∀ u m ys, w.ownsRow base 2 1 u m ys → Sep u v → w'.ownsRow base 2 1 u m ys ∧ Sep u v') → wpList P ops Q rest (a.put o.dst v') w') :
    wpList P ops Q (o :: rest) a (w.alloc (.cells #[.int .i64 z] 2)) := by
  refine wpList_append_own_at _ hgd s x 25 ho base 2 i (.int .i64 0) 1 8 ht hi hz hsize hby rfl (by decide) v n _ hs (hown.alloc _) ⟨w.heap.size, 0, none⟩ 1 1 [.int .i64 z] hx rfl ?_ ?_ ?_ ?_ ?_ ?_
  · intro j u hj
    match j, hj with
    | 0, hj => simp at hj; subst hj; simp [Addr.add]
  · intro u hu; simp at hu; subst hu; rfl
  · unfold maxLen; omega
  · omega
  · simp; omega
  · intro v' w' hown' hg _ hat
    refine h v' w' (by simpa using hown') ?_ ?_
    · have hb1 : Below base w (w.alloc (.cells #[.int .i64 z] 2)) := (Below.refl base w).alloc hbase _
      refine hb1.grown hg (by simp; omega) fun r hr => ?_
      rcases hown.2 with ⟨rfl, _⟩ | ⟨g, cp, cur, rfl, hg', _⟩
      · cases hr
      · simp only [Value.ownBlock, Option.some.injEq] at hr; omega
    · intro u m ys hu hsep
      refine ⟨(hu.alloc _).kept hg ?_, ?_⟩
      · cases hub : u.ownBlock with
        | none => exact .inl rfl
        | some r => exact .inr fun e => hsep r hub e.symm
      · intro r hr hv'
        rcases hat with e | e
        · exact hsep r hr (by rw [← e]; exact hv')
        · rw [e] at hv'
          have := (hu.lt r hr).2
          simp at hv'
          omega
theorem owns_mono {w : World} {B B' : Nat} {e : TypeId} {s : Nat} {v : Value} {n : Nat} {xs : List Value} (h : w.ownsRow B e s v n xs) (hB : B' ≤ B) : w.ownsRow B' e s v n xs := by
  refine ⟨h.1, ?_⟩
  rcases h.2 with h0 | ⟨g, cp, cur, h1, h2, h3⟩
  · exact .inl h0
  · exact .inr ⟨g, cp, cur, h1, by omega, h3⟩
end Go.Proofs.Yteggioppoldaaaa.Wds
