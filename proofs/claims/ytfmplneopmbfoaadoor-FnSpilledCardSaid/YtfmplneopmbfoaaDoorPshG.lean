/-
  Appending one range to a row of the call's own; a row of the call's own reads as a list of ranges. Small lemmas; no walk.
-/
import Derived.Test.YtfmplneopmbfoaaDoorStG
import Derived.Laws.AppendOwn
import Derived.Maps.AppendAt
namespace Go.Proofs.YtfmplneopmbfoaaDoor.Wds
open Go.RowKit
set_option linter.unusedVariables false

theorem add_noneP (b o j : Nat) : (⟨b, o, none⟩ : Addr).add j = ⟨b, o + j, none⟩ := by
  unfold Addr.add
  by_cases h : j = 0
  · subst h; simp
  · simp [h]
theorem cllG_snoc (ss : List Rg.R) (x : Rg.R) : (cllG (ss ++ [x])).toList = (cllG ss).toList ++ [.int .i64 x.f, .int .i64 x.t] := by
  simp [cllG, List.flatMap_append, c2]
theorem cllG_nth {ss : List Rg.R} {j : Nat} {s : Rg.R} (h : ss[j]? = some s) : (cllG ss)[j * 2]? = some (.int .i64 s.f) ∧ (cllG ss)[j * 2 + 1]? = some (.int .i64 s.t) := by
  constructor
  · have := flat_getG ss j 0 (by omega)
    rw [cllG, List.getElem?_toArray]
    rw [h] at this
    simpa [c2] using this
  · have := flat_getG ss j 1 (by omega)
    rw [cllG, List.getElem?_toArray]
    rw [h] at this
    simpa [c2] using this
theorem wpList_pushG {P : Program} {ops : Array Oper} {rest : List Oper} {o : Oper} {a : Act} {Q : Exit → Act → World → Prop} (w : World) (hgd : o.guard = none) (s x : Operand)
    (ho : o.op = .call { callee := .builtin .append, args := #[s, x], argTypes := #[24, 24] })
    (i : TypeInfo) (ht : P.underlying 24 = some (.slice 34)) (hi : P.info? 34 = some i) (hz : i.zero = some (.agg #[.int .i64 0, .int .i64 0])) (hsize : i.size = 2) (hby : i.bytes = 16)
    (base : Nat) (v : Value) (n : Nat) (ss : List Rg.R) (r : Rg.R) (hs : a.eval s = v) (hown : w.ownsRow base 34 2 v n (cllG ss).toList)
    (hx : a.eval x = .slice (some ⟨w.heap.size, 0, none⟩) 1 1) (hn : n ≤ 1048576) (hbase : base ≤ w.heap.size)
    (h : ∀ v' w', w'.ownsRow base 34 2 v' (n + 1) (cllG (ss ++ [r])).toList → Below base w w' →
      Hid (∀ u m (ys : List Rg.R), w.ownsRow base 34 2 u m (cllG ys).toList → (∀ b, v.ownBlock = some b → u.ownBlock ≠ some b) → w'.ownsRow base 34 2 u m (cllG ys).toList ∧ (∀ b, v'.ownBlock = some b → u.ownBlock ≠ some b)) →
      wpList P ops Q rest (a.put o.dst v') w') :
    wpList P ops Q (o :: rest) a (w.alloc (.cells #[.int .i64 r.f, .int .i64 r.t] 34)) := by
  refine wpList_append_own_at _ hgd s x 24 ho base 34 i (.agg #[.int .i64 0, .int .i64 0]) 2 16 ht hi hz hsize hby rfl (by decide) v n _ hs (hown.alloc _) ⟨w.heap.size, 0, none⟩ 1 1 [.int .i64 r.f, .int .i64 r.t] hx rfl ?_ ?_ ?_ ?_ ?_ ?_
  · intro j u hj
    have hc := cell_of_row _ _ j _ _ (0, 0) (heap_alloc_new w (.cells #[.int .i64 r.f, .int .i64 r.t] 34))
    rw [add_noneP, Nat.zero_add, hc, ← hj]
    simp
  · intro u hu; simp at hu; rcases hu with rfl | rfl <;> rfl
  · unfold maxLen; omega
  · omega
  · simp; omega
  · intro v' w' hown' hg _ hat
    refine h v' w' (by rw [cllG_snoc]; exact hown') ?_ ?_
    · have hb1 : Below base w (w.alloc (.cells #[.int .i64 r.f, .int .i64 r.t] 34)) := (Below.refl base w).alloc hbase _
      refine hb1.grown hg (by simp; omega) fun q hr => ?_
      rcases hown.2 with ⟨rfl, _⟩ | ⟨g, cp, cur, rfl, hg', _⟩
      · cases hr
      · simp only [Value.ownBlock, Option.some.injEq] at hr; omega
    · refine Lib.hid fun u m ys hu hsep => ⟨(hu.alloc _).kept hg ?_, ?_⟩
      · cases hub : u.ownBlock with
        | none => exact .inl rfl
        | some r => exact .inr fun e => hsep r e.symm hub
      · intro b hv' hu'
        rcases hat with e | e
        · exact hsep b (by rw [← e]; exact hv') hu'
        · rw [e] at hv'
          have := (hu.lt b hu').2
          simp at hv'
          omega
theorem rdG_of_row {w : World} {B n : Nat} {v : Value} {ss : List Rg.R} (h : w.ownsRow B 34 2 v n (cllG ss).toList) (hl : ss.length = n) : ∃ A c, v = .slice A n c ∧ n ≤ c ∧ RdG w w.heap.size A n ss := by
  rcases h.2 with ⟨rfl, h0⟩ | ⟨g, cap, cur, rfl, hg, hb, hnc, hcm, hcs, ht⟩
  · subst h0
    exact ⟨none, 0, rfl, Nat.le_refl _, by rw [List.length_eq_zero_iff.1 hl]; exact RdG.nil _ _ _⟩
  · refine ⟨_, cap, rfl, hnc, hl, fun hn => ⟨g, 0, rfl, lt_of_block hb, fun j s hs => ?_⟩⟩
    have hj : j < ss.length := (List.getElem?_eq_some_iff.1 hs).1
    have hc := cllG_nth hs
    have key : ∀ i, i < 2 → w.cell? ⟨g, 0 + j * 2 + i, none⟩ = (cllG ss)[j * 2 + i]? := by
      intro i hi4
      have e1 : w.cell? ⟨g, 0 + j * 2 + i, none⟩ = cur[j * 2 + i]? := by
        rw [Nat.zero_add]; exact cell_of_row w g _ cur _ (0, 0) hb
      have e2 : (cur.toList.take (n * 2))[j * 2 + i]? = (cllG ss).toList[j * 2 + i]? := by rw [ht]
      rw [List.getElem?_take_of_lt (by omega), Array.getElem?_toList, Array.getElem?_toList] at e2
      rw [e1, e2]
    exact ⟨(key 0 (by omega)).trans hc.1, (key 1 (by omega)).trans hc.2⟩
theorem own_newG (w : World) (B : Nat) (h : B ≤ w.heap.size) : (w.alloc (.cells #[] 34)).ownsRow B 34 2 (.slice (some ⟨w.heap.size, 0, none⟩) 0 0) 0 (cllG []).toList := by
  refine ⟨rfl, .inr ⟨w.heap.size, 0, #[], rfl, h, ?_, Nat.le_refl _, Nat.zero_le _, rfl, rfl⟩⟩
  show (w.heap.push _)[w.heap.size]? = _
  simp
end Go.Proofs.YtfmplneopmbfoaaDoor.Wds
