/-
  Copies of a list, two lists joined, both halves of a list: one contract each.
-/
import Derived.Test.YtfmplneopmbfoaaDoorPush
import Derived.Laws.AppendOwnNone
import Derived.Laws.CopyOwn
namespace Go.Proofs.YtfmplneopmbfoaaDoor.Wds
open Go.RowKit
set_option linter.unusedVariables false

theorem int_one {zs : List Int} : ∀ u ∈ zs.map (Value.int .i64), u.oneCell' = true := by
  intro u hu; obtain ⟨z, _, rfl⟩ := List.mem_map.1 hu; rfl
/-- The cells of a list that is read, as the laws of append and copy ask for them. -/
theorem Rd.src {w : World} {B n : Nat} {A : Option Addr} {zs : List Int} (h : Rd w B A n zs) (ad : Addr) (hA : A = some ad) : ∀ j u, (zs.map (Value.int .i64))[j]? = some u → w.cell? (ad.add j) = some u := by
  intro j u hu
  rw [List.getElem?_map] at hu
  cases hz : zs[j]? with
  | none => rw [hz] at hu; cases hu
  | some z =>
    rw [hz] at hu
    have hj : j < n := by rw [← h.1]; exact (List.getElem?_eq_some_iff.1 hz).1
    obtain ⟨g, o, e, _, hc⟩ := h.2 (by omega)
    rw [hA] at e
    injection e with e
    subst e
    have := hc j z hz
    injection hu with hu
    subst hu
    by_cases h0 : j = 0
    · subst h0; simpa [Addr.add] using this
    · simpa [Addr.add, h0] using this
/-- append([]int64{}, list...): the law at the operation. -/
theorem wpList_append_list {P : Program} {ops : Array Oper} {rest : List Oper} {o : Oper} {a : Act} {Q : Exit → Act → World → Prop} (w : World) (hgd : o.guard = none) (s x : Operand)
    (ho : o.op = .call { callee := .builtin .append, args := #[s, x], argTypes := #[29, 29] })
    (i : TypeInfo) (ht : P.underlying 29 = some (.slice 2)) (hi : P.info? 2 = some i) (hz : i.zero = some (.int .i64 0)) (hsize : i.size = 1) (hby : i.bytes = 8)
    (base : Nat) (v : Value) (n : Nat) (xs : List Int) (hs : a.eval s = v) (hown : w.ownsRow base 2 1 v n (xs.map (Value.int .i64)))
    (B : Nat) (A : Option Addr) (m c : Nat) (zs : List Int) (hx : a.eval x = .slice A m c) (hrd : Rd w B A m zs) (hc : A = none → c = 0) (hn : n + m ≤ 1099511627776) (hbase : base ≤ w.heap.size)
    (h : ∀ v' w', w'.ownsRow base 2 1 v' (n + m) ((xs ++ zs).map (Value.int .i64)) → Below base w w' → wpList P ops Q rest (a.put o.dst v') w') :
    wpList P ops Q (o :: rest) a w := by
  rcases A with _ | ad
  · have hm : m = 0 := by
      rcases Nat.eq_zero_or_pos m with h0 | h0
      · exact h0
      · obtain ⟨g, o, e, _⟩ := hrd.2 h0; cases e
    subst hm
    have hz0 : zs = [] := List.eq_nil_of_length_eq_zero hrd.1
    subst hz0
    have := hc rfl; subst this
    refine wpList_append_own_none hgd s x 29 ho base 2 i 1 ht hi v n _ hs hown hx ?_
    exact h v w (by simpa using hown) (Below.refl _ _)
  · refine wpList_append_own _ hgd s x 29 ho base 2 i (.int .i64 0) 1 8 ht hi hz hsize hby rfl (by decide) v n _ hs hown ad m c (zs.map (Value.int .i64)) hx (by simp [hrd.1]) (hrd.src ad rfl) int_one ?_ ?_ hbase ?_
    · unfold maxLen; omega
    · omega
    · intro v' w' hown' hg _
      refine h v' w' (by simpa using hown') ?_
      refine (Below.refl base w).grown hg hbase fun r hr => ?_
      rcases hown.2 with ⟨rfl, _⟩ | ⟨g, cp, cur, rfl, hg', _⟩
      · cases hr
      · simp only [Value.ownBlock, Option.some.injEq] at hr; omega
theorem owns_new (w : World) : (w.alloc (.cells #[] 2)).ownsRow w.heap.size 2 1 (.slice (some ⟨w.heap.size, 0, none⟩) 0 0) 0 (([] : List Int).map (Value.int .i64)) := by
  refine ⟨rfl, .inr ⟨w.heap.size, 0, #[], rfl, Nat.le_refl _, ?_, Nat.le_refl _, Nat.zero_le _, rfl, rfl⟩⟩
  show (w.heap.push _)[w.heap.size]? = _
  simp
theorem eql_nil (ad : Addr) (n c : Nat) (W : World) : (binOp .eql 29 (.slice (some ad) n c) (.slice none 0 0)).run Tryd.prog W = .ok (.bool false) W := by
  simp only [binOp]
  simp [run_equal_slice_nil W 29 2 (some ad) n c Tryd.underlying29]
theorem splice_two (zs ys : List Int) : splice (splice (List.replicate (zs.length + ys.length) (Value.int .i64 0)) 0 (zs.map (Value.int .i64))) zs.length (ys.map (Value.int .i64)) = (zs ++ ys).map (Value.int .i64) := by
  simp [splice]
end Go.Proofs.YtfmplneopmbfoaaDoor.Wds
