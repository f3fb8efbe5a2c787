/-
  Appending one row to a row of rows of the call's own; the relation of the loops that do so.
-/
import Derived.Test.YtigodbilfjppbaaTrn
import Derived.Test.YtigodbilfjppbaaPush
namespace Go.Proofs.Ytigodbilfjppbaa.Wds
open Go.RowKit
set_option linter.unusedVariables false

theorem rowB {w w' : World} {B : Nat} {e : TypeId} {s : Nat} {v : Value} {n : Nat} {xs : List Value} (h : w.ownsRow B e s v n xs) (hb : Below w.heap.size w w') : w'.ownsRow B e s v n xs := by
  refine ⟨h.1, ?_⟩
  rcases h.2 with h0 | ⟨g, cp, cur, h1, h2, h3, h4⟩
  · exact .inl h0
  · exact .inr ⟨g, cp, cur, h1, h2, (hb.block g (lt_of_block h3)).trans h3, h4⟩
theorem Own.grown {w w' : World} {lo hi n : Nat} {A : Option Addr} {zs : List Int} (h : Own w lo hi A n zs) {B m : Nat} {v : Value} {xs : List Value} (hv : w.ownsRow B 26 1 v m xs) (hg : w.grownBy w' v.ownBlock) : Own w' lo hi A n zs := by
  refine ⟨h.1, fun hn => ?_⟩
  obtain ⟨g, o, cs, e, h1, h2, hb, hc⟩ := h.2 hn
  refine ⟨g, o, cs, e, h1, h2, ?_, hc⟩
  refine (hg.block g hb.lt ?_).trans hb
  rcases hv.2 with ⟨rfl, _⟩ | ⟨g', cp, cur, rfl, _, hh, _⟩
  · intro hr; cases hr
  · intro e'
    simp only [Value.ownBlock, Option.some.injEq] at e'
    subst e'
    exact BlkR.ne (show BlkR w _ _ from hh) hb rfl
theorem wpList_pushR {P : Program} {ops : Array Oper} {rest : List Oper} {o : Oper} {a : Act} {Q : Exit → Act → World → Prop} (w : World) (hgd : o.guard = none) (s x : Operand)
    (ho : o.op = .call { callee := .builtin .append, args := #[s, x], argTypes := #[25, 25] })
    (i : TypeInfo) (ht : P.underlying 25 = some (.slice 26)) (hi : P.info? 26 = some i) (hz : i.zero = some (.slice none 0 0)) (hsize : i.size = 1) (hby : i.bytes = 24)
    (base : Nat) (v : Value) (n : Nat) (xs : List Value) (A : Option Addr) (m c : Nat) (hs : a.eval s = v) (hown : w.ownsRow base 26 1 v n xs)
    (hx : a.eval x = .slice (some ⟨w.heap.size, 0, none⟩) 1 1) (hn : n ≤ 1099511627) (hbase : base ≤ w.heap.size)
    (h : ∀ v' w', w'.ownsRow base 26 1 v' (n + 1) (xs ++ [.slice A m c]) → Below base w w' →
      Hid (∀ lo hi A m ys, Own w lo hi A m ys → Own w' lo hi A m ys) → wpList P ops Q rest (a.put o.dst v') w') :
    wpList P ops Q (o :: rest) a (w.alloc (.cells #[.slice A m c] 26)) := by
  refine wpList_append_own _ hgd s x 25 ho base 26 i (.slice none 0 0) 1 24 ht hi hz hsize hby rfl (by decide) v n _ hs (hown.alloc _) ⟨w.heap.size, 0, none⟩ 1 1 [.slice A m c] hx rfl ?_ ?_ ?_ ?_ ?_ ?_
  · intro j u hj
    match j, hj with
    | 0, hj => simp at hj; subst hj; simp [Addr.add]
  · intro u hu; simp at hu; subst hu; rfl
  · unfold maxLen; omega
  · omega
  · simp; omega
  · intro v' w' hown' hg _
    have hb0 : Below w.heap.size w (w.alloc (.cells #[.slice A m c] 26)) := (Below.refl _ _).alloc (Nat.le_refl _) _
    refine h v' w' (by simpa using hown') ?_ (Lib.hid fun lo hi A' m' ys hoo => (hoo.below hb0).grown (hown.alloc _) hg)
    have hb1 : Below base w (w.alloc (.cells #[.slice A m c] 26)) := (Below.refl base w).alloc hbase _
    refine hb1.grown hg (by simp; omega) fun r hr => ?_
    rcases hown.2 with ⟨rfl, _⟩ | ⟨g, cp, cur, rfl, hg', _⟩
    · cases hr
    · simp only [Value.ownBlock, Option.some.injEq] at hr; omega
theorem add_noneR (b o j : Nat) : (⟨b, o, none⟩ : Addr).add j = ⟨b, o + j, none⟩ := by
  unfold Addr.add
  by_cases h : j = 0
  · subst h; simp
  · simp [h]
/-- Values that are slices which read as the rows f 0, f 1 ..; the rows were made since lo. -/
def RowsV (w : World) (lo k : Nat) (vals : List Value) (f : Nat → List Int) : Prop :=
  vals.length = k ∧ ∀ j, j < k → ∃ R m c, vals[j]? = some (.slice R m c) ∧ m ≤ c ∧ Own w lo w.heap.size R m (f j)
theorem owns_shape {w : World} {B n : Nat} {e : TypeId} {s : Nat} {v : Value} {xs : List Value} (h : w.ownsRow B e s v n xs) : ∃ A c, v = .slice A n c := by
  rcases h.2 with ⟨rfl, e⟩ | ⟨g, cap, cur, rfl, _⟩
  · exact ⟨none, 0, by rw [e]⟩
  · exact ⟨_, _, rfl⟩
/-- The relation of a loop that appends the row f k in round k. -/
def PushesR (f : Nat → List Int) (n : Nat) (w : World) (v i : Value) (wr : World) : Prop :=
  ∃ (k : Nat) (vals : List Value), k ≤ n ∧ i = .int .i64 k ∧ wr.ownsRow w.heap.size 26 1 v k vals ∧ RowsV wr w.heap.size k vals f ∧ Below w.heap.size w wr
theorem PushesR.start (f : Nat → List Int) (n : Nat) (w : World) : PushesR f n w (.slice (some ⟨w.heap.size, 0, none⟩) 0 0) (.int .i64 0) (w.alloc (.cells #[] 26)) := by
  refine ⟨0, [], Nat.zero_le _, rfl, ⟨rfl, .inr ⟨w.heap.size, 0, #[], rfl, Nat.le_refl _, ?_, Nat.le_refl _, Nat.zero_le _, rfl, rfl⟩⟩, ⟨rfl, fun j hj => absurd hj (Nat.not_lt_zero _)⟩, (Below.refl _ _).alloc (Nat.le_refl _) _⟩
  show (w.heap.push _)[w.heap.size]? = _
  simp
theorem RowsV.push {w w' : World} {lo k : Nat} {vals : List Value} {f : Nat → List Int} (h : RowsV w lo k vals f) (hk : ∀ lo hi A m ys, Own w lo hi A m ys → Own w' lo hi A m ys) (hs : w.heap.size ≤ w'.heap.size)
    {R : Option Addr} {m c lo2 hi2 : Nat} (hmc : m ≤ c) (hown : Own w' lo2 hi2 R m (f k)) (hlo : lo ≤ lo2) (hhi : hi2 ≤ w'.heap.size) : RowsV w' lo (k + 1) (vals ++ [.slice R m c]) f := by
  refine ⟨by simp [h.1], fun j hj => ?_⟩
  by_cases e : j = k
  · subst e
    exact ⟨R, m, c, by rw [List.getElem?_append_right (by have := h.1; omega), h.1]; simp, hmc, hown.more hlo hhi⟩
  · obtain ⟨R', m', c', h1, h2, h3⟩ := h.2 j (by omega)
    exact ⟨R', m', c', by rw [List.getElem?_append_left (by rw [h.1]; omega)]; exact h1, h2, (hk _ _ _ _ _ h3).more (Nat.le_refl _) hs⟩
theorem RowsV.below {w w' : World} {lo k : Nat} {vals : List Value} {f : Nat → List Int} (h : RowsV w lo k vals f) (hb : Below w.heap.size w w') : RowsV w' lo k vals f :=
  ⟨h.1, fun j hj => by
    obtain ⟨R', m', c', h1, h2, h3⟩ := h.2 j hj
    exact ⟨R', m', c', h1, h2, (h3.below hb).more (Nat.le_refl _) hb.size⟩⟩
theorem RowsV.rdR {w : World} {lo k B : Nat} {vals : List Value} {f : Nat → List Int} {A : Option Addr} {c : Nat} {zss : List (List Int)} (h : RowsV w lo k vals f) (hv : w.ownsRow B 26 1 (.slice A k c) k vals) (hz : zss = Ln.tabR f k) : RdR w w.heap.size A k zss := by
  subst hz
  refine ⟨Ln.tabR_len _ _, fun hk => ?_⟩
  have h0 := hv
  rcases hv.2 with ⟨_, e⟩ | ⟨g, cp, cur, e, _, hh, _⟩
  · omega
  · injection e with e1 e2 e3
    subst e1
    refine ⟨g, 0, rfl, lt_of_block hh, fun j hj => ?_⟩
    obtain ⟨R, m, c', h1, h2, h3⟩ := h.2 j hj
    have h4 := h0.cells (g := g) (by rfl) j _ h1
    rw [add_noneR] at h4
    exact ⟨R, m, c', h4, h2, by rw [Ln.tabR_getD _ _ _ hj]; exact h3.rd⟩
end Go.Proofs.Ytigodbilfjppbaa.Wds
