/-
  Appending one number to a row of the call's own; the relation of the loops that do so; what is returned behind them.
-/
import Derived.Test.YtfmplneopmbfoaaLstW
namespace Go.Proofs.Ytfmplneopmbfoaa.Wds
open Go.RowKit
set_option linter.unusedVariables false

theorem wpList_push {P : Program} {ops : Array Oper} {rest : List Oper} {o : Oper} {a : Act} {Q : Exit → Act → World → Prop} (w : World) (hgd : o.guard = none) (s x : Operand)
    (ho : o.op = .call { callee := .builtin .append, args := #[s, x], argTypes := #[25, 25] })
    (i : TypeInfo) (ht : P.underlying 25 = some (.slice 2)) (hi : P.info? 2 = some i) (hz : i.zero = some (.int .i64 0)) (hsize : i.size = 1) (hby : i.bytes = 8)
    (base : Nat) (v : Value) (n : Nat) (xs : List Int) (z : Int) (hs : a.eval s = v) (hown : w.ownsRow base 2 1 v n (xs.map (Value.int .i64)))
    (hx : a.eval x = .slice (some ⟨w.heap.size, 0, none⟩) 1 1) (hn : n ≤ 1099511627776) (hbase : base ≤ w.heap.size)
    (h : ∀ v' w', w'.ownsRow base 2 1 v' (n + 1) ((xs ++ [z]).map (Value.int .i64)) → Below base w w' → wpList P ops Q rest (a.put o.dst v') w') :
    wpList P ops Q (o :: rest) a (w.alloc (.cells #[.int .i64 z] 2)) := by
  refine wpList_append_own _ hgd s x 25 ho base 2 i (.int .i64 0) 1 8 ht hi hz hsize hby rfl (by decide) v n _ hs (hown.alloc _) ⟨w.heap.size, 0, none⟩ 1 1 [.int .i64 z] hx rfl ?_ ?_ ?_ ?_ ?_ ?_
  · intro j u hj
    match j, hj with
    | 0, hj => simp at hj; subst hj; simp [Addr.add]
  · intro u hu; simp at hu; subst hu; rfl
  · unfold maxLen; omega
  · omega
  · simp; omega
  · intro v' w' hown' hg _
    refine h v' w' (by simpa using hown') ?_
    have hb1 : Below base w (w.alloc (.cells #[.int .i64 z] 2)) := (Below.refl base w).alloc hbase _
    refine hb1.grown hg (by simp; omega) fun r hr => ?_
    rcases hown.2 with ⟨rfl, _⟩ | ⟨g, cp, cur, rfl, hg', _⟩
    · cases hr
    · simp only [Value.ownBlock, Option.some.injEq] at hr; omega
/-- The relation of a loop that appends f k in round k. -/
def Pushes (f : Nat → Int) (n : Nat) (w : World) (v i : Value) (wr : World) : Prop :=
  ∃ k : Nat, k ≤ n ∧ i = .int .i64 k ∧ wr.ownsRow w.heap.size 2 1 v k ((Ln.tab f k).map (Value.int .i64)) ∧ Below w.heap.size w wr
theorem Pushes.start (f : Nat → Int) (n : Nat) (w : World) : Pushes f n w (.slice (some ⟨w.heap.size, 0, none⟩) 0 0) (.int .i64 0) (w.alloc (.cells #[] 2)) := by
  refine ⟨0, Nat.zero_le _, rfl, ⟨rfl, .inr ⟨w.heap.size, 0, #[], rfl, Nat.le_refl _, ?_, Nat.le_refl _, Nat.zero_le _, rfl, rfl⟩⟩, (Below.refl _ _).alloc (Nat.le_refl _) _⟩
  show (w.heap.push _)[w.heap.size]? = _
  simp
theorem Pushes.step {f : Nat → Int} {n k : Nat} {w wr w' : World} {v' : Value} (hk : k < n) (hb : Below w.heap.size w wr) (z : Int) (hz : z = f k)
    (hown : w'.ownsRow w.heap.size 2 1 v' (k + 1) ((Ln.tab f k ++ [z]).map (Value.int .i64))) (hb' : Below w.heap.size wr w') : Pushes f n w v' (.int .i64 (k + 1 : Nat)) w' := by
  subst hz
  rw [← Ln.tab_succ] at hown
  exact ⟨k + 1, by omega, rfl, hown, hb.trans hb'⟩
theorem own_form {w : World} {B : Nat} {v : Value} {n : Nat} {zs : List Int} (h : w.ownsRow B 2 1 v n (zs.map (Value.int .i64))) : ∃ A c, v = .slice A n c ∧ n ≤ c ∧ Own w B w.heap.size A n zs := by
  have h0 := h
  rcases h.2 with ⟨rfl, rfl⟩ | ⟨g, cap, cur, rfl, _, _, hc, _⟩
  · exact ⟨none, 0, rfl, Nat.le_refl _, Own.of_row h0⟩
  · exact ⟨_, _, rfl, hc, Own.of_row h0⟩
/-- A slice is known by its row: the call's own slices are slices. -/
theorem RetL.of_row {w w' : World} {v : Value} {n : Nat} {zs : List Int} (h : w'.ownsRow w.heap.size 2 1 v n (zs.map (Value.int .i64))) (hn : n ≤ 1048576) (hb : Below w.heap.size w w') : RetL zs w (.returned v) w' := by
  obtain ⟨A, c, rfl, hc, ho⟩ := own_form h
  exact ⟨A, n, c, rfl, ho, hn, hc, hb⟩
theorem Ret1.of_row {w w' : World} {v : Value} {n : Nat} {zs : List Int} (h : w'.ownsRow w.heap.size 2 1 v n (zs.map (Value.int .i64))) (hn : n ≤ 1048576) (hb : Below w.heap.size w w') : Ret1 zs true w (.returned (.tuple #[v, .bool true])) w' := by
  obtain ⟨A, c, rfl, hc, ho⟩ := own_form h
  exact ⟨A, n, c, rfl, ho, hn, hb⟩
theorem Ret1.of_blk {w w' : World} {g n : Nat} {zs : List Int} (h : Blk w' g (clls zs)) (hl : zs.length = n) (hg : w.heap.size ≤ g) (hn : n ≤ 1048576) (hb : Below w.heap.size w w') : Ret1 zs true w (.returned (.tuple #[.slice (some ⟨g, 0, none⟩) n n, .bool true])) w' :=
  ⟨_, n, n, rfl, Own.of_blk h hl hg, hn, hb⟩
theorem Ret1.no {w w' : World} (hb : Below w.heap.size w w') : Ret1 Ln.no.1 Ln.no.2 w (.returned (.tuple #[.slice none 0 0, .bool false])) w' :=
  ⟨none, 0, 0, rfl, Own.nil _ _ _ _, Nat.zero_le _, hb⟩
/-- A step of a loop that fills a block. -/
theorem Fills.step {f : Nat → Int} {n g k : Nat} {w wr : World} (hk : k < n) (hg : w.heap.size ≤ g) (hb : Below w.heap.size w wr) (h : Blk wr g (clls (Ln.fill f n k))) (z : Int) (hz : z = f k) : Fills f n g w (.int .i64 (k + 1 : Nat)) (wr.setCell ⟨g, k, none⟩ (.int .i64 z)) := by
  subst hz
  have h2 := h.set_ k (.int .i64 (f k))
  rw [clls_set, Ln.fill_set f n k hk] at h2
  exact ⟨k + 1, by omega, rfl, h2, hb.setCell (p := ⟨g, k, none⟩) hg _⟩
theorem Blk.has {w : World} {g n k : Nat} {f : Nat → Int} {m : Nat} (h : Blk w g (clls (Ln.fill f n m))) (hm : m ≤ n) (hk : k < n) : w.cell? ⟨g, k, none⟩ = some (.int .i64 ((Ln.fill f n m).getD k 0)) :=
  (h.cell k).trans (clls_get (by rw [Ln.fill_len f n m hm]; exact hk))
end Go.Proofs.Ytfmplneopmbfoaa.Wds
