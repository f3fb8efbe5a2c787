/-
  An argument that is a slice of tasks reads as a list of tasks.
-/
import Derived.Test.YtfmplneopmbfoaaStT
import Derived.Test.YtfmplneopmbfoaaLstG
import Derived.Deep.Slices
import Derived.Deep.Fields
import Derived.ChangeSame
import Derived.Deep.Matrix
namespace Go.Proofs.Ytfmplneopmbfoaa.Wds
open Go.ChangeShapes Go.WideShapes Go.Deep Go.RowKit
set_option linter.unusedVariables false
section
variable {H : Type} {enc : TypeId × Value → H} {P : Program} {w : World} {base : Nat} {spare : Nat → Bool} {held : Bool}
/-- From the guide on structs: a slice of structs whose fields take one cell each. -/
theorem open_slice_fieldsT {t e : TypeId} {fs : Array Field} {fuel : Nat} {cs : List Value} {x : DataW H × List MemPlace} (ht : P.underlying t = some (.slice e)) (he : P.underlying e = some (.struct fs))
    (hone : oneCellFields P fs = true) (hC : P.cellsOf e = fs.size) (h : DataW.trod enc P w base spare held fuel t cs = some x) :
    (cs = [.slice none 0 0] ∧ x = (.nil, [])) ∨
    ∃ (a : Addr) (len cap m : Nat) (D : Nat → DataW H) (Pl : Nat → List MemPlace), cs = [.slice (some a) len cap] ∧ base ≤ a.block ∧ len ≤ cap ∧ cap ≤ maxLen ∧ m = (if spare a.block then cap else len) ∧
      x = (.slice ((List.range len).map D) ((List.range (m - len)).map fun j => D (len + j)), MemPlace.row a (m * fs.size) ++ (List.range m).flatMap Pl) ∧
      ∀ i, i < m → ∃ (ys : List (DataW H × List MemPlace)) (n : Nat), D i = .agg (ys.map (·.1)) ∧ Pl i = ys.flatMap (·.2) ∧ ys.length = fs.size ∧
        ∀ (j : Nat) (f : Field), fs[j]? = some f → ∃ (v : Value) (y : DataW H × List MemPlace), w.cell? (a.add (i * fs.size + j)) = some v ∧ ys[j]? = some y ∧ DataW.trod enc P w base spare held n f.type [v] = some y := by
  rcases open_slice ht h with h0 | ⟨a, len, cap, m, n, D, Pl, hcs, hb, hl, hm, hmm, hx, hi⟩
  · exact .inl h0
  · refine .inr ⟨a, len, cap, m, D, Pl, hcs, hb, hl, hm, hmm, by rw [hC] at hx; exact hx, fun i him => ?_⟩
    obtain ⟨cs', hc, ht'⟩ := hi i him
    rw [hC] at hc
    obtain ⟨ys, n', hn', hy, hlen, hyl, hf⟩ := DataW.trod_struct he ht'
    obtain ⟨_, hcl, hat⟩ := World.cells?_some hc
    simp only [Prod.mk.injEq] at hy
    refine ⟨ys, n', hy.1, hy.2, hyl, fun j f hj => ?_⟩
    obtain ⟨ho, hk⟩ := hone_of hone j f hj
    have hjl : j < fs.size := (Array.getElem?_eq_some_iff.1 hj).1
    have hcell := hat j hjl
    have hv : cs'[j]? = some (cs'[j]'(by omega)) := List.getElem?_eq_getElem (by omega)
    have h1 := hf j f hj
    rw [ho, hk] at h1
    have hone' : (cs'.drop j).take 1 = [cs'[j]'(by omega)] := by
      rw [List.drop_eq_getElem_cons (by omega)]
      rfl
    rw [hone'] at h1
    have hys : ys[j]? = some (ys[j]'(by omega)) := List.getElem?_eq_getElem (by omega)
    refine ⟨_, _, ?_, hys, h1.trans hys⟩
    rw [← Go.Deep.add_add, hcell, hv]
end
/-- What a walk is told of a slice of tasks that came in. -/
def RowT (w : World) (A : Option Addr) (n : Nat) (ts : List Tk.T) : Prop := RdT w w.heap.size A n ts ∧ n ≤ 9223372036854775807 ∧ ∀ k, k < n → (Tk.nth ts k).ns.length ≤ 9223372036854775807
theorem add_noneT (b o j : Nat) : (⟨b, o, none⟩ : Addr).add j = ⟨b, o + j, none⟩ := by
  unfold Addr.add
  by_cases h : j = 0
  · subst h; simp
  · simp [h]
/-- Three cells that hold a task. -/
def CellsT (w : World) (f : Nat → Addr) (t : Tk.T) : Prop :=
  ∃ R m c, w.cell? (f 0) = some (.int .i64 t.p) ∧ w.cell? (f 1) = some (.int .i64 t.l) ∧ w.cell? (f 2) = some (.slice R m c) ∧ m ≤ c ∧ Rd w w.heap.size R m t.ns ∧ m ≤ 9223372036854775807
theorem open_tasks {H : Type} {enc : TypeId × Value → H} {w : World} {base : Nat} {held : Bool} {fuel : Nat} {cs : List Value} {x : DataW H × List MemPlace}
    (h : DataW.trod enc Try.prog w base (fun _ => true) held fuel 47 cs = some x) : ∃ A n c ts, cs = [.slice A n c] ∧ RowT w A n ts := by
  rcases open_slice_fieldsT Try.underlying47 Try.underlying79 (by kernel_rfl) (by kernel_rfl) h with ⟨hcs, _⟩ | ⟨a, len, cap, m, D, Pl, hcs, hb, hl, hm, hmm, hx, hi⟩
  · exact ⟨none, 0, 0, [], hcs, RdT.nil _ _ _, Nat.zero_le _, fun k hk => absurd hk (Nat.not_lt_zero _)⟩
  · have hlm : len ≤ m := by rw [hmm]; split <;> omega
    have key : ∀ i, i < len → ∃ s : Tk.T, CellsT w (fun j => a.add (i * 3 + j)) s := by
      intro i hil
      obtain ⟨ys, n, _, _, _, hf⟩ := hi i (by omega)
      obtain ⟨v0, y0, c0, _, t0⟩ := hf 0 _ rfl
      obtain ⟨v1, y1, c1, _, t1⟩ := hf 1 _ rfl
      obtain ⟨v2, y2, c2, _, t2⟩ := hf 2 _ rfl
      obtain ⟨p, e0, _, _⟩ := DataW.trod_int Try.underlying2 t0
      obtain ⟨d, e1, _, _⟩ := DataW.trod_int Try.underlying2 t1
      simp only [List.cons.injEq, and_true] at e0 e1
      subst e0; subst e1
      have t2' : DataW.trod enc Try.prog w base (fun _ => true) held n 25 [v2] = some y2 := t2
      rcases open_ints Try.underlying25 Try.underlying2 (by kernel_rfl) t2' with ⟨hcs2, _⟩ | ⟨x2, l2, cc2, zs, hcs2, _, hl2, hm2, hz2, _, hcell2, hwz2⟩
      · simp only [List.cons.injEq, and_true] at hcs2
        subst hcs2
        exact ⟨⟨p, d, []⟩, none, 0, 0, c0, c1, c2, Nat.le_refl _, Rd.nil _ _ _, Nat.zero_le _⟩
      · simp only [List.cons.injEq, and_true] at hcs2
        subst hcs2
        have hrow : IsRow .i64 w (some x2) l2 cc2 zs := .inr ⟨_, rfl, hl2, hm2, by simpa using hz2, hcell2, hwz2⟩
        exact ⟨⟨p, d, zs.take l2⟩, some x2, l2, cc2, c0, c1, c2, hl2, Rd.of_row hrow, by unfold maxLen at hm2; omega⟩
    obtain ⟨ts, hts, hat⟩ := list_ofG len key
    have hat' : ∀ j, j < len → CellsT w (fun i => a.add (j * 3 + i)) (Tk.nth ts j) := fun j hj => hat j _ (Tk.nth_get (by omega))
    refine ⟨some a, len, cap, ts, hcs, ⟨hts, fun hn => ?_⟩, by unfold maxLen at hm; omega, fun k hk => ?_⟩
    · obtain ⟨ab, off, spot⟩ := a
      obtain ⟨_, _, _, h0, _⟩ := hat' 0 hn
      have hspot : spot = none := by simpa [Addr.add] using World.cell?_spot h0
      subst hspot
      refine ⟨ab, off, rfl, by simpa [Addr.add] using World.block_lt_of_cell? w _ h0, fun j hj => ?_⟩
      obtain ⟨R, mm, c, h4, h5, h6, h7, h8, _⟩ := hat' j hj
      simp only [add_noneT, ← Nat.add_assoc, Nat.add_zero] at h4 h5 h6
      exact ⟨R, mm, c, ⟨h4, h5, h6⟩, h7, h8⟩
    · obtain ⟨R, mm, c, _, _, _, _, h8, h9⟩ := hat' k hk
      rw [h8.len]; exact h9
end Go.Proofs.Ytfmplneopmbfoaa.Wds
