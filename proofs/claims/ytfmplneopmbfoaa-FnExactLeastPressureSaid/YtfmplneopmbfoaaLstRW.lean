/-
  The laws' helpers over lists of lists of numbers: a copy, the test of equality, the size, marks; one contract each.
-/
import Derived.Test.YtfmplneopmbfoaaLstR
import Derived.Test.YtfmplneopmbfoaaBelBy
namespace Go.Proofs.Ytfmplneopmbfoaa.Wds
open Go.RowKit
set_option linter.unusedVariables false

theorem A_infoR : (Try.prog.info? 25).map (fun i => (i.zero, i.size, i.bytes)) = some (some (.slice none 0 0), 1, 24) := by kernel_rfl
/-- make([][]int64, n): one new block of n slices without numbers. -/
theorem wpList_make_rows {P : Program} (w : World) {ops : Array Oper} {rest : List Oper} {o : Oper} {a : Act} {Q : Exit → Act → World → Prop}
    (hg : o.guard = none) (l c : Operand) (t : TypeId) (hop : o.op = Op.makeSlice t l c)
    (i : TypeInfo) (h1 : P.underlying t = some (.slice 25)) (h2 : P.info? 25 = some i) (h3 : i.zero = some (.slice none 0 0)) (h4 : i.size = 1) (h5 : i.bytes = 24)
    (kl kc : IntKind) (L C : Int) (n : Nat) (hl : a.eval l = .int kl L) (hc : a.eval c = .int kc C) (hL : L = (n : Int)) (hC : C = (n : Int)) (b2 : n ≤ 1099511627776)
    (hK : wpList P ops Q rest (a.put o.dst (.slice (some ⟨w.heap.size, 0, none⟩) n n)) (w.alloc (.cells (Array.replicate n (Value.slice none 0 0)) 25))) :
    wpList P ops Q (o :: rest) a w := by
  refine wpList_plain hg fun K hK' => ?_
  subst hL
  subst hC
  have hrun := run_make (P := P) w t 25 i (.slice none 0 0) h1 h2 h3 kl kc (n : Int) (n : Int) (by omega) (by omega) (by rw [h5]; omega) (by omega)
  have e : madeCells (Value.slice none 0 0).cells ((n : Int).toNat * i.size) = Array.replicate n (Value.slice none 0 0) := by
    rw [h4]
    apply Array.ext
    · simp [madeCells]
    · intro j hj1 hj2
      simp [madeCells, Value.cells, Nat.mod_one]
  rw [e] at hrun
  unfold Oper.wp
  simp [execOp, hop, hl, hc, hrun, Result.andThen]
  exact hK' _ _ hK
/-- Rows without numbers, new. -/
theorem OwnR.new (w : World) (n : Nat) : OwnR (w.alloc (.cells (Array.replicate n (Value.slice none 0 0)) 25)) w.heap.size (w.heap.size + 1) (some ⟨w.heap.size, 0, none⟩) n (List.replicate n []) := by
  refine ⟨by simp, fun hn => ⟨w.heap.size, 0, _, fun _ => none, fun _ => 0, fun _ => 0, rfl, Nat.le_refl _, by omega, BlkR.new _ _, fun j hj => by simp [hj], ⟨fun j hj => ?_, fun _ _ => Nat.le_refl _, fun _ _ _ _ _ h _ => by omega⟩⟩⟩
  have e : (List.replicate n ([] : List Int)).getD j [] = [] := by simp [List.getD_eq_getElem?_getD, hj]
  rw [e]
  exact Own.nil _ _ _ _
theorem size_alloc (w : World) (o : Obj) : (w.alloc o).heap.size = w.heap.size + 1 := by show (w.heap.push _).size = _; simp
theorem size_set (w : World) (p : Addr) (v : Value) : (w.setCell p v).heap.size = w.heap.size := by simp [World.setCell]
/-- The place of a row, known to be there and not frozen. -/
theorem OwnR.place {w : World} {lo hi n k g o : Nat} {zss : List (List Int)} (h : OwnR w lo hi (some ⟨g, o, none⟩) n zss) (hk : k < n) : (∃ v, w.cell? ⟨g, o + k, none⟩ = some v) ∧ w.frozen? ⟨g, o + k, none⟩ = false ∧ lo ≤ g ∧ g < hi := by
  obtain ⟨g', o', cs, R, M, C, e, h1, h2, hg, hc, _⟩ := h.2 (by omega)
  injection e with e
  injection e with e1 e2
  subst e1; subst e2
  exact ⟨⟨_, (hg.cell _).trans (hc k hk)⟩, hg.frozen _, h1, h2⟩
/-- A copy of rows is returned: new rows of their own. -/
def CopiedR (n : Nat) (zss : List (List Int)) (w : World) (e : Ending) (w' : World) : Prop :=
  ∃ g, e = .returned (.slice (some ⟨g, 0, none⟩) n n) ∧ OwnR w' w.heap.size w'.heap.size (some ⟨g, 0, none⟩) n zss ∧ Below w.heap.size w w'
/-- The relation of a loop that fills rows one after another. -/
def FillsR (zss : List (List Int)) (n g : Nat) (w : World) (i : Value) (wr : World) : Prop :=
  ∃ k : Nat, k ≤ n ∧ i = .int .i64 k ∧ OwnR wr w.heap.size wr.heap.size (some ⟨g, 0, none⟩) n (Ln.fillR zss k) ∧ Below w.heap.size w wr
theorem FillsR.start {w w1 : World} {zss : List (List Int)} {n : Nat} (hn : zss.length = n) (hb : Below w.heap.size w w1) : FillsR zss n w1.heap.size w (.int .i64 0) (w1.alloc (.cells (Array.replicate n (Value.slice none 0 0)) 25)) := by
  refine ⟨0, Nat.zero_le _, rfl, ?_, hb.alloc hb.size _⟩
  rw [Ln.fillR_zero, hn, size_alloc]
  exact (OwnR.new w1 n).more hb.size (Nat.le_refl _)
theorem FillsR.step {w wr w1 : World} {zss : List (List Int)} {n g k m c lo2 hi2 : Nat} {R : Option Addr} (hn : zss.length = n) (hk : k < n) (hown : OwnR wr w.heap.size wr.heap.size (some ⟨g, 0, none⟩) n (Ln.fillR zss k)) (hb : Below w.heap.size w wr)
    (hb1 : Below wr.heap.size wr w1) (hr : Own w1 lo2 hi2 R m (zss.getD k [])) (hlo : wr.heap.size ≤ lo2) (hhi : hi2 ≤ w1.heap.size) (hmc : m ≤ c) : FillsR zss n g w (.int .i64 (k + 1 : Nat)) (w1.setCell ⟨g, k, none⟩ (.slice R m c)) := by
  refine ⟨k + 1, by omega, rfl, ?_, ?_⟩
  · have h1 := (hown.below hb1).store (k := k) hk hr hmc hb1.size hlo hhi
    rw [Nat.zero_add, Ln.fillR_set zss k (by omega)] at h1
    rw [size_set]
    exact h1
  · have hg := (hown.place hk).2.2.1
    exact (hb.trans (hb1.mono hb.size)).setCell (p := ⟨g, k, none⟩) hg _
theorem szS_in (A : Option Addr) (n c : Nat) (w : World) (left : Int) (hn : (n : Int) ≤ left) (h1 : left ≤ 1048576) :
    Calls Try.prog 93 #[.slice A n c, .int .i64 left] w fun e w' => e = .returned (.int .i64 (left - n)) ∧ w = w' := by
  have e1 : ¬ (left - (n : Int) < 0) := by omega
  go_enter Try.func93, Try.ntmps93
  go_wp2
  go_ret
  exact ⟨rfl, rfl⟩
theorem szS_out (A : Option Addr) (n c : Nat) (w : World) (left : Int) (hn : left < (n : Int)) (h0 : 0 ≤ left) (hb : n ≤ 9223372036854775807) :
    Calls Try.prog 93 #[.slice A n c, .int .i64 left] w fun e w' => e = .returned (.int .i64 (-1)) ∧ w = w' := by
  have e1 : (left - (n : Int) < 0) := by omega
  go_enter Try.func93, Try.ntmps93
  go_wp2
  go_ret
  exact ⟨rfl, rfl⟩
/-- What a size leaves of a bound, or -1. -/
def leftR (left : Int) (zss : List (List Int)) : Int := if (Ln.totL zss : Int) ≤ left then left - Ln.totL zss else -1
theorem leftR_in {left : Int} {zss : List (List Int)} (h : (Ln.totL zss : Int) ≤ left) : leftR left zss = left - Ln.totL zss := if_pos h
theorem leftR_out {left : Int} {zss : List (List Int)} (h : ¬ (Ln.totL zss : Int) ≤ left) : leftR left zss = -1 := if_neg h
end Go.Proofs.Ytfmplneopmbfoaa.Wds
