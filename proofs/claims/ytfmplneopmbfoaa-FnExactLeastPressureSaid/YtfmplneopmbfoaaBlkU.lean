/-
  A row of sets in memory: a block that is known whole, and how it is made. Small lemmas; no walk.
-/
import Derived.Test.YtfmplneopmbfoaaU32
namespace Go.Proofs.Ytfmplneopmbfoaa.Wds
open Go.RowKit
set_option linter.unusedVariables false

/-- A block that holds just these sets, none frozen. -/
def BlkU (w : World) (g : Nat) (cs : Array Value) : Prop := w.heap[g]? = some (.cells cs 72 (0, 0))
theorem BlkU.lt {w : World} {g : Nat} {cs : Array Value} (h : BlkU w g cs) : g < w.heap.size := lt_of_block h
theorem BlkU.cell {w : World} {g : Nat} {cs : Array Value} (h : BlkU w g cs) (i : Nat) : w.cell? ⟨g, i, none⟩ = cs[i]? := cell_of_row w g i cs _ (0, 0) h
theorem BlkU.frozen {w : World} {g : Nat} {cs : Array Value} (h : BlkU w g cs) (i : Nat) : w.frozen? ⟨g, i, none⟩ = false := by
  unfold BlkU at h; simp [World.frozen?, h]
theorem BlkU.new (w : World) (cs : Array Value) : BlkU (w.alloc (.cells cs 72)) w.heap.size cs := heap_alloc_new w _
theorem BlkU.alloc {w : World} {g : Nat} {cs : Array Value} (h : BlkU w g cs) (o : Obj) : BlkU (w.alloc o) g cs := (Below.heap_alloc w o g h.lt).trans h
theorem BlkU.set_ {w : World} {g : Nat} {cs : Array Value} (h : BlkU w g cs) (i : Nat) (u : Value) : BlkU (w.setCell ⟨g, i, none⟩ u) g (cs.setIfInBounds i u) := by
  unfold BlkU at h ⊢
  simp [World.setCell, Array.getElem?_modify, h]
theorem BlkU.far {w : World} {g : Nat} {cs : Array Value} (h : BlkU w g cs) {p : Addr} (hp : g ≠ p.block) (u : Value) : BlkU (w.setCell p u) g cs := (Below.heap_setCell w p u g hp).trans h
theorem BlkU.keep {w w' : World} {g : Nat} {cs : Array Value} (h : BlkU w g cs) (hb : Below w.heap.size w w') : BlkU w' g cs := (hb.block g h.lt).trans h
theorem BlkU.below {w w' : World} {g : Nat} {cs : Array Value} (h : BlkU w g cs) {B : Nat} (hb : Below B w w') (hg : g < B) : BlkU w' g cs := (hb.block g hg).trans h
/-- The cells of a list of sets. -/
def cllU (l : List Nat) : Array Value := (l.map fun (n : Nat) => Value.int .u32 (n : Int)).toArray
theorem cllU_get {l : List Nat} {j : Nat} (h : j < l.length) : (cllU l)[j]? = some (.int .u32 ((l.getD j 0 : Nat) : Int)) := by
  simp [cllU, List.getD_eq_getElem?_getD, h]
theorem cllU_set (l : List Nat) (k v : Nat) : (cllU l).setIfInBounds k (.int .u32 (v : Int)) = cllU (l.set k v) := by simp [cllU, List.map_set]
theorem cllU_zero (n : Nat) : Array.replicate n (Value.int .u32 0) = cllU (List.replicate n 0) := by simp [cllU]
/-- make([]bitSet, n): one new block of n empty sets. -/
theorem wpList_make_u {P : Program} (w : World) {ops : Array Oper} {rest : List Oper} {o : Oper} {a : Act} {Q : Exit → Act → World → Prop}
    (hg : o.guard = none) (l c : Operand) (t : TypeId) (hop : o.op = Op.makeSlice t l c)
    (i : TypeInfo) (h1 : P.underlying t = some (.slice 72)) (h2 : P.info? 72 = some i) (h3 : i.zero = some (.int .u32 0)) (h4 : i.size = 1) (h5 : i.bytes = 4)
    (kl kc : IntKind) (L C : Int) (n : Nat) (hl : a.eval l = .int kl L) (hc : a.eval c = .int kc C) (hL : L = (n : Int)) (hC : C = (n : Int)) (b2 : n ≤ 17592186044416)
    (hK : wpList P ops Q rest (a.put o.dst (.slice (some ⟨w.heap.size, 0, none⟩) n n)) (w.alloc (.cells (cllU (List.replicate n 0)) 72))) :
    wpList P ops Q (o :: rest) a w := by
  refine wpList_plain hg fun K hK' => ?_
  subst hL
  subst hC
  have hrun := run_make (P := P) w t 72 i (.int .u32 0) h1 h2 h3 kl kc (n : Int) (n : Int) (by omega) (by omega) (by rw [h5]; omega) (by omega)
  have e : madeCells (Value.int .u32 0).cells ((n : Int).toNat * i.size) = cllU (List.replicate n 0) := by
    rw [h4, ← cllU_zero]
    apply Array.ext
    · simp [madeCells]
    · intro j hj1 hj2
      simp [madeCells, Value.cells, Nat.mod_one]
  rw [e] at hrun
  unfold Oper.wp
  simp [execOp, hop, hl, hc, hrun, Result.andThen]
  exact hK' _ _ hK
theorem A_infoU : (Try.prog.info? 72).map (fun i => (i.zero, i.size, i.bytes)) = some (some (.int .u32 0), 1, 4) := by kernel_rfl
end Go.Proofs.Ytfmplneopmbfoaa.Wds
