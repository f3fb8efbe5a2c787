/-
  Lists of integers in memory: a slice that reads as a list (Rd), a slice whose row was made between two moments of the call (Own), a block that is known whole (Blk), and what a step that writes between two block numbers keeps (Ch). Small lemmas; no walk.
-/
import Derived.Test.YtfmplneopmbfoaaRows
import Derived.WalkKit
import Derived.OneCell
import Derived.OwnWalk
import Derived.Laws.AppendOwn
import Derived.Deep.Quiet
import Derived.Lib.Hide
namespace Go.Proofs.Ytfmplneopmbfoaa.Wds
open Go.RowKit
set_option linter.unusedVariables false

/-- A block that holds just these cells of 64 bits, none frozen. -/
def Blk (w : World) (g : Nat) (cs : Array Value) : Prop := w.heap[g]? = some (.cells cs 2 (0, 0))
/-- What a walk is told of a slice of integers that came in. -/
def IsRow (k : IntKind) (w : World) (a : Option Addr) (len cap : Nat) (zs : List Int) : Prop :=
  (a = none ∧ len = 0 ∧ cap = 0 ∧ zs = []) ∨
  ∃ x, a = some x ∧ len ≤ cap ∧ cap ≤ maxLen ∧ zs.length = cap ∧ (∀ i, i < zs.length → w.cell? (x.add i) = some (.int k (zs.getD i 0))) ∧ ∀ n ∈ zs, (Lit.int k n).wf = true
/-- The cells of a list. -/
def clls (zs : List Int) : Array Value := (zs.map (Value.int .i64)).toArray
theorem clls_size (zs : List Int) : (clls zs).size = zs.length := by simp [clls]
theorem clls_at (zs : List Int) (j : Nat) : (clls zs)[j]? = (zs[j]?).map (Value.int .i64) := by simp [clls]
theorem clls_get {zs : List Int} {j : Nat} (h : j < zs.length) : (clls zs)[j]? = some (.int .i64 (zs.getD j 0)) := by
  simp [clls, List.getD_eq_getElem?_getD, h]
theorem clls_set (zs : List Int) (k : Nat) (v : Int) : (clls zs).setIfInBounds k (.int .i64 v) = clls (zs.set k v) := by simp [clls, List.map_set]
theorem clls_zero (n : Nat) : Array.replicate n (Value.int .i64 0) = clls (List.replicate n 0) := by simp [clls]
/-- A slice of n numbers that reads as zs; its row lies below block B. -/
def Rd (w : World) (B : Nat) (A : Option Addr) (n : Nat) (zs : List Int) : Prop :=
  zs.length = n ∧ (0 < n → ∃ g o, A = some ⟨g, o, none⟩ ∧ g < B ∧ ∀ j z, zs[j]? = some z → w.cell? ⟨g, o + j, none⟩ = some (.int .i64 z))
/-- A slice of n numbers that reads as zs; its row lies in a block from lo on, below hi, that can be written. -/
def Own (w : World) (lo hi : Nat) (A : Option Addr) (n : Nat) (zs : List Int) : Prop :=
  zs.length = n ∧ (0 < n → ∃ g o cs, A = some ⟨g, o, none⟩ ∧ lo ≤ g ∧ g < hi ∧ Blk w g cs ∧ ∀ j z, zs[j]? = some z → cs[o + j]? = some (.int .i64 z))
/-- Blocks outside of lo .. hi - 1 are as they were. -/
structure Ch (lo hi : Nat) (w w' : World) : Prop where
  os : w'.os = w.os
  tape : w'.tape = w.tape
  output : w'.output = w.output
  size : w.heap.size ≤ w'.heap.size
  block : ∀ k, k < w.heap.size → (k < lo ∨ hi ≤ k) → w'.heap[k]? = w.heap[k]?

theorem Blk.lt {w : World} {g : Nat} {cs : Array Value} (h : Blk w g cs) : g < w.heap.size := lt_of_block h
theorem Blk.cell {w : World} {g : Nat} {cs : Array Value} (h : Blk w g cs) (i : Nat) : w.cell? ⟨g, i, none⟩ = cs[i]? := cell_of_row w g i cs _ (0, 0) h
theorem Blk.frozen {w : World} {g : Nat} {cs : Array Value} (h : Blk w g cs) (i : Nat) : w.frozen? ⟨g, i, none⟩ = false := by
  unfold Blk at h; simp [World.frozen?, h]
theorem Blk.new (w : World) (cs : Array Value) : Blk (w.alloc (.cells cs 2)) w.heap.size cs := heap_alloc_new w _
theorem Blk.drew {w : World} {g : Nat} {cs : Array Value} (h : Blk w g cs) : Blk w.drew g cs := h
theorem Blk.drewN {w : World} {g : Nat} {cs : Array Value} (h : Blk w g cs) (n : Nat) : Blk (w.drewN n) g cs := h
theorem Blk.alloc {w : World} {g : Nat} {cs : Array Value} (h : Blk w g cs) (o : Obj) : Blk (w.alloc o) g cs := (Below.heap_alloc w o g h.lt).trans h
theorem Blk.set_ {w : World} {g : Nat} {cs : Array Value} (h : Blk w g cs) (i : Nat) (u : Value) : Blk (w.setCell ⟨g, i, none⟩ u) g (cs.setIfInBounds i u) := by
  unfold Blk at h ⊢
  simp [World.setCell, Array.getElem?_modify, h]
theorem Blk.far {w : World} {g : Nat} {cs : Array Value} (h : Blk w g cs) {p : Addr} (hp : g ≠ p.block) (u : Value) : Blk (w.setCell p u) g cs := (Below.heap_setCell w p u g hp).trans h
theorem Blk.below {w w' : World} {g : Nat} {cs : Array Value} (h : Blk w g cs) {B : Nat} (hb : Below B w w') (hg : g < B) : Blk w' g cs := (hb.block g hg).trans h
theorem Blk.keep {w w' : World} {g : Nat} {cs : Array Value} (h : Blk w g cs) (hb : Below w.heap.size w w') : Blk w' g cs := h.below hb h.lt
theorem Blk.ch {w w' : World} {g lo hi : Nat} {cs : Array Value} (h : Blk w g cs) (hb : Ch lo hi w w') (hg : g < lo ∨ hi ≤ g) : Blk w' g cs := (hb.block g h.lt hg).trans h

theorem Ch.refl (lo hi : Nat) (w : World) : Ch lo hi w w := ⟨rfl, rfl, rfl, Nat.le_refl _, fun _ _ _ => rfl⟩
theorem Ch.trans {lo hi : Nat} {a b c : World} (h : Ch lo hi a b) (k : Ch lo hi b c) : Ch lo hi a c :=
  ⟨k.os.trans h.os, k.tape.trans h.tape, k.output.trans h.output, Nat.le_trans h.size k.size, fun i hi' hne => (k.block i (Nat.lt_of_lt_of_le hi' h.size) hne).trans (h.block i hi' hne)⟩
theorem Ch.below {lo hi : Nat} {w w' : World} (h : Ch lo hi w w') {B : Nat} (hB : B ≤ lo) (hs : B ≤ w.heap.size) : Below B w w' :=
  ⟨h.os, h.tape, h.output, h.size, fun k hk => h.block k (by omega) (.inl (by omega))⟩
theorem Ch.drew {lo hi : Nat} {a w : World} (h : Ch lo hi a w) : Ch lo hi a w.drew := ⟨h.os, h.tape, h.output, h.size, h.block⟩
theorem Ch.drewN {lo hi : Nat} {a w : World} (h : Ch lo hi a w) (n : Nat) : Ch lo hi a (w.drewN n) := ⟨h.os, h.tape, h.output, h.size, h.block⟩
theorem Ch.set_ {lo hi : Nat} {a w : World} (h : Ch lo hi a w) {p : Addr} (h1 : lo ≤ p.block) (h2 : p.block < hi) (u : Value) : Ch lo hi a (w.setCell p u) :=
  h.trans ⟨rfl, rfl, rfl, by simp [World.setCell], fun k hk hne => Below.heap_setCell w p u k (by omega)⟩
theorem Ch.of_below {w w' : World} (h : Below w.heap.size w w') (lo hi : Nat) : Ch lo hi w w' := ⟨h.os, h.tape, h.output, h.size, fun k hk _ => h.block k hk⟩

theorem Rd.nil (w : World) (B : Nat) (A : Option Addr) : Rd w B A 0 [] := ⟨rfl, fun h => absurd h (by omega)⟩
theorem Rd.len {w : World} {B n : Nat} {A : Option Addr} {zs : List Int} (h : Rd w B A n zs) : zs.length = n := h.1
theorem Rd.at_ {w : World} {B n k : Nat} {A : Option Addr} {zs : List Int} (h : Rd w B A n zs) (hk : k < n) : ∃ g o, A = some ⟨g, o, none⟩ ∧ g < B ∧ w.cell? ⟨g, o + k, none⟩ = some (.int .i64 (zs.getD k 0)) := by
  obtain ⟨g, o, e, hg, hc⟩ := h.2 (by omega)
  have hl : k < zs.length := by have := h.1; omega
  exact ⟨g, o, e, hg, hc k _ (by rw [List.getD_eq_getElem?_getD, List.getElem?_eq_getElem hl]; rfl)⟩
theorem Rd.keep {w w' : World} {B n : Nat} {A : Option Addr} {zs : List Int} (h : Rd w B A n zs) (hk : ∀ p : Addr, p.block < B → p.block < w.heap.size → w'.cell? p = w.cell? p) : Rd w' B A n zs :=
  ⟨h.1, fun hn => by
    obtain ⟨g, o, e, hg, hc⟩ := h.2 hn
    exact ⟨g, o, e, hg, fun j z hz => (hk ⟨g, o + j, none⟩ hg (World.block_lt_of_cell? w _ (hc j z hz))).trans (hc j z hz)⟩⟩
theorem Rd.below {w w' : World} {B n : Nat} {A : Option Addr} {zs : List Int} (h : Rd w B A n zs) (hb : Below w.heap.size w w') : Rd w' B A n zs := h.keep fun _ _ hp => hb.cell hp
theorem Rd.belowB {w w' : World} {B n : Nat} {A : Option Addr} {zs : List Int} (h : Rd w B A n zs) {C : Nat} (hb : Below C w w') (hC : B ≤ C) : Rd w' B A n zs := h.keep fun _ hp _ => hb.cell (by omega)
theorem Rd.ch {w w' : World} {B n lo hi : Nat} {A : Option Addr} {zs : List Int} (h : Rd w B A n zs) (hb : Ch lo hi w w') (hB : B ≤ lo) : Rd w' B A n zs :=
  h.keep fun p hp hs => World.cell?_of_block (hb.block p.block hs (.inl (by omega)))
theorem Rd.more {w : World} {B B' n : Nat} {A : Option Addr} {zs : List Int} (h : Rd w B A n zs) (hB : B ≤ B') : Rd w B' A n zs :=
  ⟨h.1, fun hn => by obtain ⟨g, o, e, hg, hc⟩ := h.2 hn; exact ⟨g, o, e, by omega, hc⟩⟩

theorem Own.len {w : World} {lo hi n : Nat} {A : Option Addr} {zs : List Int} (h : Own w lo hi A n zs) : zs.length = n := h.1
theorem Own.rd {w : World} {lo hi n : Nat} {A : Option Addr} {zs : List Int} (h : Own w lo hi A n zs) : Rd w hi A n zs :=
  ⟨h.1, fun hn => by
    obtain ⟨g, o, cs, e, h1, h2, hg, hc⟩ := h.2 hn
    exact ⟨g, o, e, h2, fun j z hz => (hg.cell _).trans (hc j z hz)⟩⟩
theorem Own.nil (w : World) (lo hi : Nat) (A : Option Addr) : Own w lo hi A 0 [] := ⟨rfl, fun h => absurd h (by omega)⟩
theorem Own.below {w w' : World} {lo hi n : Nat} {A : Option Addr} {zs : List Int} (h : Own w lo hi A n zs) (hb : Below w.heap.size w w') : Own w' lo hi A n zs :=
  ⟨h.1, fun hn => by
    obtain ⟨g, o, cs, e, h1, h2, hg, hc⟩ := h.2 hn
    exact ⟨g, o, cs, e, h1, h2, hg.keep hb, hc⟩⟩
theorem Own.ch {w w' : World} {lo hi n lo' hi' : Nat} {A : Option Addr} {zs : List Int} (h : Own w lo hi A n zs) (hb : Ch lo' hi' w w') (hd : hi ≤ lo' ∨ hi' ≤ lo) : Own w' lo hi A n zs :=
  ⟨h.1, fun hn => by
    obtain ⟨g, o, cs, e, h1, h2, hg, hc⟩ := h.2 hn
    exact ⟨g, o, cs, e, h1, h2, hg.ch hb (by omega), hc⟩⟩
theorem Own.more {w : World} {lo hi lo' hi' n : Nat} {A : Option Addr} {zs : List Int} (h : Own w lo hi A n zs) (h1 : lo' ≤ lo) (h2 : hi ≤ hi') : Own w lo' hi' A n zs :=
  ⟨h.1, fun hn => by
    obtain ⟨g, o, cs, e, g1, g2, hg, hc⟩ := h.2 hn
    exact ⟨g, o, cs, e, by omega, by omega, hg, hc⟩⟩
/-- Out of the kit's own row. -/
theorem Own.of_row {w : World} {base n c : Nat} {A : Option Addr} {zs : List Int} (h : w.ownsRow base 2 1 (.slice A n c) n (zs.map (Value.int .i64))) : Own w base w.heap.size A n zs := by
  have hl : zs.length = n := by have := h.1; simpa using this
  refine ⟨hl, fun hn => ?_⟩
  rcases h.2 with ⟨e, rfl⟩ | ⟨g, cap, cur, hv, hg, hh, _, _, _, ht⟩
  · omega
  · injection hv with e1 e2 e3
    refine ⟨g, 0, cur, e1, hg, lt_of_block hh, hh, fun j z hz => ?_⟩
    have : (zs.map (Value.int .i64))[j]? = some (.int .i64 z) := by simp [hz]
    rw [← ht, List.getElem?_take] at this
    split at this
    · simpa using this
    · cases this
/-- Out of a block that is known whole. -/
theorem Own.of_blk {w : World} {g n : Nat} {zs : List Int} (h : Blk w g (clls zs)) (hl : zs.length = n) {lo : Nat} (h1 : lo ≤ g) : Own w lo w.heap.size (some ⟨g, 0, none⟩) n zs :=
  ⟨hl, fun hn => ⟨g, 0, _, rfl, h1, h.lt, h, fun j z hz => by rw [Nat.zero_add, clls_at, hz]; rfl⟩⟩
/-- A cut of an owned row. -/
theorem Own.cut {w : World} {lo hi n : Nat} {g o : Nat} {zs : List Int} (h : Own w lo hi (some ⟨g, o, none⟩) n zs) (i m : Nat) (hm : i + m ≤ n) : Own w lo hi (some ⟨g, o + i, none⟩) m ((zs.drop i).take m) := by
  have hl := h.1
  refine ⟨by simp; omega, fun hn => ?_⟩
  obtain ⟨g', o', cs, e, h1, h2, hg, hc⟩ := h.2 (by omega)
  injection e with e
  injection e with e1 e2
  subst e1; subst e2
  refine ⟨g, o + i, cs, rfl, h1, h2, hg, fun j z hz => ?_⟩
  rw [List.getElem?_take] at hz
  split at hz
  · rw [List.getElem?_drop] at hz
    rw [Nat.add_assoc]
    exact hc _ z hz
  · cases hz
theorem Rd.cut {w : World} {B n : Nat} {g o : Nat} {zs : List Int} (h : Rd w B (some ⟨g, o, none⟩) n zs) (i m : Nat) (hm : i + m ≤ n) : Rd w B (some ⟨g, o + i, none⟩) m ((zs.drop i).take m) := by
  have hl := h.1
  refine ⟨by simp; omega, fun hn => ?_⟩
  obtain ⟨g', o', e, h1, hc⟩ := h.2 (by omega)
  injection e with e
  injection e with e1 e2
  subst e1; subst e2
  refine ⟨g, o + i, rfl, h1, fun j z hz => ?_⟩
  rw [List.getElem?_take] at hz
  split at hz
  · rw [List.getElem?_drop] at hz
    rw [Nat.add_assoc]
    exact hc _ z hz
  · cases hz
/-- make([]int64, n): one new block of n zeros. -/
theorem wpList_make_blk {P : Program} (w : World) {ops : Array Oper} {rest : List Oper} {o : Oper} {a : Act} {Q : Exit → Act → World → Prop}
    (hg : o.guard = none) (l c : Operand) (t : TypeId) (hop : o.op = Op.makeSlice t l c)
    (i : TypeInfo) (h1 : P.underlying t = some (.slice 2)) (h2 : P.info? 2 = some i) (h3 : i.zero = some (.int .i64 0)) (h4 : i.size = 1) (h5 : i.bytes = 8)
    (kl kc : IntKind) (L C : Int) (n : Nat) (hl : a.eval l = .int kl L) (hc : a.eval c = .int kc C) (hL : L = (n : Int)) (hC : C = (n : Int)) (b2 : n ≤ 17592186044416)
    (hK : wpList P ops Q rest (a.put o.dst (.slice (some ⟨w.heap.size, 0, none⟩) n n)) (w.alloc (.cells (Array.replicate n (Value.int .i64 0)) 2))) :
    wpList P ops Q (o :: rest) a w := by
  refine wpList_plain hg fun K hK' => ?_
  subst hL
  subst hC
  have hrun := run_make (P := P) w t 2 i (.int .i64 0) h1 h2 h3 kl kc (n : Int) (n : Int) (by omega) (by omega) (by rw [h5]; omega) (by omega)
  have e : madeCells (Value.int .i64 0).cells ((n : Int).toNat * i.size) = Array.replicate n (Value.int .i64 0) := by
    rw [h4]
    apply Array.ext
    · simp [madeCells]
    · intro j hj1 hj2
      simp [madeCells, Value.cells, Nat.mod_one]
  rw [e] at hrun
  unfold Oper.wp
  simp [execOp, hop, hl, hc, hrun, Result.andThen]
  exact hK' _ _ hK
end Go.Proofs.Ytfmplneopmbfoaa.Wds
