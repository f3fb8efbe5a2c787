/-
  The source of choices of the model's draws, as it lies in memory: the bytes that came in, how many have been read, a seed. Small lemmas on its block; no walk.
-/
import Derived.Test.YtfmplneopmbfoaaDoorLst
import Derived.WalkKit
import Derived.OneCell
import Derived.OwnWalk
import Derived.Laws.AppendOwn
import Derived.Deep.Quiet
import Derived.Lib.Hide
namespace Go.Proofs.YtfmplneopmbfoaaDoor.Wds
open Go.RowKit

theorem getD_mem (l : List Int) (k : Nat) (h : k < l.length) : l.getD k 0 ∈ l := by
  rw [List.getD_eq_getElem?_getD, List.getElem?_eq_getElem h]; exact List.getElem_mem h
theorem add_block (x : Addr) (i : Nat) : (x.add i).block = x.block := by unfold Addr.add; split <;> rfl
theorem IsRow.len_le {k : IntKind} {w : World} {a : Option Addr} {len cap : Nat} {zs : List Int} (h : IsRow k w a len cap zs) : len ≤ maxLen := by
  rcases h with ⟨_, rfl, _, _⟩ | ⟨x, _, h1, h2, _⟩
  · exact Nat.zero_le _
  · exact Nat.le_trans h1 h2
theorem IsRow.grown {k : IntKind} {w w' : World} {a : Option Addr} {len cap : Nat} {zs : List Int} {sb : Nat} (h : IsRow k w a len cap zs) (hg : w.grownBy w' (some sb)) (hne : ∀ x, a = some x → x.block < sb) : IsRow k w' a len cap zs := by
  rcases h with ⟨h1, h2, h3, h4⟩ | ⟨x, h1, h2, h3, h4, h5, h6⟩
  · exact .inl ⟨h1, h2, h3, h4⟩
  · exact .inr ⟨x, h1, h2, h3, h4, fun i hi => hg.cell (h5 i hi) (by have := hne x h1; rw [add_block]; simp; omega), h6⟩
theorem IsRow.below {k : IntKind} {w w' : World} {a : Option Addr} {len cap : Nat} {zs : List Int} (h : IsRow k w a len cap zs) {B : Nat} (hb : Below B w w') (hlt : ∀ x, a = some x → 0 < zs.length → x.block < B) : IsRow k w' a len cap zs := by
  rcases h with ⟨h1, h2, h3, h4⟩ | ⟨x, h1, h2, h3, h4, h5, h6⟩
  · exact .inl ⟨h1, h2, h3, h4⟩
  · exact .inr ⟨x, h1, h2, h3, h4, fun i hi => (hb.cell (p := x.add i) (by rw [add_block]; exact hlt x h1 (by omega))).trans (h5 i hi), h6⟩
/-- Where the bytes lie: in a block that is there, if there are any. -/
theorem IsRow.block {k : IntKind} {w : World} {a : Option Addr} {len cap : Nat} {zs : List Int} (h : IsRow k w a len cap zs) : ∀ x, a = some x → 0 < zs.length → x.block < w.heap.size := by
  intro x hx hz
  rcases h with ⟨h1, _⟩ | ⟨y, h1, _, _, _, h5, _⟩
  · rw [h1] at hx; cases hx
  · rw [h1] at hx; cases hx; exact World.block_lt_of_cell? w _ (h5 0 hz)

/-- Bytes that a source can read: those up to the length are known (of the spare ones nothing). -/
def IsSrc (w : World) (a : Option Addr) (len cap : Nat) (zs : List Int) : Prop :=
  (a = none ∧ len = 0 ∧ cap = 0 ∧ zs = []) ∨
  ∃ x, a = some x ∧ len ≤ cap ∧ cap ≤ maxLen ∧ len ≤ zs.length ∧ (∀ i, i < zs.length → w.cell? (x.add i) = some (.int .u8 (zs.getD i 0))) ∧ ∀ n ∈ zs, (Lit.int .u8 n).wf = true
theorem IsRow.src {w : World} {a : Option Addr} {len cap : Nat} {zs : List Int} (h : IsRow .u8 w a len cap zs) : IsSrc w a len cap zs := by
  rcases h with ⟨h1, h2, h3, h4⟩ | ⟨x, h1, h2, h3, h4, h5, h6⟩
  · exact .inl ⟨h1, h2, h3, h4⟩
  · exact .inr ⟨x, h1, h2, h3, by omega, h5, h6⟩
theorem IsSrc.grown {w w' : World} {a : Option Addr} {len cap : Nat} {zs : List Int} {sb : Nat} (h : IsSrc w a len cap zs) (hg : w.grownBy w' (some sb)) (hne : ∀ x, a = some x → x.block < sb) : IsSrc w' a len cap zs := by
  rcases h with ⟨h1, h2, h3, h4⟩ | ⟨x, h1, h2, h3, h4, h5, h6⟩
  · exact .inl ⟨h1, h2, h3, h4⟩
  · exact .inr ⟨x, h1, h2, h3, h4, fun i hi => hg.cell (h5 i hi) (by have := hne x h1; rw [add_block]; simp; omega), h6⟩
theorem IsSrc.below {w w' : World} {a : Option Addr} {len cap : Nat} {zs : List Int} (h : IsSrc w a len cap zs) {B : Nat} (hb : Below B w w') (hlt : ∀ x, a = some x → 0 < zs.length → x.block < B) : IsSrc w' a len cap zs := by
  rcases h with ⟨h1, h2, h3, h4⟩ | ⟨x, h1, h2, h3, h4, h5, h6⟩
  · exact .inl ⟨h1, h2, h3, h4⟩
  · exact .inr ⟨x, h1, h2, h3, h4, fun i hi => (hb.cell (p := x.add i) (by rw [add_block]; exact hlt x h1 (by omega))).trans (h5 i hi), h6⟩
theorem IsSrc.block {w : World} {a : Option Addr} {len cap : Nat} {zs : List Int} (h : IsSrc w a len cap zs) : ∀ x, a = some x → 0 < zs.length → x.block < w.heap.size := by
  intro x hx hz
  rcases h with ⟨h1, _⟩ | ⟨y, h1, _, _, _, h5, _⟩
  · rw [h1] at hx; cases hx
  · rw [h1] at hx; cases hx; exact World.block_lt_of_cell? w _ (h5 0 hz)

/-- The source in block sb: at most N bytes read. -/
def Src (w : World) (sb N : Nat) (a : Option Addr) (len cap : Nat) (zs : List Int) : Prop :=
  ∃ (pos : Nat) (seed : Int), pos ≤ N ∧ w.heap[sb]? = some (.cells #[.slice a len cap, .int .i64 pos, .int .u64 seed] 77 (0, 0)) ∧ IsSrc w a len cap zs ∧ (∀ x, a = some x → 0 < zs.length → x.block < sb)
/-- What a draw leaves: the source with more bytes read; nothing else that was there has changed. -/
def After (w : World) (sb M : Nat) (a : Option Addr) (len cap : Nat) (zs : List Int) (w' : World) : Prop := Src w' sb M a len cap zs ∧ w.grownBy w' (some sb)

theorem three_cells {w : World} {sb : Nat} {x y z : Value} {t : TypeId} (h : w.heap[sb]? = some (.cells #[x, y, z] t (0, 0))) :
    w.cell? ⟨sb, 0, none⟩ = some x ∧ w.cell? ⟨sb, 1, none⟩ = some y ∧ w.cell? ⟨sb, 2, none⟩ = some z ∧ w.frozen? ⟨sb, 1, none⟩ = false ∧ w.frozen? ⟨sb, 2, none⟩ = false ∧ sb < w.heap.size := by
  refine ⟨?_, ?_, ?_, ?_, ?_, lt_of_block h⟩ <;> simp [World.cell?, World.frozen?, h]
theorem block_set {w : World} {sb : Nat} {cs : Array Value} {t : TypeId} (h : w.heap[sb]? = some (.cells cs t (0, 0))) (i : Nat) (v : Value) :
    (w.setCell ⟨sb, i, none⟩ v).heap[sb]? = some (.cells (cs.setIfInBounds i v) t (0, 0)) := by
  have hlt := lt_of_block h
  have h' : w.heap[sb] = .cells cs t (0, 0) := by simpa [Array.getElem?_eq_getElem hlt] using h
  show (w.heap.modify sb _)[sb]? = _
  rw [Array.getElem?_eq_getElem (by simpa using hlt), Array.getElem_modify_self, h']
  rfl
theorem grown_setCell (w : World) (sb i : Nat) (v : Value) : w.grownBy (w.setCell ⟨sb, i, none⟩ v) (some sb) :=
  ⟨rfl, rfl, rfl, by simp, fun k hk hne => Below.heap_setCell w ⟨sb, i, none⟩ v k (fun e => hne (by rw [e]))⟩
theorem grown_trans {a b c : World} {row : Option Nat} (h : a.grownBy b row) (k : b.grownBy c row) : a.grownBy c row :=
  ⟨k.os.trans h.os, k.tape.trans h.tape, k.output.trans h.output, Nat.le_trans h.size k.size, fun i hi hne => (k.block i (Nat.lt_of_lt_of_le hi h.size) hne).trans (h.block i hi hne)⟩
theorem grown_drewN (w : World) (n : Nat) (row : Option Nat) : w.grownBy (w.drewN n) row := ⟨rfl, rfl, rfl, Nat.le_refl _, fun _ _ _ => rfl⟩
theorem grown_below {w w' : World} {sb B : Nat} (h : w.grownBy w' (some sb)) (hB : B ≤ w.heap.size) (hs : B ≤ sb) : Below B w w' := (Below.refl B w).grown h hB (fun k hk => by cases hk; exact hs)
theorem Src.grown {w w' : World} {sb N : Nat} {a : Option Addr} {len cap : Nat} {zs : List Int} (h : Src w sb N a len cap zs) {row : Option Nat} (hg : w.grownBy w' row) (hne : row ≠ some sb) (hr : ∀ r, row = some r → sb < r) : Src w' sb N a len cap zs := by
  obtain ⟨pos, seed, h1, h2, h3, h4⟩ := h
  refine ⟨pos, seed, h1, (hg.block sb (lt_of_block h2) (fun e => hne e.symm)).trans h2, ?_, h4⟩
  rcases h3 with ⟨g1, g2, g3, g4⟩ | ⟨x, g1, g2, g3, g4, g5, g6⟩
  · exact .inl ⟨g1, g2, g3, g4⟩
  · refine .inr ⟨x, g1, g2, g3, g4, fun i hi => hg.cell (g5 i hi) (fun e => ?_), g6⟩
    rw [add_block] at e
    have := hr x.block e.symm
    have := h4 x g1 (by omega)
    omega
theorem Src.more {w : World} {sb N M : Nat} {a : Option Addr} {len cap : Nat} {zs : List Int} (h : Src w sb N a len cap zs) (hM : N ≤ M) : Src w sb M a len cap zs := by
  obtain ⟨pos, seed, h1, h2⟩ := h
  exact ⟨pos, seed, by omega, h2⟩
theorem own_ne {w : World} {B : Nat} {t : TypeId} {s : Nat} {v : Value} {n : Nat} {xs : List Value} {sb : Nat} (h : w.ownsRow B t s v n xs) (hs : sb < B) : v.ownBlock = none ∨ v.ownBlock ≠ some sb := by
  rcases h.2 with ⟨rfl, _⟩ | ⟨g, cp, cur, rfl, hg, _⟩
  · exact .inl rfl
  · exact .inr (by simp only [Value.ownBlock, ne_eq, Option.some.injEq]; omega)
theorem own_ge {w : World} {B : Nat} {t : TypeId} {s : Nat} {v : Value} {n : Nat} {xs : List Value} {sb : Nat} (h : w.ownsRow B t s v n xs) (hs : sb < B) : ∀ r, v.ownBlock = some r → sb < r := by
  rcases h.2 with ⟨rfl, _⟩ | ⟨g, cp, cur, rfl, hg, _⟩
  · intro r hr; cases hr
  · intro r hr; simp only [Value.ownBlock, Option.some.injEq] at hr; omega
end Go.Proofs.YtfmplneopmbfoaaDoor.Wds
