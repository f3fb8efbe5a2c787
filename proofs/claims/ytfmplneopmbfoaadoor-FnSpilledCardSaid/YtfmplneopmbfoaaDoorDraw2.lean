/-
  What the model's draw of some words returns (a row of its own, of so many words) and does to memory, over the translated program.
-/
import Derived.Test.YtfmplneopmbfoaaDoorDraw1
import Derived.LoopTactic
namespace Go.Proofs.YtfmplneopmbfoaaDoor.Wds
open Go.RowKit
set_option linter.unusedVariables false

/-- The relation of the loop that draws words. -/
def Drawing (b : Int) (n0 N B sb : Nat) (a : Option Addr) (len cap : Nat) (zs : List Int) (w : World) (n v : Value) (wr : World) : Prop :=
  ∃ (k : Nat) (ws : List Int), k ≤ n0 ∧ n = .int .i64 ((n0 - k : Nat) : Int) ∧ ws.length = k ∧ (∀ x ∈ ws, 0 ≤ x ∧ x < Wd.pw b) ∧
    wr.ownsRow B 2 1 v k (ws.map (Value.int .i64)) ∧ Src wr sb (N + 4 * k) a len cap zs ∧ Below sb w wr ∧ B ≤ wr.heap.size

/-- What the draw of words leaves. -/
def Drawn (b : Int) (n0 N B sb : Nat) (a : Option Addr) (len cap : Nat) (zs : List Int) (w : World) (e : Ending) (w' : World) : Prop :=
  ∃ (v : Value) (ws : List Int), e = .returned v ∧ ws.length = n0 ∧ (∀ x ∈ ws, 0 ≤ x ∧ x < Wd.pw b) ∧
      w'.ownsRow B 2 1 v n0 (ws.map (Value.int .i64)) ∧ Src w' sb (N + 4 * n0) a len cap zs ∧ Below sb w w'
theorem own_shape {w : World} {B : Nat} {t : TypeId} {v : Value} {n : Nat} {ws : List Int} (h : w.ownsRow B t 1 v n (ws.map (Value.int .i64))) (hn : 0 < n) :
    ∃ g cap, v = .slice (some ⟨g, 0, none⟩) n cap ∧ B ≤ g ∧ n ≤ cap ∧ cap ≤ maxLen ∧ g < w.heap.size ∧ ∀ i, i < n → w.cell? ⟨g, i, none⟩ = some (.int .i64 (ws.getD i 0)) := by
  have hl : ws.length = n := by have := h.1; simpa using this
  rcases h.2 with ⟨_, h0⟩ | ⟨g, cap, cur, rfl, hg, hb, hnc, hcm, hcs, ht⟩
  · omega
  · refine ⟨g, cap, rfl, hg, hnc, hcm, lt_of_block hb, fun i hi => ?_⟩
    have hc : w.cell? ⟨g, i, none⟩ = cur[i]? := by simp [World.cell?, hb]
    rw [hc]
    have h1 : (cur.toList.take (n * 1))[i]? = (ws.map (Value.int .i64))[i]? := by rw [ht]
    rw [List.getElem?_take_of_lt (by omega), Array.getElem?_toList, List.getElem?_map] at h1
    rw [h1, List.getElem?_eq_getElem (by omega), List.getD_eq_getElem?_getD, List.getElem?_eq_getElem (by omega)]
    rfl
/-- What the draw of words from bytes leaves: a row of its own, n words. -/
def Words (b : Int) (n : Nat) (w : World) (e : Ending) (w' : World) : Prop :=
  ∃ (g cap : Nat) (ws : List Int), e = .returned (.slice (some ⟨g, 0, none⟩) n cap) ∧ ws.length = n ∧ (∀ x ∈ ws, 0 ≤ x ∧ x < Wd.pw b) ∧ w.heap.size ≤ g ∧ g < w'.heap.size ∧ n ≤ cap ∧ cap ≤ maxLen ∧
    (∀ i, i < n → w'.cell? ⟨g, i, none⟩ = some (.int .i64 (ws.getD i 0))) ∧ Below w.heap.size w w'
end Go.Proofs.YtfmplneopmbfoaaDoor.Wds

