/-
  Sliding over two vectors: the code's and the model's function; one contract each.
-/
import Derived.Test.YtfmplneopmbfoaaDoorVecW
import Derived.Test.YtfmplneopmbfoaaDoorCpy
import Derived.Test.YtfmplneopmbfoaaDoorLan2
namespace Go.Proofs.YtfmplneopmbfoaaDoor.Wds
open Go.RowKit
set_option linter.unusedVariables false

theorem cut_tab (zs : List Int) (k n : Nat) (h : k + n ≤ zs.length) : (zs.drop k).take n = Ln.tab (fun i => zs.getD (k + i) 0) n := by
  apply List.ext_getElem
  · simp [Ln.tab]; omega
  · intro i h1 h2
    simp [Ln.tab] at h2 ⊢
    rw [List.getElem?_eq_getElem (by omega)]
    rfl
theorem own_some {w : World} {B : Nat} {v : Value} {n : Nat} {zs : List Int} (h : w.ownsRow B 2 1 v n (zs.map (Value.int .i64))) (hn : 0 < n) : ∃ g c, v = .slice (some ⟨g, 0, none⟩) n c ∧ n ≤ c ∧ Own w B w.heap.size (some ⟨g, 0, none⟩) n zs := by
  have h0 := h
  rcases h.2 with ⟨rfl, rfl⟩ | ⟨g, cap, cur, rfl, _, _, hc, _⟩
  · omega
  · exact ⟨_, _, rfl, hc, Own.of_row h0⟩
end Go.Proofs.YtfmplneopmbfoaaDoor.Wds
