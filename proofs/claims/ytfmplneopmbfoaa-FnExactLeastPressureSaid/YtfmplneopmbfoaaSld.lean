/-
  Sliding over two vectors: the code's and the model's function; one contract each.
-/
import Derived.Test.YtfmplneopmbfoaaVecW
import Derived.Test.YtfmplneopmbfoaaCpy
import Derived.Test.YtfmplneopmbfoaaLan2
namespace Go.Proofs.Ytfmplneopmbfoaa.Wds
open Go.RowKit
set_option linter.unusedVariables false

theorem cut_tab (zs : List Int) (k n : Nat) (h : k + n ≤ zs.length) : (zs.drop k).take n = Ln.tab (fun i => zs.getD (k + i) 0) n := by
  apply List.ext_getElem
  · simp [Ln.tab]; omega
  · intro i h1 h2
    simp [Ln.tab] at h2 ⊢
    rw [List.getElem?_eq_getElem (by omega)]
    rfl
theorem own_some {w : World} {B : Nat} {v : Value} {n : Nat} {zs : List Int} (h : w.ownsRow B 2 1 v n (zs.map (Value.int .i64))) (hn : 0 < n) : ∃ g c, v = .slice (some ⟨g, 0, none⟩) n c ∧ n ≤ c ∧ Own w B w.heap.size (some ⟨g, 0, none⟩) n zs := by
  have h0 := h
  rcases h.2 with ⟨rfl, rfl⟩ | ⟨g, cap, cur, rfl, _, _, hc, _⟩
  · omega
  · exact ⟨_, _, rfl, hc, Own.of_row h0⟩
/-- A copy as a row that can be appended to. -/
def RowOf (zs : List Int) (n : Nat) (w : World) (e : Ending) (w' : World) : Prop :=
  ∃ v, e = .returned v ∧ w'.ownsRow w.heap.size 2 1 v n (zs.map (Value.int .i64)) ∧ Below w.heap.size w w'
theorem sOwnR_any (ad : Addr) (n c : Nat) (zs : List Int) (B : Nat) (w : World) (hn : n ≤ 1048576) (h : Rd w B (some ad) n zs) :
    Calls Try.prog 70 #[.slice (some ad) n c] w (RowOf zs n w) := by
  obtain ⟨i0, hi, hz0, hz1, hz2⟩ := info_parts A_info64
  have H := Lib.hid (h.below ((Below.refl w.heap.size w).alloc (Nat.le_refl _) (.cells #[] 2))); clear h
  have HO := Lib.hid (owns_new w)
  go_enter Try.func70, Try.ntmps70
  go_wp2_with (at_builtin; refine wpList_append_list _ rfl _ _ rfl i0 Try.underlying25 hi hz0 hz1 hz2 w.heap.size _ _ [] rfl HO.out B _ _ _ zs rfl H.out (by intro h; cases h) (by omega) (by simp) ?_; intro v' w1 hown1 hb1; have HO1 := Lib.hid hown1; have HB1 := Lib.hid hb1; clear hown1 hb1)
  go_ret
  refine ⟨_, rfl, ?_, ((Below.refl w.heap.size w).alloc (Nat.le_refl _) _).trans HB1.out⟩
  have := HO1.out
  rw [Nat.zero_add, List.nil_append] at this
  exact this
end Go.Proofs.Ytfmplneopmbfoaa.Wds
