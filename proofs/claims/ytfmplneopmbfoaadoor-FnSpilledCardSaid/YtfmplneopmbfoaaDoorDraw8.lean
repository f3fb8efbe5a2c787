/-
  What the laws of chapters 2 and on draw: bits, lanes, a vector; and their own helpers: a length that is too great, a number below n, equality of lists.
-/
import Derived.Test.YtfmplneopmbfoaaDoorDraw2
import Derived.Test.YtfmplneopmbfoaaDoorSld
namespace Go.Proofs.YtfmplneopmbfoaaDoor.Wds
open Go.RowKit
set_option linter.unusedVariables false

theorem IsRow.len' {k : IntKind} {w : World} {a : Option Addr} {len cap : Nat} {zs : List Int} (h : IsRow k w a len cap zs) : len ≤ maxLen := by
  rcases h with ⟨_, rfl, _, _⟩ | ⟨x, _, h1, h2, _⟩
  · exact Nat.zero_le _
  · exact Nat.le_trans h1 h2
theorem r8long_any (a0 a1 : Option Addr) (n0 c0 n1 c1 : Nat) (w : World) (h0 : n0 ≤ maxLen) (h1 : n1 ≤ maxLen) : Calls Tryd.prog 7 #[.slice a0 n0 c0, .slice a1 n1 c1] w fun e w' => e = .returned (.bool (decide (48 < n0 ∨ 48 < n1))) ∧ w = w' := by
  unfold maxLen at h0 h1
  by_cases k0 : 48 < n0
  · have e0 : decide (48 < n0 ∨ 48 < n1) = true := decide_eq_true (.inl k0)
    rw [e0]; clear e0
    go_enter Tryd.func7, Tryd.ntmps7
    go_wp2
    go_ret
    exact ⟨rfl, rfl⟩
  · by_cases k1 : 48 < n1
    · have e0 : decide (48 < n0 ∨ 48 < n1) = true := decide_eq_true (.inr k1)
      rw [e0]; clear e0
      have k0' : n0 ≤ 48 := by omega
      clear k0
      go_enter Tryd.func7, Tryd.ntmps7
      go_wp2
      go_ret
      exact ⟨ret_bool (by simp; omega), rfl⟩
    · have e0 : decide (48 < n0 ∨ 48 < n1) = false := decide_eq_false (by omega)
      rw [e0]; clear e0
      have k0' : n0 ≤ 48 := by omega
      have k1' : n1 ≤ 48 := by omega
      clear k0 k1
      go_enter Tryd.func7, Tryd.ntmps7
      go_wp2
      go_ret
      exact ⟨ret_bool (by simp; omega), rfl⟩
theorem r8at_any (i n : Int) (a : Option Addr) (len cap : Nat) (zs : List Int) (w : World) (hi0 : 0 ≤ i) (hi1 : i ≤ 1000) (hn0 : 2 ≤ n) (hn1 : n ≤ 1000) (h : IsRow .u8 w a len cap zs) :
    Calls Tryd.prog 10 #[.slice a len cap, .int .i64 i, .int .i64 n] w fun e w' => ∃ z : Int, e = .returned (.int .i64 z) ∧ 0 ≤ z ∧ z < n ∧ w = w' := by
  have hl := h.len'
  unfold maxLen at hl
  by_cases hlt : i < (len : Int)
  · rcases h with ⟨_, h2, _⟩ | ⟨x, rfl, g2, g3, g4, g5, g6⟩
    · omega
    · obtain ⟨k, rfl⟩ := Int.eq_ofNat_of_zero_le hi0
      obtain ⟨ab, off, spot⟩ := x
      have hspot : spot = none := by simpa [Addr.add] using World.cell?_spot (g5 0 (by omega))
      subst hspot
      have hc := g5 k (by omega)
      have hc' : w.cell? ⟨ab, off + k, none⟩ = some (.int .u8 (zs.getD k 0)) := by
        by_cases h0 : k = 0
        · subst h0; simpa [Addr.add] using hc
        · simpa [Addr.add, h0] using hc
      have hb := bounds_u8 (g6 _ (getD_mem zs k (by omega)))
      obtain ⟨v, hv⟩ : ∃ v, v = zs.getD k 0 := ⟨_, rfl⟩
      rw [← hv] at hc' hb
      obtain ⟨hb0, hb1⟩ := hb
      have G := Lib.hid (And.intro g4 (And.intro g5 (And.intro g6 hc))); clear g4 g5 g6 hc hv
      have hlt' : (k : Int) < (len : Int) := hlt
      have hn2 : 1 < n := by omega
      go_enter Tryd.func10, Tryd.ntmps10
      go_wp2
      go_ret
      exact ⟨_, rfl, Int.emod_nonneg _ (by omega), Int.emod_lt_of_pos _ (by omega), rfl⟩
  · have H := Lib.hid h; clear h
    have hn2 : 1 < n := by omega
    have hle : (len : Int) ≤ i := by omega
    clear hlt
    go_enter Tryd.func10, Tryd.ntmps10
    go_wp2
    go_ret
    exact ⟨0, rfl, Int.le_refl _, by omega, rfl⟩
end Go.Proofs.YtfmplneopmbfoaaDoor.Wds
