/-
  The set of the first numbers; whether a number lies in a range: the code's functions, one contract each.
-/
import Derived.Test.YtfmplneopmbfoaaU32
import Derived.Test.YtfmplneopmbfoaaScal
namespace Go.Proofs.Ytfmplneopmbfoaa.Wds
open Go.RowKit
set_option linter.unusedVariables false

theorem ones_any (n : Nat) (w : World) (hn : n ≤ 31) : Calls Try.prog 85 #[.int .i64 (n : Int)] w fun e w' => e = .returned (.int .u32 ((2 ^ n - 1 : Nat) : Int)) ∧ w = w' := by
  have hp := pow_u32 n hn
  have h1 : 1 ≤ 2 ^ n := Nat.one_le_two_pow
  have h2 := Sc.pow_lt hn
  obtain ⟨N, hN⟩ : ∃ N, N = 2 ^ n := ⟨_, rfl⟩
  rw [← hN] at hp h1 h2 ⊢
  have u1 : IntKind.u32.wrap ((N : Int) - 1) = ((N - 1 : Nat) : Int) := by rw [IntKind.wrap_u32]; omega
  clear hN
  go_enter Try.func85, Try.ntmps85
  go_wp2
  go_ret
  exact ⟨rfl, rfl⟩
/-- Whether a number lies in a range: no error, or one that is new. -/
theorem withinO (n lo hi : Int) (b : Bool) (hb : decide (lo ≤ n ∧ n ≤ hi) = b) (w : World) :
    Calls Try.prog 84 #[.int .i64 n, .int .i64 lo, .int .i64 hi] w fun e w' => ((b = true ∧ e = .returned .nilIface) ∨ (b = false ∧ ∃ ad, e = .returned (.iface 107 (.pointer (some ad))))) ∧ Below w.heap.size w w' := by
  by_cases h : lo ≤ n ∧ n ≤ hi
  · rw [decide_eq_true h] at hb
    exact (within_in n lo hi w h.1 h.2).mono fun e w' ⟨he, hw⟩ => ⟨.inl ⟨hb.symm, he⟩, hw ▸ Below.refl _ _⟩
  · rw [decide_eq_false h] at hb
    by_cases h1 : n < lo
    · exact (within_lo n lo hi w h1).mono fun e w' ⟨he, hw⟩ => ⟨.inr ⟨hb.symm, _, he⟩, hw ▸ (Below.refl _ _).alloc (Nat.le_refl _) _⟩
    · exact (within_hi n lo hi w (by omega) (by omega)).mono fun e w' ⟨he, hw⟩ => ⟨.inr ⟨hb.symm, _, he⟩, hw ▸ (Below.refl _ _).alloc (Nat.le_refl _) _⟩
end Go.Proofs.Ytfmplneopmbfoaa.Wds
