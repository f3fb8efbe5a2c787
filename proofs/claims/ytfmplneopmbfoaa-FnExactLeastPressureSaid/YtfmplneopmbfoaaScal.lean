/-
  What the scalar functions of chapter 1 return and do to memory, over the translated program: one contract each (the code's own and the model's).
-/
import Derived.Test.YtfmplneopmbfoaaWords
import Derived.Test.YtfmplneopmbfoaaBits
namespace Go.Proofs.Ytfmplneopmbfoaa.Wds
open Go.RowKit

theorem ret_word {k : IntKind} {a b : Int} {c : Bool} (h : a = b) : Ending.returned (.tuple #[.int k a, .bool c]) = .returned (.tuple #[.int k b, .bool c]) := by rw [h]
theorem ret_two {a b c : Bool} (h : a = b) : Ending.returned (.tuple #[.bool a, .bool c]) = .returned (.tuple #[.bool b, .bool c]) := by rw [h]
theorem pw_bd {b : Int} (h : Wd.IsBits b) : 16 ≤ Wd.pw b ∧ Wd.pw b ≤ 65536 ∧ Wd.pw b = 2 * Wd.hf b ∧ 4 ≤ b ∧ b ≤ 16 := by
  rcases Wd.bits_cases h with ⟨h0, h1, h2⟩ | ⟨h0, h1, h2⟩ | ⟨h0, h1, h2⟩ <;> omega

theorem comm_false {op : Int} (h : ¬ (0 ≤ op ∧ op ≤ 17)) : Wd.comm op = false := by simp only [Wd.comm]; rw [decide_eq_false h]; rfl
end Go.Proofs.Ytfmplneopmbfoaa.Wds
