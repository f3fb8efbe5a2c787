/-
  Named shuffles: the code's and the model's functions; one contract each.
-/
import Derived.Test.YtfmplneopmbfoaaInv
import Derived.Test.YtfmplneopmbfoaaBits
namespace Go.Proofs.Ytfmplneopmbfoaa.Wds
open Go.RowKit
set_option linter.unusedVariables false

theorem ret_wordN {k : IntKind} {a b : Int} {c : Bool} (h : a = b) : Ending.returned (.tuple #[.int k a, .bool c]) = .returned (.tuple #[.int k b, .bool c]) := by rw [h]
theorem xor64 {n i b : Int} (h : Ln.lanes n = true) (hi : 0 ≤ i ∧ i < n) (hb : 0 ≤ b ∧ b < n) : bits .xor .i64 i b = ((i.toNat ^^^ b.toNat : Nat) : Int) := by
  have := Ln.lanes_cases h
  exact (Bts.three_i64 i b hi.1 (by omega) hb.1 (by omega)).2.2
end Go.Proofs.Ytfmplneopmbfoaa.Wds
