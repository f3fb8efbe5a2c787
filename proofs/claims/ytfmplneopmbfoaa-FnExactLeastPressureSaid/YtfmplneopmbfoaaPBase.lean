/-
  What every law's frame asks of the whole program: that a call may enter it, and that it lifts no variable of its own. Closed facts, reckoned once.
-/
import Derived.Test.YtfmplneopmbfoaaRows
import Derived.WalkKit
import Derived.JoinedOf
namespace Go.Proofs.Ytfmplneopmbfoaa.PBase
open Go.RowKit
theorem both : ((Program.mayEnter Try.prog && !(Program.liftsFinal Try.prog)) && (Program.make Try.prog == some .cut)) = true := by kernel_rfl
theorem of_and {a b : Bool} (h : (a && b) = true) : a = true ∧ b = true := by cases a <;> cases b <;> simp_all
theorem may : Program.mayEnter Try.prog = true := (of_and (of_and both).1).1
theorem made : (Program.make Try.prog == some .cut) = true := (of_and both).2
theorem lift {b : Bool} (h : b = false) : (b == Program.liftsFinal Try.prog) = true := by
  have h2 := (of_and (of_and both).1).2
  rw [Bool.not_eq_true'] at h2
  rw [h, h2]; rfl
theorem mk_ {m : Make} (h : m = .cut) : (Program.make Try.prog == some m) = true := by rw [h]; exact made
theorem and2 {a b : Bool} (h : a = true) (k : b = true) : (a && b) = true := by rw [h, k]; rfl
end Go.Proofs.Ytfmplneopmbfoaa.PBase
