/-
  Lists of ranges in memory: a slice that reads as a list (RdG), a slice whose row was made between two moments of the call (OwnG); what a walk is told of an argument that is a slice of ranges. Small lemmas; no walk.
-/
import Derived.Test.YtfmplneopmbfoaaLst
import Derived.Test.YtfmplneopmbfoaaRgM
import Derived.Deep.Slices
import Derived.Deep.Fields
import Derived.ChangeSame
namespace Go.Proofs.Ytfmplneopmbfoaa.Wds
open Go.RowKit
set_option linter.unusedVariables false

/-- What a walk is told of a slice of ranges that came in. -/
theorem list_ofG {α : Type} {P : Nat → α → Prop} : ∀ n : Nat, (∀ i, i < n → ∃ s, P i s) → ∃ l : List α, l.length = n ∧ ∀ i s, l[i]? = some s → P i s := by
  intro n
  induction n with
  | zero => intro _; exact ⟨[], rfl, fun i s h => by simp at h⟩
  | succ n ih =>
    intro h
    obtain ⟨l, hl, hp⟩ := ih fun i hi => h i (by omega)
    obtain ⟨s, hs⟩ := h n (by omega)
    refine ⟨l ++ [s], by simp [hl], fun i t ht => ?_⟩
    rcases Nat.lt_trichotomy i n with hi | hi | hi
    · rw [List.getElem?_append_left (by omega)] at ht; exact hp i t ht
    · subst hi; rw [List.getElem?_append_right (by omega), hl, Nat.sub_self] at ht
      simp at ht; subst ht; exact hs
    · rw [List.getElem?_eq_none (by simp; omega)] at ht; cases ht
end Go.Proofs.Ytfmplneopmbfoaa.Wds
