/-
  Plain mathematics of the scan by steps.
-/
import Derived.Test.YteggioppoldaaaaGreatDoorLan7
namespace Ln
set_option linter.unusedVariables false

def ssF (op b : Int) (zs : List Int) (far i : Nat) : Int := if far ≤ i then Wd.doOp op b (zs.getD (i - far) 0) (zs.getD i 0) else zs.getD i 0
def st (op b : Int) (xs : List Int) : Nat → List Int
  | 0 => xs
  | j + 1 => tab (ssF op b (st op b xs j) (2 ^ j)) xs.length
def stepScan (op b : Int) (xs : List Int) : List Int × Bool := ans (isOp op && vec b xs) (st op b xs (lg xs.length))
theorem st_len (op b : Int) (xs : List Int) : ∀ j, (st op b xs j).length = xs.length
  | 0 => rfl
  | j + 1 => tab_len _ _
theorem st_word {op b : Int} {xs : List Int} (h0 : 0 ≤ op) (h1 : op ≤ 17) (hv : vec b xs = true) : ∀ j k, k < xs.length → Wd.IsWord b ((st op b xs j).getD k 0) := by
  intro j
  induction j with
  | zero => intro k hk; exact vec_word hv hk
  | succ j ih =>
    intro k hk
    show Wd.IsWord b ((tab (ssF op b (st op b xs j) (2 ^ j)) xs.length).getD k 0)
    rw [tab_getD _ _ _ hk]
    unfold ssF
    split
    · exact word_do h0 h1 (ih _ (Nat.lt_of_le_of_lt (Nat.sub_le _ _) hk)) (ih _ hk)
    · exact ih _ hk
theorem pow_lt_lg {n j : Nat} (hn : n = 2 ∨ n = 4 ∨ n = 8 ∨ n = 16) (hj : j ≤ lg n) : (2 ^ j < n ↔ j < lg n) ∧ 2 ^ j ≤ n := by
  have hp := lg_pow hn
  have h1 : 2 ^ j ≤ 2 ^ lg n := Nat.pow_le_pow_right (by decide) hj
  refine ⟨⟨fun h => ?_, fun h => ?_⟩, by omega⟩
  · rcases Nat.lt_or_ge j (lg n) with h2 | h2
    · exact h2
    · have : j = lg n := by omega
      subst this; omega
  · have : 2 ^ j < 2 ^ lg n := Nat.pow_lt_pow_right (by decide) h
    omega
end Ln
