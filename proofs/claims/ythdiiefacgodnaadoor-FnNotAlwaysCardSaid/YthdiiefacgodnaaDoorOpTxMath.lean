/-
  The texts of the eighteen operations: the list, which text stands at which number (no program, no model).
-/
namespace Wd
def opTx : List (List UInt8) := [[97, 100, 100], [115, 117, 98], [109, 117, 108], [97, 110, 100], [111, 114], [120, 111, 114], [109, 105, 110, 117], [109, 97, 120, 117], [109, 105, 110, 115], [109, 97, 120, 115], [97, 100, 100, 117], [97, 100, 100, 115], [115, 117, 98, 117], [115, 117, 98, 115], [97, 118, 103], [115, 104, 108], [115, 104, 114, 117], [115, 104, 114, 115]]
def tx (i : Nat) : ByteArray := ⟨(opTx.getD i []).toArray⟩
def rdF (l : List UInt8) : Nat → Option Nat
  | 0 => none
  | n + 1 => match rdF l n with
    | some j => some j
    | none => if opTx.getD n [] = l then some n else none
/-- The number of a text, and whether there is one. -/
def rdB (l : List UInt8) : Bool := (rdF l 18).isSome
def rdN (l : List UInt8) : Int := (((rdF l 18).getD 0 : Nat) : Int)
theorem rdF_none {l : List UInt8} : ∀ {n : Nat}, (∀ j, j < n → opTx.getD j [] ≠ l) → rdF l n = none
  | 0, _ => rfl
  | n + 1, h => by
    unfold rdF
    rw [rdF_none (fun j hj => h j (by omega))]
    exact if_neg (h n (by omega))
theorem rdF_some {l : List UInt8} {k : Nat} (he : opTx.getD k [] = l) (hn : ∀ j, j < k → opTx.getD j [] ≠ l) : ∀ {n : Nat}, k < n → rdF l n = some k
  | 0, h => by omega
  | n + 1, h => by
    unfold rdF
    by_cases hk : k = n
    · subst hk
      rw [rdF_none hn]
      exact if_pos he
    · rw [rdF_some he hn (show k < n by omega)]
theorem rd_hit {l : List UInt8} {k : Nat} (hk : k < 18) (he : opTx.getD k [] = l) (hn : ∀ j, j < k → opTx.getD j [] ≠ l) : rdB l = true ∧ rdN l = k := by
  unfold rdB rdN
  rw [rdF_some he hn hk]
  exact ⟨rfl, rfl⟩
theorem rd_miss {l : List UInt8} (hn : ∀ j, j < 18 → opTx.getD j [] ≠ l) : rdB l = false ∧ rdN l = 0 := by
  unfold rdB rdN
  rw [rdF_none hn]
  exact ⟨rfl, rfl⟩
theorem rd_tx : ∀ k, k < 18 → rdB (opTx.getD k []) = true ∧ rdN (opTx.getD k []) = k := by decide
end Wd
