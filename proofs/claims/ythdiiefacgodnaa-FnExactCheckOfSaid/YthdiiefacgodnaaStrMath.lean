/-
  Plain mathematics of the texts of chapter 1: names, check numbers (no program, no model). No conditions beyond those written in each lemma.
-/
namespace Wd
def letter (c : UInt8) : Bool := decide (97 ≤ c.toNat ∧ c.toNat ≤ 122)
def isName (l : List UInt8) : Bool := decide (1 ≤ l.length ∧ l.length ≤ 8) && l.all letter
theorem isName_short {l : List UInt8} (h : ¬ (1 ≤ l.length ∧ l.length ≤ 8)) : isName l = false := by unfold isName; rw [decide_eq_false h]; rfl
theorem isName_bad {l : List UInt8} {k : Nat} (hk : k < l.length) (h : letter l[k] = false) : isName l = false := by
  unfold isName
  have : l.all letter = false := by
    rw [List.all_eq_false]
    exact ⟨l[k], List.getElem_mem hk, by simp [h]⟩
  rw [this, Bool.and_false]
theorem isName_good {l : List UInt8} (h0 : 1 ≤ l.length ∧ l.length ≤ 8) (h : l.all letter = true) : isName l = true := by
  unfold isName; rw [decide_eq_true h0, h]; rfl
theorem all_take_succ {l : List UInt8} {k : Nat} (hk : k < l.length) (h : (l.take k).all letter = true) (hl : letter l[k] = true) : (l.take (k + 1)).all letter = true := by
  rw [List.take_succ_eq_append_getElem hk, List.all_append, h]; simp [hl]
def chk (n : Int) (l : List UInt8) : Int := l.foldl (fun n c => (173 * n + c.toNat + 3) % 64007) n
theorem chk_bd {n : Int} (h : 0 ≤ n ∧ n ≤ 64006) (l : List UInt8) : 0 ≤ chk n l ∧ chk n l ≤ 64006 := by
  induction l generalizing n with
  | nil => exact h
  | cons c l ih => exact ih (n := (173 * n + c.toNat + 3) % 64007) (by omega)
theorem chk_succ (n : Int) {l : List UInt8} {k : Nat} (hk : k < l.length) : chk n (l.take (k + 1)) = (173 * chk n (l.take k) + (l[k]).toNat + 3) % 64007 := by
  rw [List.take_succ_eq_append_getElem hk]; unfold chk; rw [List.foldl_append]; rfl
end Wd
