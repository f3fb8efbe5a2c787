/-
  The parts of a text between marks; what the library's split gives of them (no program).
-/
import Derived.Lib.Split
import Derived.Test.YtancbcjeackmkaaDoorRdMath
namespace Wd
open Go.Lib
set_option linter.unusedVariables false
def addH (p : List UInt8) : List (List UInt8) → List (List UInt8)
  | q :: qs => (p ++ q) :: qs
  | [] => [p]
/-- The parts of a text between marks. -/
def cut (m : UInt8) : List UInt8 → List (List UInt8)
  | [] => [[]]
  | c :: r => if c = m then [] :: cut m r else addH [c] (cut m r)
theorem addH_ne (p : List UInt8) (X : List (List UInt8)) : addH p X ≠ [] := by cases X <;> simp [addH]
theorem addH_len (p : List UInt8) {X : List (List UInt8)} (h : X ≠ []) : (addH p X).length = X.length := by
  cases X with
  | nil => exact absurd rfl h
  | cons q qs => simp [addH]
theorem addH_addH (p q : List UInt8) (X : List (List UInt8)) : addH p (addH q X) = addH (p ++ q) X := by cases X <;> simp [addH]
theorem addH_nil {X : List (List UInt8)} (h : X ≠ []) : addH [] X = X := by
  cases X with
  | nil => exact absurd rfl h
  | cons q qs => simp [addH]
theorem cut_ne (m : UInt8) (l : List UInt8) : cut m l ≠ [] := by
  cases l with
  | nil => simp [cut]
  | cons c r =>
    unfold cut
    split
    · simp
    · exact addH_ne _ _
theorem cut_eq (m : UInt8) (r : List UInt8) : cut m (m :: r) = [] :: cut m r := by rw [cut, if_pos rfl]
theorem cut_step {m c : UInt8} (h : c ≠ m) (r : List UInt8) : cut m (c :: r) = addH [c] (cut m r) := by rw [cut, if_neg h]
theorem cut_len (m : UInt8) (l : List UInt8) : (cut m l).length ≤ l.length + 1 := by
  induction l with
  | nil => simp [cut]
  | cons c r ih =>
    by_cases h : c = m
    · subst h; rw [cut_eq]; simp; omega
    · rw [cut_step h, addH_len _ (cut_ne _ _), List.length_cons]; omega
/-- The loop's rounds: what is done, the part under way, the rest. -/
theorem cut_mark {m : UInt8} {l : List UInt8} {done : List (List UInt8)} {p : List UInt8} {k : Nat} (hk : k < l.length) (hm : l[k] = m) (h : cut m l = done ++ addH p (cut m (l.drop k))) :
    cut m l = (done ++ [p]) ++ addH [] (cut m (l.drop (k + 1))) := by
  rw [h, List.drop_eq_getElem_cons hk, hm, cut_eq, addH_nil (cut_ne _ _)]
  simp [addH]
theorem cut_other {m : UInt8} {l : List UInt8} {done : List (List UInt8)} {p : List UInt8} {k : Nat} (hk : k < l.length) (hm : l[k] ≠ m) (h : cut m l = done ++ addH p (cut m (l.drop k))) :
    cut m l = done ++ addH (p ++ [l[k]]) (cut m (l.drop (k + 1))) := by
  rw [h, List.drop_eq_getElem_cons hk, cut_step hm, addH_addH]
theorem cut_end {m : UInt8} {l : List UInt8} {done : List (List UInt8)} {p : List UInt8} {k : Nat} (hk : l.length ≤ k) (h : cut m l = done ++ addH p (cut m (l.drop k))) : cut m l = done ++ [p] := by
  rw [h, List.drop_eq_nil_iff.2 hk]
  simp [cut, addH]
theorem part_succ {l : List UInt8} {f k : Nat} (hf : f ≤ k) (hk : k < l.length) : (l.drop f).take (k - f) ++ [l[k]] = (l.drop f).take (k + 1 - f) := by
  rw [show k + 1 - f = (k - f) + 1 by omega, List.take_succ_eq_append_getElem (by rw [List.length_drop]; omega)]
  congr 2
  rw [List.getElem_drop]
  congr 1; omega
theorem index_nil (m : UInt8) : index [] [m] = -1 := by unfold index; rfl
theorem index_here (m : UInt8) (r : List UInt8) : index (m :: r) [m] = 0 := by unfold index; simp [List.isPrefixOf]
theorem index_past {m c : UInt8} (h : c ≠ m) (r : List UInt8) : index (c :: r) [m] = if index r [m] == -1 then -1 else index r [m] + 1 := by
  conv => lhs; unfold index
  have : ([m].isPrefixOf (c :: r)) = false := by simp [List.isPrefixOf]; exact fun e => h e.symm
  rw [this]; rfl
theorem splitK_here (m : UInt8) (k : Nat) (r : List UInt8) : splitK [m] 0 (k + 1) (m :: r) = [] :: splitK [m] 0 k r := by
  rw [splitK, index_here]; rfl
theorem splitK_past {m c : UInt8} (h : c ≠ m) (k : Nat) (r : List UInt8) : splitK [m] 0 k (c :: r) = addH [c] (splitK [m] 0 k r) := by
  cases k with
  | zero => rfl
  | succ k =>
    have hg := index_ge r [m]
    rw [splitK, splitK, index_past h]
    by_cases hi : (index r [m] == -1) = true
    · rw [if_pos hi, if_pos hi, if_pos (by rfl)]; rfl
    · have hi' : index r [m] ≠ -1 := fun e => hi (by rw [e]; rfl)
      rw [if_neg hi, if_neg hi, if_neg (by rw [beq_iff_eq]; omega)]
      have e : (index r [m] + 1).toNat = (index r [m]).toNat + 1 := by omega
      rw [e]
      simp [addH]
theorem splitK_nil (m : UInt8) (k : Nat) : splitK [m] 0 k [] = [[]] := by
  cases k with
  | zero => rfl
  | succ k => rw [splitK, index_nil]; rfl
theorem splitK_ne (m : UInt8) (k : Nat) (l : List UInt8) : splitK [m] 0 k l ≠ [] := by
  cases k with
  | zero => simp [splitK]
  | succ k => rw [splitK]; split <;> simp
theorem splitK_few (m : UInt8) (l : List UInt8) : ∀ k, (cut m l).length ≤ k + 1 → splitK [m] 0 k l = cut m l := by
  induction l with
  | nil => intro k _; rw [splitK_nil]; rfl
  | cons c r ih =>
    intro k hk
    by_cases h : c = m
    · subst h
      rw [cut_eq, List.length_cons] at hk
      have hp := List.length_pos_iff.2 (cut_ne c r)
      cases k with
      | zero => omega
      | succ k => rw [splitK_here, cut_eq, ih k (by omega)]
    · rw [cut_step h, addH_len _ (cut_ne _ _)] at hk
      rw [splitK_past h, cut_step h, ih k hk]
theorem splitK_many (m : UInt8) (l : List UInt8) : ∀ k, k + 1 < (cut m l).length → (splitK [m] 0 k l).length = k + 1 := by
  induction l with
  | nil => intro k hk; simp [cut] at hk
  | cons c r ih =>
    intro k hk
    by_cases h : c = m
    · subst h
      cases k with
      | zero => rfl
      | succ k =>
        rw [cut_eq, List.length_cons] at hk
        rw [splitK_here, List.length_cons, ih k (by omega)]
    · rw [cut_step h, addH_len _ (cut_ne _ _)] at hk
      rw [splitK_past h, addH_len _ (splitK_ne _ _ _), ih k hk]
/-- What the library's split at a limit tells of the parts. -/
theorem splitN_few {m : UInt8} {l : List UInt8} {N : Nat} (h : (cut m l).length ≤ N) : splitK [m] 0 (min (N + 1) (l.length + 1) - 1) l = cut m l := by
  have := cut_len m l
  exact splitK_few m l _ (by omega)
theorem splitN_many {m : UInt8} {l : List UInt8} {N : Nat} (h : N < (cut m l).length) : (splitK [m] 0 (min (N + 1) (l.length + 1) - 1) l).length = N + 1 := by
  have := cut_len m l
  by_cases h1 : (cut m l).length = N + 1
  · rw [splitK_few m l _ (by omega), h1]
  · have e : min (N + 1) (l.length + 1) - 1 = N := by omega
    rw [e]
    exact splitK_many m l N (by omega)
end Wd
