/-
  Ranges of times: which are valid, and how many of them contain a time at most. Plain mathematics.
-/
import Derived.Test.YtfmplneopmbfoaaScM
set_option linter.unusedVariables false
namespace Rg
structure R where
  f : Int
  t : Int
def zero : R := ⟨0, 0⟩
def ok (r : R) : Bool := decide (0 ≤ r.f ∧ r.f < r.t ∧ r.t ≤ 200)
def valid (rs : List R) : Bool := rs.all ok && decide (rs.length ≤ 12)
def nth (rs : List R) (k : Nat) : R := rs.getD k zero
theorem ok_iff {r : R} : ok r = true ↔ 0 ≤ r.f ∧ r.f < r.t ∧ r.t ≤ 200 := by simp [ok]
theorem ok_of_valid {c : List R} (h : valid c = true) {k : Nat} (hk : k < c.length) : ok (nth c k) = true := by
  simp only [valid, Bool.and_eq_true, List.all_eq_true] at h
  have := h.1 (c[k]) (List.getElem_mem hk)
  simpa [nth, hk] using this
theorem len_of_valid {c : List R} (h : valid c = true) : c.length ≤ 12 := by
  simp only [valid, Bool.and_eq_true, decide_eq_true_eq] at h; exact h.2
theorem valid_bad {ss : List R} {k : Nat} (hk : k < ss.length) (h : ok (nth ss k) = false) : valid ss = false := by
  cases e : valid ss
  · rfl
  · rw [ok_of_valid e hk] at h; cases h
theorem all_ok {ss : List R} (h : ∀ j, j < ss.length → ok (nth ss j) = true) : ss.all ok = true := by
  rw [List.all_eq_true]
  intro x hx
  obtain ⟨j, hj, rfl⟩ := List.getElem_of_mem hx
  have := h j hj
  rwa [nth, List.getD_eq_getElem?_getD, List.getElem?_eq_getElem hj] at this
theorem all_no {ss : List R} {k : Nat} (hk : k < ss.length) (h : ok (nth ss k) = false) : ss.all ok = false := by
  cases e : ss.all ok
  · rfl
  · rw [List.all_eq_true] at e
    have := e (ss[k]) (List.getElem_mem hk)
    rw [nth, List.getD_eq_getElem?_getD, List.getElem?_eq_getElem hk] at h
    rw [show (some ss[k]).getD zero = ss[k] from rfl, this] at h
    cases h
theorem valid_all {ss : List R} (h : ∀ j, j < ss.length → ok (nth ss j) = true) : valid ss = decide (ss.length ≤ 12) := by
  rw [valid, all_ok h, Bool.true_and]
/-- A range contains a time. -/
def has (r : R) (t : Int) : Bool := decide (r.f ≤ t ∧ t < r.t)
/-- How many numbers below n there are of which p holds. -/
def cnt (p : Nat → Bool) : Nat → Nat
  | 0 => 0
  | n + 1 => cnt p n + if p n then 1 else 0
theorem cnt_le (p : Nat → Bool) (n : Nat) : cnt p n ≤ n := by
  induction n with
  | zero => exact Nat.le_refl _
  | succ n ih => rw [cnt]; split <;> omega
theorem cnt_congr {p q : Nat → Bool} {n : Nat} (h : ∀ k, k < n → p k = q k) : cnt p n = cnt q n := by
  induction n with
  | zero => rfl
  | succ n ih => rw [cnt, cnt, ih (fun k hk => h k (by omega)), h n (by omega)]
theorem cnt_more {p : Nat → Bool} {n m : Nat} (h : n ≤ m) (hp : ∀ k, n ≤ k → k < m → p k = false) : cnt p m = cnt p n := by
  induction m with
  | zero => obtain rfl : n = 0 := by omega
            rfl
  | succ m ih =>
    by_cases e : n = m + 1
    · subst e; rfl
    · rw [cnt, ih (by omega) (fun k h1 h2 => hp k h1 (by omega)), hp m (by omega) (by omega)]; simp
/-- How many bits of a number are 1. -/
def pop (s : Nat) : Nat := cnt s.testBit 32
theorem pop_setOf (p : Nat → Bool) {n : Nat} (h : n ≤ 32) : pop (Sc.setOf p n) = cnt p n := by
  unfold pop
  rw [cnt_more h (fun k h1 _ => by rw [Sc.tb_setOf, decide_eq_false (by omega)]; rfl)]
  exact cnt_congr fun k hk => by rw [Sc.tb_setOf, decide_eq_true hk]; rfl
/-- The ranges that contain the start of the range i. -/
def inAt (rs : List R) (i k : Nat) : Bool := has (nth rs k) (nth rs i).f
def crowd (rs : List R) (i : Nat) : Nat := Sc.setOf (inAt rs i) rs.length
/-- The greatest crowd of the first i. -/
def widAt (rs : List R) : Nat → Nat
  | 0 => 0
  | i + 1 => max (widAt rs i) (cnt (inAt rs i) rs.length)
def width (rs : List R) : Nat := widAt rs rs.length
theorem widAt_le (rs : List R) (i : Nat) : widAt rs i ≤ rs.length := by
  induction i with
  | zero => exact Nat.zero_le _
  | succ i ih => rw [widAt]; have := cnt_le (inAt rs i) rs.length; omega
def widthOf (rs : List R) : Int × Bool := if valid rs then ((width rs : Nat), true) else (0, false)
end Rg
