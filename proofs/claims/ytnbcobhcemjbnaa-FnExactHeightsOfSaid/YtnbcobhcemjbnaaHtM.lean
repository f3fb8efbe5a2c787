/-
  The heights of tasks, from the last one on; the greatest one. Plain mathematics.
-/
import Derived.Test.YtnbcobhcemjbnaaTkM
set_option linter.unusedVariables false
namespace Tk
/-- A needed task has at least the height of the task i. -/
def hStep (i : Nat) (h : List Int) (x : Int) : List Int := h.set x.toNat (max (h.getD x.toNat 0) (h.getD i 0))
/-- The heights behind the task i and q of its needs. -/
def hIn (ts : List T) (h : List Int) (i q : Nat) : List Int := ((nth ts i).ns.take q).foldl (hStep i) (h.set i (h.getD i 0 + (nth ts i).l))
/-- The heights behind the last k tasks. -/
def hts (ts : List T) : Nat → List Int
  | 0 => List.replicate ts.length 0
  | k + 1 => hIn ts (hts ts k) (ts.length - 1 - k) (nth ts (ts.length - 1 - k)).ns.length
def heights (ts : List T) : List Int := hts ts ts.length
theorem hStep_len (i : Nat) (h : List Int) (x : Int) : (hStep i h x).length = h.length := by simp [hStep]
theorem fold_len (i : Nat) (l : List Int) : ∀ h : List Int, (l.foldl (hStep i) h).length = h.length := by
  induction l with
  | nil => intro h; rfl
  | cons x l ih => intro h; rw [List.foldl_cons, ih, hStep_len]
theorem hIn_len (ts : List T) (h : List Int) (i q : Nat) : (hIn ts h i q).length = h.length := by rw [hIn, fold_len]; simp
theorem hts_len (ts : List T) (k : Nat) : (hts ts k).length = ts.length := by
  induction k with
  | zero => simp [hts]
  | succ k ih => rw [hts, hIn_len, ih]
theorem hIn_zero (ts : List T) (h : List Int) (i : Nat) : hIn ts h i 0 = h.set i (h.getD i 0 + (nth ts i).l) := rfl
theorem hIn_succ (ts : List T) (h : List Int) (i q : Nat) (hq : q < (nth ts i).ns.length) : hIn ts h i (q + 1) = hStep i (hIn ts h i q) ((nth ts i).ns.getD q 0) := by
  rw [hIn, take_snoc hq, List.foldl_append]; rfl
theorem getD_setI (h : List Int) (k j : Nat) (v : Int) (hk : k < h.length) : (h.set k v).getD j 0 = if k = j then v else h.getD j 0 := by
  rw [List.getD_eq_getElem?_getD, List.getD_eq_getElem?_getD, List.getElem?_set]
  by_cases e : k = j
  · subst e; simp [hk]
  · simp [e]
/-- All heights lie between 0 and b. -/
def Bd (h : List Int) (b : Int) : Prop := ∀ j, 0 ≤ h.getD j 0 ∧ h.getD j 0 ≤ b
theorem Bd.set {h : List Int} {b v : Int} (hb : Bd h b) (k : Nat) (h0 : 0 ≤ v) (h1 : v ≤ b) : Bd (h.set k v) b := by
  intro j
  by_cases hk : k < h.length
  · rw [getD_setI h k j v hk]
    split
    · exact ⟨h0, h1⟩
    · exact hb j
  · rw [List.set_eq_of_length_le (by omega)]; exact hb j
theorem Bd.more {h : List Int} {b c : Int} (hb : Bd h b) (hc : b ≤ c) : Bd h c := fun j => ⟨(hb j).1, by have := (hb j).2; omega⟩
theorem Bd.step {h : List Int} {b : Int} (hb : Bd h b) (i : Nat) (x : Int) : Bd (hStep i h x) b := by
  have h1 := hb x.toNat
  have h2 := hb i
  exact hb.set _ (by omega) (by omega)
theorem Bd.fold {b : Int} (i : Nat) (l : List Int) : ∀ h : List Int, Bd h b → Bd (l.foldl (hStep i) h) b := by
  induction l with
  | nil => intro h hb; exact hb
  | cons x l ih => intro h hb; rw [List.foldl_cons]; exact ih _ (hb.step i x)
theorem hIn_bd {ts : List T} {h : List Int} {i : Nat} {b : Int} (hb : Bd h b) (hl : 1 ≤ (nth ts i).l ∧ (nth ts i).l ≤ 6) (q : Nat) : Bd (hIn ts h i q) (b + 6) := by
  unfold hIn
  refine Bd.fold _ _ _ ?_
  have h1 := hb i
  exact (hb.more (by omega)).set i (by omega) (by omega)
theorem hts_bd {ts : List T} (hv : valid ts = true) : ∀ k, k ≤ ts.length → Bd (hts ts k) (6 * k) := by
  intro k
  induction k with
  | zero => intro _ j; rw [hts, List.getD_eq_getElem?_getD, List.getElem?_replicate]; split <;> simp
  | succ k ih =>
    intro hk
    rw [hts]
    have := hIn_bd (ih (by omega)) (tok_parts (tok_of_valid hv (k := ts.length - 1 - k) (by omega))).2.1 (nth ts (ts.length - 1 - k)).ns.length
    exact this.more (by omega)
/-- The greatest of the first k. -/
def maxAt (h : List Int) : Nat → Int
  | 0 => 0
  | k + 1 => max (maxAt h k) (h.getD k 0)
def heightsOf (ts : List T) : List Int × Bool := if valid ts then (heights ts, true) else ([], false)
def pathBound (ts : List T) : Int × Bool := if valid ts then (maxAt (heights ts) ts.length, true) else (0, false)
theorem maxAt_bd {h : List Int} {b : Int} (hb : Bd h b) (h0 : 0 ≤ b) (k : Nat) : 0 ≤ maxAt h k ∧ maxAt h k ≤ b := by
  induction k with
  | zero => exact ⟨Int.le_refl _, h0⟩
  | succ k ih => rw [maxAt]; have := hb k; omega
end Tk
