/-
  Which statements are needed for some cells: sets as bits, from the last statement on. Plain mathematics.
-/
import Derived.Test.YtnbcobhcemjbnaaDoorScM
import Derived.Test.YtnbcobhcemjbnaaDoorTkM
set_option linter.unusedVariables false
namespace Sc
/-- A step: the cells that are wanted, and the statements that are needed. -/
def ndStep (ss : List St) (st : Nat × Nat) (i : Nat) : Nat × Nat :=
  if st.1.testBit (nth ss i).d.toNat then (diff st.1 (bt (nth ss i).d) ||| (bt (nth ss i).a ||| bt (nth ss i).b), st.2 ||| 2 ^ i) else st
def ndAll (ss : List St) (c0 : Nat) (l : List Nat) : Nat × Nat := l.foldl (ndStep ss) (c0, 0)
theorem ndAll_snoc (ss : List St) (c0 : Nat) (l : List Nat) (i : Nat) : ndAll ss c0 (l ++ [i]) = ndStep ss (ndAll ss c0 l) i := by simp [ndAll]
theorem ndStep_lt {ss : List St} {n : Nat} (h : ∀ k, k < n → ok (nth ss k) = true) (hn : n ≤ 16) {st : Nat × Nat} (h1 : st.1 < 4294967296) (h2 : st.2 < 4294967296) {i : Nat} (hi : i < n) : (ndStep ss st i).1 < 4294967296 ∧ (ndStep ss st i).2 < 4294967296 := by
  obtain ⟨_, hd, ha, hb⟩ := ok_cells (h i hi)
  unfold ndStep
  split
  · exact ⟨or_lt (diff_lt h1) (or_lt (bt_lt ha.2) (bt_lt hb.2)), or_lt h2 (pow_lt (by omega))⟩
  · exact ⟨h1, h2⟩
theorem ndAll_lt {ss : List St} {n : Nat} (h : ∀ k, k < n → ok (nth ss k) = true) (hn : n ≤ 16) {c0 : Nat} (h0 : c0 < 4294967296) : ∀ l : List Nat, (∀ i ∈ l, i < n) → (ndAll ss c0 l).1 < 4294967296 ∧ (ndAll ss c0 l).2 < 4294967296 := by
  have key : ∀ (l : List Nat) (st : Nat × Nat), st.1 < 4294967296 → st.2 < 4294967296 → (∀ i ∈ l, i < n) → (l.foldl (ndStep ss) st).1 < 4294967296 ∧ (l.foldl (ndStep ss) st).2 < 4294967296 := by
    intro l
    induction l with
    | nil => intro st h1 h2 _; exact ⟨h1, h2⟩
    | cons i l ih =>
      intro st h1 h2 hl
      rw [List.foldl_cons]
      have := ndStep_lt h hn h1 h2 (hl i (List.mem_cons_self ..))
      exact ih _ this.1 this.2 fun j hj => hl j (List.mem_cons_of_mem _ hj)
  intro l hl
  exact key l _ h0 (show (0 : Nat) < 4294967296 by decide) hl
/-- From the last one on. -/
def downTo (n k : Nat) : List Nat := (List.range k).map fun j => n - 1 - j
theorem downTo_succ (n k : Nat) : downTo n (k + 1) = downTo n k ++ [n - 1 - k] := by simp [downTo, List.range_succ]
def nd (ss : List St) (c0 k : Nat) : Nat × Nat := ndAll ss c0 (downTo ss.length k)
theorem nd_succ (ss : List St) (c0 k : Nat) : nd ss c0 (k + 1) = ndStep ss (nd ss c0 k) (ss.length - 1 - k) := by rw [nd, downTo_succ, ndAll_snoc]; rfl
theorem nd_lt {ss : List St} (hv : valid ss = true) {c0 : Nat} (h0 : c0 < 4294967296) (k : Nat) (hk : k ≤ ss.length) : (nd ss c0 k).1 < 4294967296 ∧ (nd ss c0 k).2 < 4294967296 :=
  ndAll_lt (n := ss.length) (fun k hk => ok_of_valid hv hk) (len_of_valid hv) h0 _ (fun i hi => by
    unfold downTo at hi
    obtain ⟨j, hj, rfl⟩ := List.mem_map.1 hi
    have := List.mem_range.1 hj
    omega)
def neededFor (ss : List St) (cs : List Int) : List Int × Bool := if valid ss && Tk.ups 31 cs then (memsI (nd ss (doneOf cs) ss.length).2, true) else ([], false)
theorem doneOf_ups {cs : List Int} (h : Tk.ups 31 cs = true) : doneOf cs < 4294967296 := doneOf_lt fun x hx => (Tk.ups_mem h x hx).2
end Sc
