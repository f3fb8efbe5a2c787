/-
  Fewest spills: lists of numbers by their length and then one after another; the best one of some sets does not depend on the order in which they come. Plain mathematics.
-/
import Derived.Test.YtfmplneopmbfoaaRgM
set_option linter.unusedVariables false
namespace Sp
def cmpI (x y : Int) : Int := if x < y then -1 else if y < x then 1 else 0
def cmpL : List Int → List Int → Int
  | [], [] => 0
  | [], _ :: _ => -1
  | _ :: _, [] => 1
  | x :: a, y :: b => if x < y then -1 else if y < x then 1 else cmpL a b
def orI (a b : Int) : Int := if a = 0 then b else a
/-- Which of two lists of one length comes first. -/
def lexB : List Int → List Int → Bool
  | x :: a, y :: b => if x = y then lexB a b else decide (x < y)
  | _, _ => false
def less (a b : List Int) : Bool := if a.length = b.length then lexB a b else decide (a.length < b.length)
theorem cmpL_lex : ∀ (a b : List Int), a.length = b.length → decide (cmpL a b < 0) = lexB a b := by
  intro a
  induction a with
  | nil => intro b h; cases b with
    | nil => rfl
    | cons y b => simp at h
  | cons x a ih => intro b h; cases b with
    | nil => simp at h
    | cons y b =>
      rw [cmpL, lexB]
      by_cases h1 : x < y
      · rw [if_pos h1, if_neg (by omega), decide_eq_true h1]; rfl
      · rw [if_neg h1]
        by_cases h2 : y < x
        · rw [if_pos h2, if_neg (by omega), decide_eq_false h1]; rfl
        · rw [if_neg h2, if_pos (by omega)]; exact ih b (by simpa using h)
theorem or_less (a b : List Int) : decide (orI (cmpI a.length b.length) (cmpL a b) < 0) = less a b := by
  unfold orI cmpI less
  by_cases h1 : (a.length : Int) < b.length
  · rw [if_pos h1, if_neg (by decide), if_neg (by omega)]; simp; omega
  · rw [if_neg h1]
    by_cases h2 : (b.length : Int) < a.length
    · rw [if_pos h2, if_neg (by decide), if_neg (by omega)]; simp; omega
    · rw [if_neg h2, if_pos rfl, if_pos (by omega)]; exact cmpL_lex a b (by omega)
theorem lex_irr : ∀ a : List Int, lexB a a = false := by
  intro a
  induction a with
  | nil => rfl
  | cons x a ih => rw [lexB, if_pos rfl]; exact ih
theorem lex_tr : ∀ (a b c : List Int), lexB a b = true → lexB b c = true → lexB a c = true := by
  intro a
  induction a with
  | nil => intro b c h; cases b <;> simp [lexB] at h
  | cons x a ih => intro b c h k; cases b with
    | nil => simp [lexB] at h
    | cons y b => cases c with
      | nil => simp [lexB] at k
      | cons z c =>
        rw [lexB] at h k ⊢
        by_cases e1 : x = y
        · subst e1
          rw [if_pos rfl] at h
          by_cases e2 : x = z
          · subst e2
            rw [if_pos rfl] at k ⊢
            exact ih b c h k
          · rw [if_neg e2] at k ⊢; exact k
        · rw [if_neg e1] at h
          have h' := of_decide_eq_true h
          by_cases e2 : y = z
          · subst e2; rw [if_neg e1]; exact h
          · rw [if_neg e2] at k
            have k' := of_decide_eq_true k
            rw [if_neg (by omega)]; exact decide_eq_true (by omega)
theorem lex_con : ∀ (a b : List Int), a.length = b.length → lexB a b = false → lexB b a = false → a = b := by
  intro a
  induction a with
  | nil => intro b h _ _; cases b with
    | nil => rfl
    | cons y b => simp at h
  | cons x a ih => intro b h h1 h2; cases b with
    | nil => simp at h
    | cons y b =>
      rw [lexB] at h1 h2
      by_cases e : x = y
      · subst e
        rw [if_pos rfl] at h1 h2
        rw [ih b (by simpa using h) h1 h2]
      · rw [if_neg e] at h1
        rw [if_neg (fun h => e h.symm)] at h2
        have h1' := of_decide_eq_false h1
        have h2' := of_decide_eq_false h2
        omega
theorem less_irr (a : List Int) : less a a = false := by rw [less, if_pos rfl]; exact lex_irr a
theorem less_tr {a b c : List Int} (h : less a b = true) (k : less b c = true) : less a c = true := by
  unfold less at h k ⊢
  by_cases e1 : a.length = b.length
  · rw [if_pos e1] at h
    by_cases e2 : b.length = c.length
    · rw [if_pos e2] at k
      rw [if_pos (by omega)]; exact lex_tr a b c h k
    · rw [if_neg e2] at k
      have := of_decide_eq_true k
      rw [if_neg (by omega)]; exact decide_eq_true (by omega)
  · rw [if_neg e1] at h
    have h' := of_decide_eq_true h
    by_cases e2 : b.length = c.length
    · rw [if_neg (by omega)]; exact decide_eq_true (by omega)
    · rw [if_neg e2] at k
      have := of_decide_eq_true k
      rw [if_neg (by omega)]; exact decide_eq_true (by omega)
theorem less_con {a b : List Int} (h : less a b = false) (k : less b a = false) : a = b := by
  unfold less at h k
  by_cases e : a.length = b.length
  · rw [if_pos e] at h
    rw [if_pos e.symm] at k
    exact lex_con a b e h k
  · rw [if_neg e] at h
    rw [if_neg (fun x => e x.symm)] at k
    have := of_decide_eq_false h
    have := of_decide_eq_false k
    omega
/-- The best set of some, where one is given to begin with. -/
def bst (ok : Nat → Bool) (i : Nat) (l : List Nat) : Nat := l.foldl (fun b s => if ok s && less (Sc.memsI s) (Sc.memsI b) then s else b) i
theorem bst_snoc (ok : Nat → Bool) (i : Nat) (l : List Nat) (x : Nat) : bst ok i (l ++ [x]) = if ok x && less (Sc.memsI x) (Sc.memsI (bst ok i l)) then x else bst ok i l := by simp [bst]
structure IsB (ok : Nat → Bool) (l : List Nat) (i b : Nat) : Prop where
  mem : b = i ∨ (b ∈ l ∧ ok b = true)
  min : ∀ s, s = i ∨ (s ∈ l ∧ ok s = true) → less (Sc.memsI s) (Sc.memsI b) = false
theorem IsB.step {ok : Nat → Bool} {l : List Nat} {i b : Nat} (h : IsB ok l i b) (x : Nat) : IsB ok (l ++ [x]) i (if ok x && less (Sc.memsI x) (Sc.memsI b) then x else b) := by
  by_cases hx : (ok x && less (Sc.memsI x) (Sc.memsI b)) = true
  · rw [if_pos hx]
    rw [Bool.and_eq_true] at hx
    refine ⟨.inr ⟨by simp, hx.1⟩, fun s hs => ?_⟩
    cases e : less (Sc.memsI s) (Sc.memsI x)
    · rfl
    · have h2 := less_tr e hx.2
      rcases hs with rfl | ⟨hm, hk⟩
      · rw [h.min s (.inl rfl)] at h2; cases h2
      · rcases List.mem_append.1 hm with hm | hm
        · rw [h.min s (.inr ⟨hm, hk⟩)] at h2; cases h2
        · obtain rfl : s = x := by simpa using hm
          rw [less_irr] at e; cases e
  · rw [if_neg hx]
    refine ⟨?_, fun s hs => ?_⟩
    · rcases h.mem with h1 | ⟨h1, h2⟩
      · exact .inl h1
      · exact .inr ⟨List.mem_append_left _ h1, h2⟩
    · rcases hs with rfl | ⟨hm, hk⟩
      · exact h.min s (.inl rfl)
      · rcases List.mem_append.1 hm with hm | hm
        · exact h.min s (.inr ⟨hm, hk⟩)
        · obtain rfl : s = x := by simpa using hm
          rw [hk, Bool.true_and] at hx
          cases e : less (Sc.memsI s) (Sc.memsI b)
          · rfl
          · exact absurd e hx
theorem bst_isB (ok : Nat → Bool) (i : Nat) (l : List Nat) : IsB ok l i (bst ok i l) := by
  have key : ∀ (l pre : List Nat) (b : Nat), IsB ok pre i b → IsB ok (pre ++ l) i (l.foldl (fun b s => if ok s && less (Sc.memsI s) (Sc.memsI b) then s else b) b) := by
    intro l
    induction l with
    | nil => intro pre b h; simpa using h
    | cons x l ih =>
      intro pre b h
      have := ih (pre ++ [x]) _ (h.step x)
      rw [List.append_assoc] at this
      exact this
  have := key l [] i ⟨.inl rfl, fun s hs => by
    rcases hs with rfl | ⟨hm, _⟩
    · exact less_irr _
    · cases hm⟩
  exact this
theorem bst_same (ok : Nat → Bool) (i : Nat) {l l' : List Nat} (h : ∀ s, s ∈ l ↔ s ∈ l') : Sc.memsI (bst ok i l) = Sc.memsI (bst ok i l') := by
  have h1 := bst_isB ok i l
  have h2 := bst_isB ok i l'
  refine less_con ?_ ?_
  · refine h2.min _ ?_
    rcases h1.mem with e | ⟨e1, e2⟩
    · exact .inl e
    · exact .inr ⟨(h _).1 e1, e2⟩
  · refine h1.min _ ?_
    rcases h2.mem with e | ⟨e1, e2⟩
    · exact .inl e
    · exact .inr ⟨(h _).2 e1, e2⟩
theorem bst_lt {ok : Nat → Bool} {i N : Nat} {l : List Nat} (hi : i < N) (hl : ∀ s ∈ l, s < N) : bst ok i l < N := by
  rcases (bst_isB ok i l).mem with e | ⟨e, _⟩
  · rw [e]; exact hi
  · exact hl _ e
/-- From the greatest one down, k of them. -/
def down (N k : Nat) : List Nat := (List.range k).map fun j => N - 1 - j
theorem down_succ (N k : Nat) : down N (k + 1) = down N k ++ [N - 1 - k] := by simp [down, List.range_succ]
theorem down_len (N k : Nat) : (down N k).length = k := by simp [down]
theorem down_mem (N : Nat) (s : Nat) : s ∈ List.range N ↔ s ∈ down N N := by
  simp only [down, List.mem_map, List.mem_range]
  constructor
  · intro h; exact ⟨N - 1 - s, by omega, by omega⟩
  · rintro ⟨j, hj, rfl⟩; omega
/-- The greatest crowd of the first k that is left without the members of a set. -/
def wid (rs : List Rg.R) (s : Nat) : Nat → Nat
  | 0 => 0
  | k + 1 => max (wid rs s k) (Rg.cnt (fun x => Rg.inAt rs k x && !s.testBit x) rs.length)
theorem wid_le (rs : List Rg.R) (s k : Nat) : wid rs s k ≤ rs.length := by
  induction k with
  | zero => exact Nat.zero_le _
  | succ k ih => rw [wid]; have := Rg.cnt_le (fun x => Rg.inAt rs k x && !s.testBit x) rs.length; omega
theorem diff_setOf (p : Nat → Bool) (n s : Nat) : Sc.diff (Sc.setOf p n) s = Sc.setOf (fun x => p x && !s.testBit x) n :=
  Nat.eq_of_testBit_eq fun k => by rw [Sc.tb_diff, Sc.tb_setOf, Sc.tb_setOf, Bool.and_assoc]
def okW (rs : List Rg.R) (r : Int) (s : Nat) : Bool := decide ((wid rs s rs.length : Int) ≤ r)
def isReg (r : Int) : Bool := decide (0 ≤ r ∧ r ≤ 12)
def fewest (rs : List Rg.R) (r : Int) : List Int := Sc.memsI (bst (okW rs r) (2 ^ rs.length - 1) (List.range (2 ^ rs.length)))
def fewestOf (rs : List Rg.R) (r : Int) : List Int × Bool := if Rg.valid rs && isReg r then (fewest rs r, true) else ([], false)
theorem fewest_down (rs : List Rg.R) (r : Int) : fewest rs r = Sc.memsI (bst (okW rs r) (2 ^ rs.length - 1) (down (2 ^ rs.length) (2 ^ rs.length))) :=
  bst_same _ _ fun s => down_mem _ s
theorem mems_len (s : Nat) : (Sc.memsI s).length = Rg.pop s := by
  rw [Sc.memsI, List.length_map, Sc.mems, Rg.pop]
  generalize 32 = n
  induction n with
  | zero => rfl
  | succ n ih =>
    rw [List.range_succ, List.filter_append, List.length_append, ih, Rg.cnt]
    congr 1
    by_cases h : s.testBit n = true <;> simp [h]
end Sp
