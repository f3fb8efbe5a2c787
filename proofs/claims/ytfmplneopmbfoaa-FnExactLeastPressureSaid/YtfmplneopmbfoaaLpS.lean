/-
  The search for the order with the least pressure, step by step. Plain mathematics.
-/
import Derived.Test.YtfmplneopmbfoaaLpW
set_option linter.unusedVariables false
namespace Lp
open Tk
/-- What is found, and what is to come. -/
structure St (ts : List T) (m : Nat) (o : List Int) (k : Nat) : Prop where
  ok : Ok ts o
  len : o.length + k = ts.length
  mn : k = 0 ∨ Lp.mn (needs ts) (Sc.doneOf o) ≤ m
  eq : o ++ grd (needs ts) m k (Sc.doneOf o) = grd (needs ts) m ts.length 0
theorem St.start {ts : List T} (hv : valid ts = true) : St ts (least ts) [] ts.length := by
  have hl := needs_len ts
  refine ⟨⟨by simp, fun x hx => by cases hx⟩, by simp, ?_, rfl⟩
  have h1 := (F_le_iff (needs ts) (s := 0) (m := least ts) (Nat.two_pow_pos _)).1 (Nat.le_refl _)
  rcases h1.2 with h | h
  · left
    rw [hl] at h
    rcases Nat.eq_zero_or_pos ts.length with h2 | h2
    · exact h2
    · have : 2 ^ 1 ≤ 2 ^ ts.length := Nat.pow_le_pow_right (by decide) h2
      omega
  · exact .inr h
theorem St.step {ts : List T} (hv : valid ts = true) {m : Nat} {o : List Int} {k : Nat} (h : St ts m o (k + 1)) :
    ∃ x, x < ts.length ∧ good (needs ts) m (Sc.doneOf o) x = true ∧ (∀ i, i < x → good (needs ts) m (Sc.doneOf o) i = false) ∧ St ts m (o ++ [(x : Int)]) k ∧ Sc.doneOf (o ++ [(x : Int)]) = Sc.doneOf o ||| 2 ^ x := by
  have h8 := len_of_valid hv
  have hbk := bk_needs hv
  have hl := needs_len ts
  have h8' : (needs ts).length ≤ 8 := by omega
  have hlen := h.len
  have hs := h.ok.done_lt
  have hne := len_done h.ok (by omega)
  rw [← hl] at hs hne
  have hm' : Lp.mn (needs ts) (Sc.doneOf o) ≤ m := by
    rcases h.mn with hm | hm
    · omega
    · exact hm
  obtain ⟨q, hq, hg⟩ := (good_some hbk h8' hs hne).2 hm'
  obtain ⟨f1, f2, f3⟩ := fst_spec (p := good (needs ts) m (Sc.doneOf o)) hq hg
  have he := h.eq
  rw [grd] at he
  obtain ⟨x, hx⟩ : ∃ x, x = fst (good (needs ts) m (Sc.doneOf o)) (needs ts).length := ⟨_, rfl⟩
  rw [← hx] at f1 f2 f3 he
  have f2' := f2
  rw [good, Bool.and_eq_true] at f2
  have hnb := next_bit f2.1
  rw [Sc.tb_doneOf fun x hx => (h.ok.rg x hx).1] at hnb
  have hx' : x < ts.length := by omega
  have h2' := h.ok.snoc hx' hnb
  have hs2 := h2'.done_lt
  rw [← hl] at hs2
  have hF := (F_le_iff (needs ts) (m := m) hs2).1 (by rw [done_snoc]; exact of_decide_eq_true f2.2)
  have hlen2 : (o ++ [(x : Int)]).length = o.length + 1 := by simp
  refine ⟨x, hx', f2', f3, ⟨h2', by rw [hlen2]; omega, ?_, ?_⟩, done_snoc o x⟩
  · rcases hF.2 with h3 | h3
    · left
      rcases Nat.eq_zero_or_pos k with h0 | h0
      · exact h0
      · exact absurd (by rw [h3, hl]) (len_done h2' (by rw [hlen2]; omega))
    · exact .inr h3
  · rw [done_snoc, List.append_assoc]; exact he
theorem St.fin {ts : List T} {m : Nat} {o : List Int} (h : St ts m o 0) : o = grd (needs ts) m ts.length 0 := by
  have := h.eq
  rwa [grd, List.append_nil] at this
def leastOf (ts : List T) : List Int × Nat × Bool := if valid ts then (order ts, least ts, true) else ([], 0, false)
end Lp
