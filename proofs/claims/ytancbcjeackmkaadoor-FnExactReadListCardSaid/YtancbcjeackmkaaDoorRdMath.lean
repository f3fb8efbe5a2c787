/-
  Reading a decimal text: what the text of a number is read as, by the model's digits and by the library's parser (no program).
-/
import Derived.Lib.ItoaNum
import Derived.Lib.ParseIntBCases
namespace Wd
open Go.Lib
set_option linter.unusedVariables false
def rdStep (a : Nat) (c : UInt8) : Nat := if 48 ≤ c.toNat ∧ c.toNat ≤ 57 then 10 * a + (c.toNat - 48) else a
def rdN (acc : Nat) (l : List UInt8) : Nat := l.foldl rdStep acc
/-- The number with a text, if there is one from -1000000000 to 1000000000. -/
def rdW (l : List UInt8) : Int := if l.head? = some 45 then -(rdN 0 l : Int) else (rdN 0 l : Int)
def rdV (l : List UInt8) : Option Int := if 1 ≤ l.length ∧ l.length ≤ 11 ∧ rdN 0 l ≤ 1000000000 ∧ itoa (rdW l) = l then some (rdW l) else none
theorem rdW_bd {l : List UInt8} (h : rdN 0 l ≤ 1000000000) : -1000000000 ≤ rdW l ∧ rdW l ≤ 1000000000 := by unfold rdW; split <;> omega
theorem ofNat_dig {d : Nat} (h : d < 10) : (UInt8.ofNat (48 + d)).toNat = 48 + d := by simp; omega
theorem dec_digs (u : Nat) : ∀ c ∈ decDigits u, 48 ≤ c.toNat ∧ c.toNat ≤ 57 := by
  induction u using Nat.strongRecOn with
  | _ u ih =>
    intro c hc
    rw [decDigits] at hc
    by_cases h : u < 10
    · rw [dif_pos h] at hc
      rw [List.mem_singleton.1 hc, ofNat_dig h]; omega
    · rw [dif_neg h] at hc
      rcases List.mem_append.1 hc with hc | hc
      · exact ih _ (by omega) c hc
      · rw [List.mem_singleton.1 hc, ofNat_dig (by omega)]; omega
theorem dec_ne (u : Nat) : decDigits u ≠ [] := by
  rw [decDigits]
  split <;> simp
theorem rdN_dec (u : Nat) : rdN 0 (decDigits u) = u := by
  induction u using Nat.strongRecOn with
  | _ u ih =>
    rw [decDigits]
    by_cases h : u < 10
    · rw [dif_pos h]; simp only [rdN, List.foldl_cons, List.foldl_nil, rdStep, ofNat_dig h]
      rw [if_pos (by omega)]; omega
    · rw [dif_neg h]
      have e := ih (u / 10) (by omega)
      unfold rdN at e ⊢
      rw [List.foldl_append, e]; simp only [List.foldl_cons, List.foldl_nil, rdStep, ofNat_dig (show u % 10 < 10 by omega)]
      rw [if_pos (by omega)]; omega
theorem rdN_ge (l : List UInt8) : ∀ acc, (∀ c ∈ l, 48 ≤ c.toNat ∧ c.toNat ≤ 57) → acc ≤ rdN acc l := by
  induction l with
  | nil => intro acc _; exact Nat.le_refl _
  | cons c l ih =>
    intro acc h
    have h1 := ih (rdStep acc c) (fun x hx => h x (List.mem_cons_of_mem _ hx))
    have hc := h c (List.mem_cons_self ..)
    have h2 : acc ≤ rdStep acc c := by unfold rdStep; rw [if_pos hc]; omega
    exact Nat.le_trans h2 h1
theorem parse_digs (M : Nat) (hM : 1000000000 ≤ M) (l : List UInt8) : ∀ acc, (∀ c ∈ l, 48 ≤ c.toNat ∧ c.toNat ≤ 57) → rdN acc l ≤ 1000000000 → parseUintM M acc l = .ok (rdN acc l) := by
  induction l with
  | nil => intro acc _ _; rfl
  | cons c l ih =>
    intro acc h hb
    have hc := h c (List.mem_cons_self ..)
    have hl : ∀ x ∈ l, 48 ≤ x.toNat ∧ x.toNat ≤ 57 := fun x hx => h x (List.mem_cons_of_mem _ hx)
    have e : rdStep acc c = acc * 10 + (c.toNat - 48) := by unfold rdStep; rw [if_pos hc]; omega
    have hb' : rdN (rdStep acc c) l ≤ 1000000000 := hb
    have hg := rdN_ge l (rdStep acc c) hl
    rw [parseUintM, if_pos hc, if_neg (by omega), if_neg (by omega), ← e]
    exact ih _ hl hb'
theorem parseU_dec (u : Nat) (h : u ≤ 1000000000) : parseUintB 64 (decDigits u) = .ok u := by
  unfold parseUintB
  rw [if_neg (dec_ne u), parse_digs _ (by decide) _ 0 (dec_digs u) (by rw [rdN_dec]; exact h), rdN_dec]
theorem parse_itoa (v : Int) (h0 : -1000000000 ≤ v) (h1 : v ≤ 1000000000) : parseIntB 64 (itoa v) = .ok v := by
  unfold itoa
  by_cases hv : v < 0
  · rw [if_pos hv, parseIntB_minus, parseU_dec _ (by omega)]
    show (if 9223372036854775808 < v.natAbs then NumEnd.range else NumEnd.ok (-(v.natAbs : Int))) = _
    rw [if_neg (by omega)]
    congr 1; omega
  · rw [if_neg hv]
    have hp := parseU_dec v.toNat (by omega)
    have hd := dec_digs v.toNat
    cases hl : decDigits v.toNat with
    | nil => exact absurd hl (dec_ne _)
    | cons c r =>
      rw [hl] at hd hp
      have hc := hd c (List.mem_cons_self ..)
      rw [parseIntB_plain _ _ _ (by omega) (by omega), hp]
      show (if 9223372036854775808 ≤ v.toNat then NumEnd.range else NumEnd.ok (v.toNat : Int)) = _
      rw [if_neg (by omega)]
      congr 1; omega
theorem nDig_le10 (u : Nat) (h : u ≤ 1000000000) : nDigits u ≤ 10 := by
  rcases Nat.lt_or_ge u 10 with h1 | h1
  · rw [nDigits_small h1]; omega
  have H : ∀ k, k < 10 → 10 ^ k ≤ u → u < 10 ^ (k + 1) → nDigits u ≤ 10 := fun k hk a b => by rw [nDigits_unique k u a b]; omega
  rcases Nat.lt_or_ge u (10 ^ 2) with h2 | h2
  · exact H 1 (by decide) h1 h2
  rcases Nat.lt_or_ge u (10 ^ 3) with h3 | h3
  · exact H 2 (by decide) h2 h3
  rcases Nat.lt_or_ge u (10 ^ 4) with h4 | h4
  · exact H 3 (by decide) h3 h4
  rcases Nat.lt_or_ge u (10 ^ 5) with h5 | h5
  · exact H 4 (by decide) h4 h5
  rcases Nat.lt_or_ge u (10 ^ 6) with h6 | h6
  · exact H 5 (by decide) h5 h6
  rcases Nat.lt_or_ge u (10 ^ 7) with h7 | h7
  · exact H 6 (by decide) h6 h7
  rcases Nat.lt_or_ge u (10 ^ 8) with h8 | h8
  · exact H 7 (by decide) h7 h8
  rcases Nat.lt_or_ge u (10 ^ 9) with h9 | h9
  · exact H 8 (by decide) h8 h9
  · exact H 9 (by decide) h9 (by have : (10 : Nat) ^ (9 + 1) = 10000000000 := by decide
                                 omega)
theorem itoa_len (v : Int) (h0 : -1000000000 ≤ v) (h1 : v ≤ 1000000000) : 1 ≤ (itoa v).length ∧ (itoa v).length ≤ 11 := by
  unfold itoa
  have hp := nDigits_pos v.natAbs
  have hp2 := nDigits_pos v.toNat
  have hq := nDig_le10 v.natAbs (by omega)
  have hq2 := nDig_le10 v.toNat (by omega)
  split
  · rw [List.length_cons, decDigits_length]; omega
  · rw [decDigits_length]; omega
theorem rdV_itoa (v : Int) (h0 : -1000000000 ≤ v) (h1 : v ≤ 1000000000) : rdV (itoa v) = some v := by
  have hl := itoa_len v h0 h1
  have e : rdW (itoa v) = v ∧ rdN 0 (itoa v) ≤ 1000000000 := by
    by_cases hv : v < 0
    · have e1 : itoa v = 45 :: decDigits v.natAbs := by unfold itoa; rw [if_pos hv]
      have e2 : rdN 0 (itoa v) = v.natAbs := by rw [e1]; exact rdN_dec _
      unfold rdW; rw [e2, e1, List.head?_cons, if_pos rfl]; omega
    · have e1 : itoa v = decDigits v.toNat := by unfold itoa; rw [if_neg hv]
      have e2 : rdN 0 (itoa v) = v.toNat := by rw [e1]; exact rdN_dec _
      have hd := dec_digs v.toNat
      have e3 : ¬ (decDigits v.toNat).head? = some 45 := by
        intro hh
        have := hd 45 (List.mem_of_mem_head? hh)
        exact absurd this (by decide)
      unfold rdW; rw [e2, e1, if_neg e3]; omega
  unfold rdV
  rw [e.1, if_pos ⟨hl.1, hl.2, e.2, rfl⟩]
theorem rdV_some {l : List UInt8} {v : Int} (h : rdV l = some v) : itoa v = l ∧ -1000000000 ≤ v ∧ v ≤ 1000000000 := by
  unfold rdV at h
  split at h
  · rename_i hc
    have e := Option.some.inj h
    rw [← e]
    exact ⟨hc.2.2.2, (rdW_bd hc.2.2.1).1, (rdW_bd hc.2.2.1).2⟩
  · cases h
/-- The parser's answers, against the number with the text. -/
theorem rd_ok {l : List UInt8} {n : Int} (hp : parseIntB 64 l = .ok n) : rdV l = if (-1000000000 ≤ n ∧ n ≤ 1000000000) ∧ itoa n = l then some n else none := by
  by_cases hc : (-1000000000 ≤ n ∧ n ≤ 1000000000) ∧ itoa n = l
  · rw [if_pos hc, ← hc.2, rdV_itoa n hc.1.1 hc.1.2]
  · rw [if_neg hc]
    cases hr : rdV l with
    | none => rfl
    | some v =>
      obtain ⟨e1, e2, e3⟩ := rdV_some hr
      have := parse_itoa v e2 e3
      rw [e1, hp] at this
      obtain rfl : n = v := by injection this
      exact absurd ⟨⟨e2, e3⟩, e1⟩ hc
theorem rd_bad {l : List UInt8} (hp : ∀ n, parseIntB 64 l ≠ .ok n) : rdV l = none := by
  cases hr : rdV l with
  | none => rfl
  | some v =>
    obtain ⟨e1, e2, e3⟩ := rdV_some hr
    have := parse_itoa v e2 e3
    rw [e1] at this
    exact absurd this (hp v)
theorem rdN_succ {l : List UInt8} {k : Nat} (hk : k < l.length) : rdN 0 (l.take (k + 1)) = rdStep (rdN 0 (l.take k)) l[k] := by
  rw [List.take_succ_eq_append_getElem hk]; unfold rdN; rw [List.foldl_append]; rfl
theorem rdStep_le (a : Nat) (c : UInt8) : rdStep a c ≤ 10 * a + 9 := by unfold rdStep; split <;> omega
theorem rdN_lt (l : List UInt8) : rdN 0 l < 10 ^ l.length := by
  suffices H : ∀ k, k ≤ l.length → rdN 0 (l.take k) < 10 ^ k by
    have := H l.length (Nat.le_refl _); rwa [List.take_length] at this
  intro k
  induction k with
  | zero => intro _; exact Nat.one_pos
  | succ k ih =>
    intro hk
    have h1 := ih (by omega)
    rw [rdN_succ (by omega : k < l.length), Nat.pow_succ]
    have := rdStep_le (rdN 0 (l.take k)) (l[k]'(by omega))
    omega
end Wd
