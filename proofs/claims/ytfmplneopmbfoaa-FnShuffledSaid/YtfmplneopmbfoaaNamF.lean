/-
  Plain mathematics of the named shuffles as the law FnNamed holds them together. No program, no memory.
-/
import Derived.Test.YtfmplneopmbfoaaShM
import Derived.Test.YtfmplneopmbfoaaLan2
namespace Ln
set_option linter.unusedVariables false
theorem namedL_at {kind b : Int} {N i : Nat} (h : i < N) : (namedL kind N b).getD i 0 = nel kind N b i := by
  unfold namedL; rw [Int.toNat_natCast]; exact tab_getD _ _ _ h
theorem namedL_shuf {kind b : Int} {N : Nat} (hl : lanes (N : Int) = true) (hb : 0 ≤ b ∧ b < (N : Int)) : shuf (namedL kind N b) = true := by
  unfold shuf idxs
  rw [namedL_len, Int.toNat_natCast, hl, Bool.true_and, List.all_eq_true]
  intro z hz
  unfold namedL tab at hz
  rw [List.mem_map] at hz
  obtain ⟨i, hi, rfl⟩ := hz
  have hi := List.mem_range.1 hi
  have := nel_lt (kind := kind) hl (i := (i : Int)) (by omega) hb
  simpa using this
theorem named_yes {kind b : Int} {N : Nat} (hl : lanes (N : Int) = true) (hk : 0 ≤ kind ∧ kind ≤ 5) (hb : 0 ≤ b ∧ b < (N : Int)) (h0 : b = 0 ∨ (kind ≠ 1 ∧ kind ≠ 3 ∧ kind ≠ 4)) : named kind N b = (namedL kind N b, true) := by
  have : namedOk kind N b = true := by
    unfold namedOk
    rw [hl, decide_eq_true hk, decide_eq_true hb]
    simp
    omega
  rw [named, this]; rfl
theorem then_yes {k1 k2 b1 b2 : Int} {N : Nat} (hl : lanes (N : Int) = true) (h1 : 0 ≤ b1 ∧ b1 < (N : Int)) (h2 : 0 ≤ b2 ∧ b2 < (N : Int)) :
    thenS (namedL k1 N b1) (namedL k2 N b2) = (tab (fun i => nel k1 N b1 (nel k2 N b2 i)) N, true) := by
  unfold thenS
  rw [namedL_shuf hl h1, namedL_shuf hl h2, namedL_len, namedL_len]
  rw [show (true && true && (N : Int).toNat == (N : Int).toNat) = true by simp]
  rw [ans_yes _ rfl]
  refine congrArg (·, true) ?_
  unfold pickL
  rw [namedL_len, Int.toNat_natCast]
  refine tab_congr fun i hi => ?_
  rw [namedL_at hi]
  have h3 := nel_lt (kind := k2) hl (i := (i : Int)) (by omega) h2
  obtain ⟨j, hj⟩ := Int.eq_ofNat_of_zero_le h3.1
  rw [hj, Int.toNat_natCast, namedL_at (by omega)]
def ident (N : Nat) : List Int := tab (fun i => (i : Int)) N
theorem nf_cases {N : Nat} (h : N = 4 ∨ N = 8 ∨ N = 16) : lanes (N : Int) = true ∧ lanes ((N / 2 : Nat) : Int) = true := by rcases h with rfl | rfl | rfl <;> decide
theorem zip_unzip {N : Nat} (h : N = 4 ∨ N = 8 ∨ N = 16) : tab (fun i => nel 3 N 0 (nel 4 N 0 i)) N = ident N := by
  refine tab_congr fun i hi => ?_
  unfold nel
  rcases h with rfl | rfl | rfl <;> simp <;> omega
theorem rot_rot {N : Nat} {p q : Int} (h : N = 4 ∨ N = 8 ∨ N = 16) (hp : 0 ≤ p ∧ p < (N : Int)) (hq : 0 ≤ q ∧ q < (N : Int)) : tab (fun i => nel 0 N p (nel 0 N q i)) N = namedL 0 N ((p + q) % N) := by
  unfold namedL
  rw [Int.toNat_natCast]
  refine tab_congr fun i hi => ?_
  unfold nel
  rw [if_pos rfl, if_pos rfl, if_pos rfl]
  rcases h with rfl | rfl | rfl <;> omega
theorem rev_rev {N : Nat} : tab (fun i => nel 1 N 0 (nel 1 N 0 i)) N = ident N := by
  refine tab_congr fun i hi => ?_
  unfold nel
  rw [if_neg (by decide), if_pos rfl, if_neg (by decide), if_pos rfl]
  omega
theorem swap_swap {N : Nat} {p : Int} (hp : 0 ≤ p) : tab (fun i => nel 2 N p (nel 2 N p i)) N = ident N := by
  refine tab_congr fun i hi => ?_
  unfold nel
  rw [if_neg (by decide), if_neg (by decide), if_pos rfl, if_neg (by decide), if_neg (by decide), if_pos rfl, Int.toNat_natCast, Int.toNat_natCast, Nat.xor_assoc, Nat.xor_self, Nat.xor_zero]
theorem first_at {N i : Nat} {p : Int} (hi : i < N) : (namedL 5 N p).getD i 0 = p := by
  rw [namedL_at hi]; rfl
theorem ident_at {N i : Nat} (hi : i < N) : (ident N).getD i 0 = (i : Int) := tab_getD _ _ _ hi
theorem zip_low {a : List Int} {H : Nat} (h : H = 2 ∨ H = 4 ∨ H = 8) (ha : a.length = 2 * H) : (pickL a (namedL 3 ((2 * H : Nat) : Int) 0)).take H = tab (weave (a.take H) (a.drop H)) H := by
  unfold pickL
  rw [namedL_len, Int.toNat_natCast]
  apply List.ext_getElem
  · simp [tab]; omega
  · intro i h1 h2
    have hi : i < H := by simpa [tab] using h2
    have e := namedL_at (kind := 3) (b := 0) (N := 2 * H) (i := i) (by omega)
    simp only [tab, List.getElem_take, List.getElem_map, List.getElem_range, e]
    unfold nel weave
    rw [if_neg (by decide), if_neg (by decide), if_neg (by decide), if_pos rfl]
    rw [List.getD_eq_getElem?_getD, List.getD_eq_getElem?_getD, List.getD_eq_getElem?_getD, List.getElem?_take, List.getElem?_drop]
    by_cases e2 : i % 2 = 0
    · rw [if_pos e2, if_pos (by omega), show ((i : Int) / 2 + (i : Int) % 2 * (((2 * H : Nat) : Int) / 2)).toNat = i / 2 by
        rw [show (i : Int) % 2 = 0 by omega]; omega]
    · rw [if_neg e2, show ((i : Int) / 2 + (i : Int) % 2 * (((2 * H : Nat) : Int) / 2)).toNat = H + i / 2 by
        rw [show (i : Int) % 2 = 1 by omega]; omega]
theorem zip_high {a : List Int} {H : Nat} (h : H = 2 ∨ H = 4 ∨ H = 8) (ha : a.length = 2 * H) : (pickL a (namedL 3 ((2 * H : Nat) : Int) 0)).drop H = tab (fun i => weave (a.take H) (a.drop H) (H + i)) H := by
  unfold pickL
  rw [namedL_len, Int.toNat_natCast]
  apply List.ext_getElem
  · simp [tab]; omega
  · intro i h1 h2
    have hi : i < H := by simpa [tab] using h2
    have e := namedL_at (kind := 3) (b := 0) (N := 2 * H) (i := H + i) (by omega)
    simp only [tab, List.getElem_drop, List.getElem_map, List.getElem_range, e]
    unfold nel weave
    rw [if_neg (by decide), if_neg (by decide), if_neg (by decide), if_pos rfl]
    rw [List.getD_eq_getElem?_getD, List.getD_eq_getElem?_getD, List.getD_eq_getElem?_getD, List.getElem?_take, List.getElem?_drop]
    by_cases e2 : (H + i) % 2 = 0
    · rw [if_pos e2, if_pos (by omega), show (((H + i : Nat) : Int) / 2 + ((H + i : Nat) : Int) % 2 * (((2 * H : Nat) : Int) / 2)).toNat = (H + i) / 2 by
        rw [show ((H + i : Nat) : Int) % 2 = 0 by omega]; omega]
    · rw [if_neg e2, show (((H + i : Nat) : Int) / 2 + ((H + i : Nat) : Int) % 2 * (((2 * H : Nat) : Int) / 2)).toNat = H + (H + i) / 2 by
        rw [show ((H + i : Nat) : Int) % 2 = 1 by omega]; omega]
theorem zip_yes {b : Int} {a : List Int} {N : Nat} (hl : lanes (N : Int) = true) (ha : a.length = N) (hv : vec b a = true) : shuffle b (namedL 3 N 0) a = (pickL a (namedL 3 N 0), true) := by
  have h0 := lanes_cases hl
  unfold shuffle
  rw [namedL_shuf hl (by omega), hv, namedL_len, Int.toNat_natCast, ha, ans_yes _ (by simp)]
theorem halves_vec {b : Int} {a : List Int} {H : Nat} (h : H = 2 ∨ H = 4 ∨ H = 8) (ha : a.length = 2 * H) (hv : vec b a = true) : both b (a.take H) (a.drop H) = true := by
  simp only [vec, Bool.and_eq_true, List.all_eq_true] at hv
  have hl : lanes (H : Int) = true := by rcases h with rfl | rfl | rfl <;> decide
  have e1 : (a.take H).length = H := by simp; omega
  have e2 : (a.drop H).length = H := by simp; omega
  unfold both vec
  rw [e1, e2, hl]
  simp only [Bool.true_and, Bool.and_eq_true, List.all_eq_true, beq_iff_eq]
  exact ⟨⟨fun x hx => hv.2 x (List.mem_of_mem_take hx), fun x hx => hv.2 x (List.mem_of_mem_drop hx)⟩, trivial⟩
end Ln
