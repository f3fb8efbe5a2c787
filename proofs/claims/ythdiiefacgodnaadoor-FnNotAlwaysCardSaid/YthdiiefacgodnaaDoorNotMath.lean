/-
  What the law's two running answers mean at each step: order and brackets over all words of four bits (no program, no model).
-/
import Derived.Test.YthdiiefacgodnaaDoorMath
namespace Wd
def Wo (x : Int) : Prop := 0 ≤ x ∧ x < 16
def Ord (op a b : Int) (o : Bool) : Prop := (comm op = true → o = true) ∧ (o = true → ∀ x y : Int, Wo x → Wo y → (x < a ∨ x = a ∧ y < b) → doOp op 4 x y = doOp op 4 y x)
def Brk (op a b c : Int) (k : Bool) : Prop := (assoc op = true → k = true) ∧ (k = true → ∀ x y z : Int, Wo x → Wo y → Wo z → (x < a ∨ x = a ∧ (y < b ∨ y = b ∧ z < c)) → doOp op 4 (doOp op 4 x y) z = doOp op 4 x (doOp op 4 y z))
theorem four : IsBits 4 := .inl rfl
theorem pw4 : pw 4 = 16 := by decide
theorem Ord.zero (op : Int) : Ord op 0 0 true := ⟨fun _ => rfl, fun _ x y hx hy h => by unfold Wo at *; omega⟩
theorem Brk.zero (op : Int) : Brk op 0 0 0 true := ⟨fun _ => rfl, fun _ x y z hx hy hz h => by unfold Wo at *; omega⟩
theorem Ord.step {op a b : Int} {o : Bool} (h : Ord op a b o) (ha : Wo a) (hb : Wo b) : Ord op a (b + 1) (o && (doOp op 4 a b == doOp op 4 b a)) := by
  refine ⟨fun hc => ?_, fun ho x y hx hy hl => ?_⟩
  · rw [h.1 hc, doOp_comm hc four (by rw [pw4]; exact ha) (by rw [pw4]; exact hb)]; simp
  · rw [Bool.and_eq_true, beq_iff_eq] at ho
    by_cases h1 : x < a ∨ x = a ∧ y < b
    · exact h.2 ho.1 x y hx hy h1
    · obtain ⟨rfl, rfl⟩ : x = a ∧ y = b := by omega
      exact ho.2
theorem Brk.step {op a b c : Int} {k : Bool} (h : Brk op a b c k) (ha : Wo a) (hb : Wo b) (hc : Wo c) : Brk op a b (c + 1) (k && (doOp op 4 (doOp op 4 a b) c == doOp op 4 a (doOp op 4 b c))) := by
  refine ⟨fun hs => ?_, fun ho x y z hx hy hz hl => ?_⟩
  · rw [h.1 hs, doOp_assoc hs four (by rw [pw4]; exact ha) (by rw [pw4]; exact hb) (by rw [pw4]; exact hc)]; simp
  · rw [Bool.and_eq_true, beq_iff_eq] at ho
    by_cases h1 : x < a ∨ x = a ∧ (y < b ∨ y = b ∧ z < c)
    · exact h.2 ho.1 x y z hx hy hz h1
    · obtain ⟨rfl, rfl, rfl⟩ : x = a ∧ y = b ∧ z = c := by omega
      exact ho.2
theorem Ord.row {op a : Int} {o : Bool} (h : Ord op a 16 o) : Ord op (a + 1) 0 o := ⟨h.1, fun ho x y hx hy hl => h.2 ho x y hx hy (by unfold Wo at *; omega)⟩
theorem Brk.col {op a b : Int} {k : Bool} (h : Brk op a b 16 k) : Brk op a (b + 1) 0 k := ⟨h.1, fun ho x y z hx hy hz hl => h.2 ho x y z hx hy hz (by unfold Wo at *; omega)⟩
theorem Brk.row {op a : Int} {k : Bool} (h : Brk op a 16 0 k) : Brk op (a + 1) 0 0 k := ⟨h.1, fun ho x y z hx hy hz hl => h.2 ho x y z hx hy hz (by unfold Wo at *; omega)⟩
theorem Ord.fin {op : Int} {o : Bool} (h0 : 0 ≤ op) (h1 : op ≤ 17) (h : Ord op 16 0 o) : o = comm op := by
  cases hc : comm op with
  | true => exact h.1 hc
  | false =>
    cases o with
    | false => rfl
    | true =>
      have hn := not_comm h0 h1 hc
      have e1 := h.2 rfl 1 15 (by unfold Wo; omega) (by unfold Wo; omega) (by omega)
      have e2 := h.2 rfl 1 2 (by unfold Wo; omega) (by unfold Wo; omega) (by omega)
      rcases hn with h | h <;> contradiction
theorem Brk.fin {op : Int} {k : Bool} (hc : comm op = true) (ha : assoc op = false) (h : Brk op 16 0 0 k) : k = false := by
  cases k with
  | false => rfl
  | true =>
    have hn := not_assoc hc ha
    have e1 := h.2 rfl 7 7 15 (by unfold Wo; omega) (by unfold Wo; omega) (by unfold Wo; omega) (by omega)
    have e2 := h.2 rfl 0 0 2 (by unfold Wo; omega) (by unfold Wo; omega) (by unfold Wo; omega) (by omega)
    rcases hn with h | h <;> contradiction
end Wd
