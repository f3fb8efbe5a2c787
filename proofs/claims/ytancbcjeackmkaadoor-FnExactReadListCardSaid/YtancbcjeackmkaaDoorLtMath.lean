/-
  The text of a list of numbers, part by part (no program).
-/
import Derived.Lib.Join
import Derived.Test.YtancbcjeackmkaaDoorRdMath
namespace Wd
open Go.Lib
set_option linter.unusedVariables false
def okV (z : Int) : Prop := -1000000000 ≤ z ∧ z ≤ 1000000000
instance (z : Int) : Decidable (okV z) := by unfold okV; infer_instance
/-- The first k numbers, with commas between them. -/
def jn (zs : List Int) (k : Nat) : List UInt8 := join ((zs.take k).map itoa) [44]
def lsOk (zs : List Int) : Prop := zs.length ≤ 70 ∧ ∀ z ∈ zs, okV z
instance (zs : List Int) : Decidable (lsOk zs) := by unfold lsOk; infer_instance
def txt (zs : List Int) : List UInt8 := if zs = [] then [110, 111, 110, 101] else join (zs.map itoa) [44]
theorem join_snoc (xs : List (List UInt8)) (y sep : List UInt8) : join (xs ++ [y]) sep = join xs sep ++ (if xs = [] then [] else sep) ++ y := by
  cases xs with
  | nil => simp [join_one, join_nil]
  | cons x r =>
    rw [List.cons_append, join_cons, join_cons, if_neg (by simp)]
    simp [joinTail, List.append_assoc]
theorem jn_zero (zs : List Int) : jn zs 0 = [] := rfl
theorem jn_all (zs : List Int) : jn zs zs.length = join (zs.map itoa) [44] := by unfold jn; rw [List.take_length]
theorem jn_succ {zs : List Int} {k : Nat} (hk : k < zs.length) : jn zs (k + 1) = jn zs k ++ (if k = 0 then [] else [44]) ++ itoa (zs.getD k 0) := by
  unfold jn
  rw [List.take_succ_eq_append_getElem hk, List.map_append, List.map_cons, List.map_nil, join_snoc, List.getD_eq_getElem?_getD, List.getElem?_eq_getElem hk]
  have e : ((zs.take k).map itoa = []) ↔ k = 0 := by
    constructor
    · intro h
      have := congrArg List.length h
      rw [List.length_map, List.length_take] at this
      rw [List.length_nil] at this; omega
    · rintro rfl; rfl
  by_cases h0 : k = 0
  · rw [if_pos h0, if_pos (e.2 h0)]; rfl
  · rw [if_neg h0, if_neg (fun h => h0 (e.1 h))]; rfl
theorem okV_at {zs : List Int} {k : Nat} (h : ∀ z ∈ zs, okV z) (hk : k < zs.length) : okV (zs.getD k 0) := by
  rw [List.getD_eq_getElem?_getD, List.getElem?_eq_getElem hk]; exact h _ (List.getElem_mem hk)
theorem jn_len {zs : List Int} (h : ∀ z ∈ zs, okV z) (k : Nat) (hk : k ≤ zs.length) : (jn zs k).length ≤ 12 * k := by
  induction k with
  | zero => simp [jn_zero]
  | succ k ih =>
    have h1 := ih (by omega)
    have hv := okV_at h (show k < zs.length by omega)
    have h2 := (itoa_len _ hv.1 hv.2).2
    rw [jn_succ (by omega), List.length_append, List.length_append]
    have : (if k = 0 then ([] : List UInt8) else [44]).length ≤ 1 := by split <;> simp
    omega
theorem all_take_ok {zs : List Int} {k : Nat} (hk : k < zs.length) (h : ∀ z ∈ zs.take k, okV z) (hz : okV (zs.getD k 0)) : ∀ z ∈ zs.take (k + 1), okV z := by
  intro z hm
  rw [List.take_succ_eq_append_getElem hk] at hm
  rcases List.mem_append.1 hm with hm | hm
  · exact h z hm
  · rw [List.mem_singleton.1 hm]
    rw [List.getD_eq_getElem?_getD, List.getElem?_eq_getElem hk] at hz; exact hz
theorem bad_at {zs : List Int} {k : Nat} (hk : k < zs.length) (hz : ¬ okV (zs.getD k 0)) : ¬ lsOk zs := by
  intro h; exact hz (okV_at h.2 hk)
/-- What the code's row of texts holds after k rounds. -/
def strs (zs : List Int) (n k : Nat) : List ByteArray := (zs.take k).map (fun z => (⟨(itoa z).toArray⟩ : ByteArray)) ++ List.replicate (n - k) ByteArray.empty
theorem strs_set {zs : List Int} {n k : Nat} (hl : zs.length = n) (hk : k < n) : (strs zs n k).set k ⟨(itoa (zs.getD k 0)).toArray⟩ = strs zs n (k + 1) := by
  unfold strs
  have hk' : k < zs.length := by omega
  have hL : ((zs.take k).map (fun z => (⟨(itoa z).toArray⟩ : ByteArray))).length = k := by rw [List.length_map, List.length_take]; omega
  rw [List.set_append_right _ _ (by omega), hL, Nat.sub_self, List.take_succ_eq_append_getElem hk', List.map_append, List.map_cons, List.map_nil, List.append_assoc, List.getD_eq_getElem?_getD, List.getElem?_eq_getElem hk']
  congr 1
  rw [show n - k = (n - (k + 1)) + 1 by omega, List.replicate_succ, List.set_cons_zero]
  rfl
theorem strs_len {zs : List Int} {n k : Nat} (hl : zs.length = n) (hk : k ≤ n) : (strs zs n k).length = n := by
  unfold strs
  rw [List.length_append, List.length_map, List.length_take, List.length_replicate]; omega
theorem strs_all {zs : List Int} {n : Nat} (hl : zs.length = n) : strs zs n n = zs.map (fun z => (⟨(itoa z).toArray⟩ : ByteArray)) := by
  unfold strs; rw [Nat.sub_self, List.replicate_zero, List.append_nil, List.take_of_length_le (by omega)]
theorem strs_zero (zs : List Int) (n : Nat) : strs zs n 0 = List.replicate n ByteArray.empty := by unfold strs; simp
end Wd
