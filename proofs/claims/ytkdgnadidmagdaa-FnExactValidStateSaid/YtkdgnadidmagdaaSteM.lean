/-
  States of a machine: which are valid. Plain mathematics.
-/
import Derived.Test.YtkdgnadidmagdaaMcM
import Derived.Test.YtkdgnadidmagdaaRwM
namespace Go.Proofs.Ytkdgnadidmagdaa.Mc
set_option linter.unusedVariables false

def wds (b : Int) (z : List Int) : Bool := z.all fun x => decide (Wd.IsWord b x)
def bts (z : List Int) : Bool := z.all fun x => x == 0 || x == 1
/-- So many words. -/
def vecR (l b : Int) (z : List Int) : Bool := decide ((z.length : Int) = l) && wds b z
def mskR (l : Int) (z : List Int) : Bool := decide ((z.length : Int) = l) && bts z
def memOk (b : Int) (Y : List Int) : Bool := decide (Y.length = 64) && wds b Y
/-- A state of a valid machine. -/
def sOk (l b : Int) (V M : List (List Int)) (Y : List Int) : Bool := memOk b Y && ((decide (V.length = 8) && V.all (vecR l b)) && (decide (M.length = 4) && M.all (mskR l)))
def vS (l b : Int) (V M : List (List Int)) (Y : List Int) : Bool := mok l b && sOk l b V M Y

theorem allR_snoc (p : List Int → Bool) (zs : List (List Int)) (k : Nat) (h : k < zs.length) : (zs.take (k + 1)).all p = ((zs.take k).all p && p (zs.getD k [])) := by
  rw [Ln.takeR_snoc zs k h, List.all_append]
  simp
theorem allR_not {p : List Int → Bool} {zs : List (List Int)} {k : Nat} (h : k < zs.length) (hp : p (zs.getD k []) = false) : zs.all p = false := by
  rw [List.all_eq_false]
  refine ⟨zs[k], List.getElem_mem h, ?_⟩
  rw [List.getD_eq_getElem?_getD, List.getElem?_eq_getElem h] at hp
  simpa using hp
theorem allR_end {p : List Int → Bool} {zs : List (List Int)} {k : Nat} (h : zs.length ≤ k) (hp : (zs.take k).all p = true) : zs.all p = true := by
  rwa [List.take_of_length_le h] at hp
theorem vec_of {l b : Int} (h : mok l b = true) (z : List Int) : (decide ((z.length : Int) = l) && Ln.vec b z) = vecR l b z := by
  unfold vecR Ln.vec wds
  by_cases hl : (z.length : Int) = l
  · rw [decide_eq_true hl, Bool.true_and, Bool.true_and, hl]
    unfold mok at h
    rw [Bool.and_eq_true] at h
    rw [h.1, Bool.true_and]
  · rw [decide_eq_false hl]; rfl
theorem msk_of {l b : Int} (h : mok l b = true) (z : List Int) : (decide ((z.length : Int) = l) && Ln.msk z) = mskR l z := by
  unfold mskR Ln.msk bts
  by_cases hl : (z.length : Int) = l
  · rw [decide_eq_true hl, Bool.true_and, Bool.true_and, hl]
    unfold mok at h
    rw [Bool.and_eq_true] at h
    rw [h.1, Bool.true_and]
  · rw [decide_eq_false hl]; rfl
theorem sOk_mem {l b : Int} {V M : List (List Int)} {Y : List Int} (h : memOk b Y = false) : sOk l b V M Y = false := by unfold sOk; rw [h]; rfl
theorem sOk_V {l b : Int} {V M : List (List Int)} {Y : List Int} (h : (decide (V.length = 8) && V.all (vecR l b)) = false) : sOk l b V M Y = false := by unfold sOk; rw [h]; simp
theorem sOk_M {l b : Int} {V M : List (List Int)} {Y : List Int} (h : (decide (M.length = 4) && M.all (mskR l)) = false) : sOk l b V M Y = false := by unfold sOk; rw [h]; simp
theorem sOk_all {l b : Int} {V M : List (List Int)} {Y : List Int} (h1 : memOk b Y = true) (h2 : V.length = 8) (h3 : V.all (vecR l b) = true) (h4 : M.length = 4) (h5 : M.all (mskR l) = true) : sOk l b V M Y = true := by
  unfold sOk; rw [h1, h3, h5, decide_eq_true h2, decide_eq_true h4]; rfl
end Go.Proofs.Ytkdgnadidmagdaa.Mc
