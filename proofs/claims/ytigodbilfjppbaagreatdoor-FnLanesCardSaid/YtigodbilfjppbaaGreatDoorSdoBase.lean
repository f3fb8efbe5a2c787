/-
  What the model's lesser one, greater one and 'between' return, over the translated program.
-/
import Derived.Test.YtigodbilfjppbaaGreatDoorSpec
import Derived.Test.YtigodbilfjppbaaGreatDoorOpMath
import Derived.WalkLawsBesides
import Derived.Laws.ShiftsVar
namespace Go.Proofs.YtigodbilfjppbaaGreatDoor.Wds
open Go.RowKit
def mn (a b : Int) : Int := if a < b then a else b
def mx (a b : Int) : Int := if b < a then a else b
def btw (n lo hi : Int) : Int := mn hi (mx lo n)
theorem wr_id (b x : Int) (h : 0 ≤ x ∧ x < Wd.pw b) : Wd.wr b x = x := by unfold Wd.wr; exact Int.emod_eq_of_lt h.1 h.2
theorem wr_sg (b x : Int) (h : Wd.IsBits b) (hx : 0 ≤ x ∧ x < Wd.pw b) : Wd.wr b (Wd.sg b x) = x := by
  rcases Wd.bits_cases h with ⟨_, h1, h2⟩ | ⟨_, h1, h2⟩ | ⟨_, h1, h2⟩ <;> (rw [h1] at hx; simp only [Wd.wr, Wd.sg, h1, h2]; omega)
theorem sfin8 (b x y : Int) (h : Wd.IsBits b) (hx : 0 ≤ x ∧ x < Wd.pw b) (hy : 0 ≤ y ∧ y < Wd.pw b) : Wd.wr b (mn (Wd.sg b x) (Wd.sg b y)) = Wd.doOp 8 b x y := by
  simp only [Wd.doOp, reduceIte, Int.reduceEq, mn]
  split
  · exact wr_sg b x h hx
  · exact wr_sg b y h hy
theorem sfin9 (b x y : Int) (h : Wd.IsBits b) (hx : 0 ≤ x ∧ x < Wd.pw b) (hy : 0 ≤ y ∧ y < Wd.pw b) : Wd.wr b (mx (Wd.sg b x) (Wd.sg b y)) = Wd.doOp 9 b x y := by
  simp only [Wd.doOp, reduceIte, Int.reduceEq, mx]
  by_cases e : Wd.sg b x = Wd.sg b y
  · have := Opm.sg_inj b x y h hx hy e; subst this; simp; exact wr_sg b x h hx
  · by_cases l : Wd.sg b x < Wd.sg b y
    · rw [if_pos l, if_neg (by omega)]; exact wr_sg b y h hy
    · rw [if_neg l, if_pos (by omega)]; exact wr_sg b x h hx
theorem wr_wrap64 (b n : Int) (h : Wd.IsBits b) : Wd.wr b (wrap64 n) = Wd.wr b n := by
  unfold wrap64
  rcases Wd.bits_cases h with ⟨_, h1, _⟩ | ⟨_, h1, _⟩ | ⟨_, h1, _⟩ <;> (simp only [Wd.wr, h1]; omega)
theorem btw_cl (b n : Int) (h : 0 < Wd.hf b) : btw n (- Wd.hf b) (Wd.hf b - 1) = Wd.cl b n := by
  simp only [btw, mn, mx, Wd.cl]; omega
end Go.Proofs.YtigodbilfjppbaaGreatDoor.Wds
