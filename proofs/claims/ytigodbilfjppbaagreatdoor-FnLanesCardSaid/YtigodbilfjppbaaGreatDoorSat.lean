/-
  What 'saturate' returns (the number of the range that is nearest) and does to memory (what was there keeps), over the translated program, where errors.errorType holds what its initialiser lays.
-/
import Derived.Test.YtigodbilfjppbaaGreatDoorAs
import Derived.Test.YtigodbilfjppbaaGreatDoorScal
namespace Go.Proofs.YtigodbilfjppbaaGreatDoor.Wds
open Go.RowKit Go.Proofs.YtigodbilfjppbaaGreatDoor.Err

theorem below_of_drew {B : Nat} {a w : World} (h : Below B a.drew w) : Below B a w := (show Below B a a.drew from (Below.refl B a).drew).trans h
def near (lo hi n : Int) : Int := if n < lo then lo else if hi < n then hi else n

theorem sat_in (n lo hi : Int) (w : World) (h1 : lo ≤ n) (h2 : n ≤ hi) : Calls Tryz.prog 106 #[.int .i64 n, .int .i64 lo, .int .i64 hi] w fun e w' => e = .returned (.int .i64 n) ∧ Below w.heap.size w w' := by
  go_enter Tryz.func106, Tryz.ntmps106
  go_wp2_with (first | (go_at_call 48; refine (within_in _ _ _ _ h1 h2).mono ?_; rintro e w' ⟨rfl, rfl⟩) | (go_at_call 109; refine (as_nil _ _).mono ?_; rintro e w' ⟨rfl, rfl⟩))
  go_ret
  exact ⟨rfl, (Below.refl _ _).alloc (Nat.le_refl _) _⟩
set_option maxHeartbeats 1000000 in
theorem sat_lo (n lo hi : Int) (w : World) (h1 : n < lo) (hg : ErrT w) : Calls Tryz.prog 106 #[.int .i64 n, .int .i64 lo, .int .i64 hi] w fun e w' => e = .returned (.int .i64 lo) ∧ Below w.heap.size w w' := by
  have hlt := hg.lt
  have hgA : ErrT ((w.alloc (.cells #[.pointer none] 84)).alloc (.cells #[.int .i64 lo] 86)) :=
    hg.below (((Below.refl w.heap.size w).alloc (Nat.le_refl _) _).alloc (by simp) _) hlt
  have HG := Lib.hid hgA; clear hgA hg
  have htA : ((w.alloc (.cells #[.pointer none] 84)).alloc (.cells #[.int .i64 lo] 86)).cell? ⟨w.heap.size, 0, none⟩ = some (.pointer none) := by simp
  have hfA : ((w.alloc (.cells #[.pointer none] 84)).alloc (.cells #[.int .i64 lo] 86)).frozen? ⟨w.heap.size, 0, none⟩ = false := by simp
  go_enter Tryz.func106, Tryz.ntmps106
  go_wp2_with (first | (go_at_call 48; refine (within_lo _ _ _ _ h1).mono ?_; rintro e w' ⟨rfl, rfl⟩) | (go_at_call 109; refine (as_hit _ _ (.pointer none) _ HG.out htA hfA).mono ?_; rintro e w' ⟨rfl, rfl⟩))
  go_ret
  exact ⟨rfl, by repeat (first | exact Below.refl _ _ | refine Below.alloc ?_ (by first | exact Nat.le_refl _ | (simp; done) | (simp; omega)) _ | refine Below.setCell ?_ (by simp) _)⟩
set_option maxHeartbeats 1000000 in
theorem sat_hi (n lo hi : Int) (w : World) (h0 : lo ≤ n) (h1 : hi < n) (hg : ErrT w) : Calls Tryz.prog 106 #[.int .i64 n, .int .i64 lo, .int .i64 hi] w fun e w' => e = .returned (.int .i64 hi) ∧ Below w.heap.size w w' := by
  have hlt := hg.lt
  have hgA : ErrT ((w.alloc (.cells #[.pointer none] 84)).alloc (.cells #[.int .i64 hi] 86)) :=
    hg.below (((Below.refl w.heap.size w).alloc (Nat.le_refl _) _).alloc (by simp) _) hlt
  have HG := Lib.hid hgA; clear hgA hg
  have htA : ((w.alloc (.cells #[.pointer none] 84)).alloc (.cells #[.int .i64 hi] 86)).cell? ⟨w.heap.size, 0, none⟩ = some (.pointer none) := by simp
  have hfA : ((w.alloc (.cells #[.pointer none] 84)).alloc (.cells #[.int .i64 hi] 86)).frozen? ⟨w.heap.size, 0, none⟩ = false := by simp
  go_enter Tryz.func106, Tryz.ntmps106
  go_wp2_with (first | (go_at_call 48; refine (within_hi _ _ _ _ h0 h1).mono ?_; rintro e w' ⟨rfl, rfl⟩) | (go_at_call 109; refine (as_hit _ _ (.pointer none) _ HG.out htA hfA).mono ?_; rintro e w' ⟨rfl, rfl⟩))
  go_ret
  exact ⟨rfl, by repeat (first | exact Below.refl _ _ | refine Below.alloc ?_ (by first | exact Nat.le_refl _ | (simp; done) | (simp; omega)) _ | refine Below.setCell ?_ (by simp) _)⟩
theorem sat_any (n lo hi : Int) (w : World) (hg : ErrT w) : Calls Tryz.prog 106 #[.int .i64 n, .int .i64 lo, .int .i64 hi] w fun e w' => e = .returned (.int .i64 (near lo hi n)) ∧ Below w.heap.size w w' := by
  unfold near
  by_cases h0 : n < lo
  · rw [if_pos h0]; exact sat_lo n lo hi w h0 hg
  · rw [if_neg h0]
    by_cases h1 : hi < n
    · rw [if_pos h1]; exact sat_hi n lo hi w (by omega) h1 hg
    · rw [if_neg h1]; exact sat_in n lo hi w (by omega) (by omega)
theorem fin10 (b x y : Int) (hx : 0 ≤ x ∧ x < Wd.pw b) (hy : 0 ≤ y ∧ y < Wd.pw b) : near 0 (Wd.pw b - 1) (x + y) = Wd.doOp 10 b x y := by
  simp only [Wd.doOp, reduceIte, Int.reduceEq, near]; omega
theorem fin12 (b x y : Int) (hx : 0 ≤ x ∧ x < Wd.pw b) (hy : 0 ≤ y ∧ y < Wd.pw b) : near 0 (Wd.pw b - 1) (x - y) = Wd.doOp 12 b x y := by
  simp only [Wd.doOp, reduceIte, Int.reduceEq, near]; omega
theorem fin11 (b x y : Int) : Wd.wr b (near (- Wd.hf b) (Wd.hf b - 1) (Wd.sg b x + Wd.sg b y)) = Wd.doOp 11 b x y := rfl
theorem fin13 (b x y : Int) : Wd.wr b (near (- Wd.hf b) (Wd.hf b - 1) (Wd.sg b x - Wd.sg b y)) = Wd.doOp 13 b x y := rfl
end Go.Proofs.YtigodbilfjppbaaGreatDoor.Wds
