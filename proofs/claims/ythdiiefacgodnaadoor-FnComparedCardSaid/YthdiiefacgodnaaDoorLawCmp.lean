/-
  The walk of the law on comparisons: of less, equal and greater just one holds, signed and unsigned, and they agree with the lesser one of both words; for all bytes it returns true and leaves what was there as it was.
-/
import Derived.Test.YthdiiefacgodnaaDoorDraw2
import Derived.Test.YthdiiefacgodnaaDoorDoOp
namespace Go.Proofs.YthdiiefacgodnaaDoor.Wds
open Go.RowKit Go.Proofs.YthdiiefacgodnaaDoor.Err
set_option linter.unusedVariables false

theorem below_drewN {B : Nat} {a w : World} {m : Nat} (h : Below B a w) : Below B a (w.drewN m) := ⟨h.os, h.tape, h.output, h.size, h.block⟩
/-- A comparison whose answer is known. -/
def Knows (c b x y : Int) (r : Bool) : Prop := ∀ W : World, Calls Tryd.prog 21 #[.int .i64 c, .int .i64 b, .int .i64 x, .int .i64 y] W fun e w' => e = .returned (.tuple #[.bool r, .bool true]) ∧ W = w'
theorem knows (c b x y : Int) (r : Bool) (h0 : 0 ≤ c) (h1 : c ≤ 5) (hx : Wd.IsWord b x) (hy : Wd.IsWord b y) (hr : Wd.test c b x y = r) : Knows c b x y r := by
  intro W; subst hr; exact testCmp_yes c b x y W h0 h1 hx hy
def Least (b x y m : Int) : Prop := ∀ W : World, ErrT W → Calls Tryd.prog 14 #[.int .i64 8, .int .i64 b, .int .i64 x, .int .i64 y] W fun e w' => e = .returned (.tuple #[.int .i64 m, .bool true]) ∧ Below W.heap.size W w'
theorem least (b x y m : Int) (hx : Wd.IsWord b x) (hy : Wd.IsWord b y) (hm : Wd.doOp 8 b x y = m) : Least b x y m := by
  intro W hg; subst hm; exact doOp_yes 8 b x y W (by decide) (by decide) hx hy hg
def SignIs (b x s : Int) : Prop := ∀ W : World, Calls Tryd.prog 22 #[.int .i64 b, .int .i64 x] W fun e w' => e = .returned (.tuple #[.int .i64 s, .bool true]) ∧ W = w'
theorem signIs (b x : Int) (hx : Wd.IsWord b x) : SignIs b x (Wd.sg b x) := fun W => signedOf_yes b x W hx

set_option maxRecDepth 100000 in
set_option maxHeartbeats 16000000 in
theorem law_compared (a0 : Option Addr) (len0 cap0 : Nat) (z0 : List Int) (a1 : Option Addr) (len1 cap1 : Nat) (z1 : List Int) (w : World) (r0 : IsRow .u8 w a0 len0 cap0 z0) (r1 : IsRow .u8 w a1 len1 cap1 z1) (hg : ErrT w) :
    Calls Tryd.prog 4 #[.slice a0 len0 cap0, .slice a1 len1 cap1] w fun e w' => e = .returned (.bool true) ∧ Below w.heap.size w w' := by
  have m0 := r0.len_le
  have m1 := r1.len_le
  by_cases hbig : 1048576 < len0 ∨ 1048576 < len1
  · have hlong : decide (1048576 < len0 ∨ 1048576 < len1) = true := decide_eq_true hbig
    clear hbig r0 r1 hg
    go_enter Tryd.func4, Tryd.ntmps4
    go_wp2_with fail
    refine (long_any _ _ _ _ _ _ _ m0 m1).mono ?_
    rintro e w' ⟨rfl, rfl⟩
    go_wp2_with fail
    go_ret
    exact ⟨rfl, Below.refl _ _⟩
  · have hlong : decide (1048576 < len0 ∨ 1048576 < len1) = false := decide_eq_false hbig
    have R0 := Lib.hid r0
    have R1 := Lib.hid r1
    have HG := Lib.hid hg
    clear hbig r0 r1 hg
    go_enter Tryd.func4, Tryd.ntmps4
    go_wp2_with fail
    refine (long_any _ _ _ _ _ _ _ m0 m1).mono ?_
    rintro e w' ⟨rfl, rfl⟩
    go_wp2_with fail
    refine (bits_any _ _ _ _ _ R0.out).mono ?_
    rintro e w1 ⟨b, rfl, hb, bel1⟩
    have HB := Lib.hid hb; clear hb
    have R1' := Lib.hid (R1.out.below bel1 R1.out.block)
    have B1 := Lib.hid bel1; clear bel1
    go_wp2_with fail
    refine (b10words_any b 2 _ _ _ _ _ HB.out (by decide) (by decide) R1'.out).mono ?_
    rintro e w2 ⟨g, cap, ws, rfl, hl, hr, k1, k2, k3, k4, hc, bel2⟩
    obtain ⟨x, hx0⟩ : ∃ x, x = ws.getD 0 0 := ⟨_, rfl⟩
    obtain ⟨y, hy0⟩ : ∃ y, y = ws.getD 1 0 := ⟨_, rfl⟩
    have hx := hc 0 (by decide)
    have hy := hc 1 (by decide)
    rw [← hx0] at hx
    rw [← hy0] at hy
    have wx : Wd.IsWord b x := ⟨HB.out, by rw [hx0]; exact hr _ (getD_mem _ _ (by omega))⟩
    have wy : Wd.IsWord b y := ⟨HB.out, by rw [hy0]; exact hr _ (getD_mem _ _ (by omega))⟩
    have k3' := bel2.size
    have HBEL := Lib.hid (B1.out.trans (bel2.mono B1.out.size))
    have HG2 := Lib.hid (HG.out.below HBEL.out HG.out.lt)
    obtain ⟨m, hm⟩ : ∃ m, m = Wd.doOp 8 b x y := ⟨_, rfl⟩
    have T0 := Lib.hid (knows 0 b x y (x == y) (by decide) (by decide) wx wy rfl)
    have T1 := Lib.hid (knows 1 b x y (!(x == y)) (by decide) (by decide) wx wy rfl)
    have T2 := Lib.hid (knows 2 b x y (decide (x < y)) (by decide) (by decide) wx wy rfl)
    have T2b := Lib.hid (knows 2 b y x (decide (y < x)) (by decide) (by decide) wy wx rfl)
    have T3 := Lib.hid (knows 3 b x y (decide (x ≤ y)) (by decide) (by decide) wx wy rfl)
    have T4 := knows 4 b x y (decide (Wd.sg b x < Wd.sg b y)) (by decide) (by decide) wx wy rfl
    have T5 := knows 5 b x y (decide (Wd.sg b x ≤ Wd.sg b y)) (by decide) (by decide) wx wy rfl
    have L := Lib.hid (least b x y m wx wy hm.symm)
    have S0 := signIs b x wx
    have S1 := signIs b y wy
    have hml : (m == x) = decide (Wd.sg b x ≤ Wd.sg b y) := by
      rw [Bool.eq_iff_iff, beq_iff_eq, decide_eq_true_eq, hm]; exact Wd.least_is HB.out wx.2 wy.2
    obtain ⟨s, hs⟩ : ∃ s, s = Wd.sg b x := ⟨_, rfl⟩
    obtain ⟨r, hrr⟩ : ∃ r, r = Wd.sg b y := ⟨_, rfl⟩
    rw [← hs] at S0 hml T4 T5
    rw [← hrr] at S1 hml T4 T5
    have T4 := Lib.hid T4
    have T5 := Lib.hid T5
    have S0 := Lib.hid S0
    have S1 := Lib.hid S1
    clear hs hrr hm wx wy hx0 hy0 hc hr hl k1 k4 bel2 m0 m1
    go_wp2_with fail
    go_region_held3 (fun w' => w'.cell? ⟨g, 0, none⟩ = some (.int .i64 x) ∧ w'.cell? ⟨g, 1, none⟩ = some (.int .i64 y)) (go_keep)
      (first | (go_at_call 21; refine (T0.out _).mono ?_; rintro e w' ⟨rfl, rfl⟩))
    go_wp2_with fail
    go_region_held3 (fun w' => w'.cell? ⟨g, 0, none⟩ = some (.int .i64 x) ∧ w'.cell? ⟨g, 1, none⟩ = some (.int .i64 y)) (go_keep)
      (first | (go_at_call 21; refine (T1.out _).mono ?_; rintro e w' ⟨rfl, rfl⟩))
    go_wp2_with fail
    go_region_held3 (fun w' => w'.cell? ⟨g, 0, none⟩ = some (.int .i64 x) ∧ w'.cell? ⟨g, 1, none⟩ = some (.int .i64 y)) (go_keep)
      (first | (go_at_call 21; refine (T2.out _).mono ?_; rintro e w' ⟨rfl, rfl⟩))
    go_wp2_with fail
    go_region_held3 (fun w' => w'.cell? ⟨g, 0, none⟩ = some (.int .i64 x) ∧ w'.cell? ⟨g, 1, none⟩ = some (.int .i64 y)) (go_keep)
      (first | (go_at_call 21; refine (T2b.out _).mono ?_; rintro e w' ⟨rfl, rfl⟩))
    go_wp2_with fail
    go_region_held3 (fun w' => w'.cell? ⟨g, 0, none⟩ = some (.int .i64 x) ∧ w'.cell? ⟨g, 1, none⟩ = some (.int .i64 y)) (go_keep)
      (first | (go_at_call 21; refine (T3.out _).mono ?_; rintro e w' ⟨rfl, rfl⟩))
    go_wp2_with fail
    go_region_held3 (fun w' => w'.cell? ⟨g, 0, none⟩ = some (.int .i64 x) ∧ w'.cell? ⟨g, 1, none⟩ = some (.int .i64 y)) (go_keep)
      (first | (go_at_call 21; refine (T4.out _).mono ?_; rintro e w' ⟨rfl, rfl⟩))
    go_wp2_with fail
    go_region_held3 (fun w' => w'.cell? ⟨g, 0, none⟩ = some (.int .i64 x) ∧ w'.cell? ⟨g, 1, none⟩ = some (.int .i64 y)) (go_keep)
      (first | (go_at_call 21; refine (T5.out _).mono ?_; rintro e w' ⟨rfl, rfl⟩))
    go_wp2_with fail
    refine (S0.out _).mono ?_
    rintro e w' ⟨rfl, rfl⟩
    go_wp2_with fail
    refine (S1.out _).mono ?_
    rintro e w' ⟨rfl, rfl⟩
    go_wp2_with fail
    go_region_held3 (fun w' => w'.cell? ⟨g, 0, none⟩ = some (.int .i64 x) ∧ w'.cell? ⟨g, 1, none⟩ = some (.int .i64 y)) (first | (exact ⟨(hbel.cell (p := ⟨g, 0, none⟩) k2).trans hx, (hbel.cell (p := ⟨g, 1, none⟩) k2).trans hy⟩) | go_keep)
      (first | (go_at_call 14; refine (L.out _ ?_).mono ?_; (exact HG2.out); rintro e w3 ⟨rfl, hbel⟩; have hx3 := (hbel.cell (p := ⟨g, 0, none⟩) k2).trans hx; have hy3 := (hbel.cell (p := ⟨g, 1, none⟩) k2).trans hy))
    have HBEL3 := Lib.hid hbel; clear hbel
    clear hx hy
    go_wp2
    by_cases hlt : x < y
    · have hd1 : decide (x < y) = true := decide_eq_true hlt
      have hd2 : decide (y < x) = false := decide_eq_false (by omega)
      have hd3 : decide (x ≤ y) = true := decide_eq_true (by omega)
      have hd4 : (x == y) = false := by rw [beq_eq_false_iff_ne]; omega
      go_quiet (fail)
      go_wp2
      go_ret
      exact ⟨rfl, HBEL.out.trans (below_drewN ((show Below w.heap.size w2 _ from by repeat (first | exact Below.refl _ _ | refine Below.drew ?_)).trans ((show Below w2.heap.size _ w3 from HBEL3.out).mono (Nat.le_trans B1.out.size k3'))))⟩
    · have hd : decide (x < y) = false := decide_eq_false hlt
      have hle : decide (x ≤ y) = (x == y) := by rw [Bool.eq_iff_iff, beq_iff_eq, decide_eq_true_eq]; omega
      go_quiet (fail)
      go_wp2
      go_ret
      exact ⟨rfl, HBEL.out.trans (below_drewN ((show Below w.heap.size w2 _ from by repeat (first | exact Below.refl _ _ | refine Below.drew ?_)).trans ((show Below w2.heap.size _ w3 from HBEL3.out).mono (Nat.le_trans B1.out.size k3'))))⟩
end Go.Proofs.YthdiiefacgodnaaDoor.Wds
