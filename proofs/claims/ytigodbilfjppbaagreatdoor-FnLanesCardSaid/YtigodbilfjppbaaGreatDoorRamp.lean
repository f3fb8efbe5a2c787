/-
  Words with equal steps: the code's and the model's function; one contract each.
-/
import Derived.Test.YtigodbilfjppbaaGreatDoorVecW
import Derived.Test.YtigodbilfjppbaaGreatDoorPush
namespace Go.Proofs.YtigodbilfjppbaaGreatDoor.Wds
open Go.RowKit
set_option linter.unusedVariables false

theorem ramp_small {b f y : Int} {k : Nat} (hk : k < 16) (hf : Wd.IsWord b f) (hy : Wd.IsWord b y) : 0 ≤ (k : Int) * y ∧ (k : Int) * y ≤ 1048576 ∧ 0 ≤ f ∧ f ≤ 65536 := by
  obtain ⟨hb, f0, f1⟩ := hf
  obtain ⟨_, y0, y1⟩ := hy
  have := pw_bd hb
  have h1 : (k : Int) * y ≤ 16 * 65536 := Int.mul_le_mul (by omega) (by omega) y0 (by omega)
  have h2 : 0 ≤ (k : Int) * y := Int.mul_nonneg (by omega) y0
  omega
set_option maxHeartbeats 400000 in
theorem iRamp_yes (b f y : Int) (n : Nat) (w : World) (hn : n = 2 ∨ n = 4 ∨ n = 8 ∨ n = 16) (hl : Ln.lanes n = true) (hf : Wd.IsWord b f) (hy : Wd.IsWord b y) :
    Calls Tryz.prog 15 #[.int .i64 b, .int .i64 n, .int .i64 f, .int .i64 y] w (Ret1 (Ln.rampL b f y n) true w) := by
  obtain ⟨i0, hi, hz0, hz1, hz2⟩ := info_parts A_info64
  have HF := Lib.hid hf
  have HY := Lib.hid hy
  have HL := Lib.hid hl
  have hn16 : n ≤ 16 := by omega
  clear hn hl hf hy
  go_enter Tryz.func15, Tryz.ntmps15
  go_wp2_with fail
  refine (isLanes_any _ _).mono ?_
  rintro e w' ⟨rfl, rfl⟩
  rw [HL.out]
  go_wp2_with fail
  refine (isWord_yes _ _ _ HF.out).mono ?_
  rintro e w' ⟨rfl, rfl⟩
  go_wp2_with fail
  refine (isWord_yes _ _ _ HY.out).mono ?_
  rintro e w' ⟨rfl, rfl⟩
  go_wp2_with (refine wpList_make_blk _ rfl _ _ _ rfl i0 Tryz.underlying25 hi hz0 hz1 hz2 _ _ _ _ n rfl rfl rfl rfl (by omega) ?_)
  go_loopw [30] (fun i wr => Fills (fun j => Wd.wr b (f + j * y)) n w.heap.size w i wr) (fun i _ => n - (intOf i).toNat)
  case atStart =>
    exact ⟨0, Nat.zero_le _, rfl, by rw [Ln.fill_zero, ← clls_zero]; exact Blk.new _ _, (Below.refl _ _).alloc (Nat.le_refl _) _⟩
  case round =>
    obtain ⟨k, hk, rfl, hblk, hb⟩ := hrel
    by_cases hlt : k < n
    · obtain ⟨q0, q1, q2, q3⟩ := ramp_small (k := k) (by omega) HF.out HY.out
      obtain ⟨q, hq⟩ : ∃ q : Int, q = (k : Int) * y := ⟨_, rfl⟩
      have hm : IntKind.i64.wrap ((k : Int) * y) = q := by rw [hq, IntKind.wrap_i64]; omega
      rw [← hq] at q0 q1
      have hq' := hq.symm
      have HQ := Lib.hid hq; clear hq
      have hf1 := hblk.frozen k
      have hh := hblk.has hk hlt
      have HN := Lib.hid (fun z hz => Fills.step (f := fun j => Wd.wr b (f + j * y)) hlt (Nat.le_refl _) hb hblk z hz)
      clear hblk hb
      go_wp2_with fail
      refine (wrap_any _ _ _ HF.out.1).mono ?_
      rintro e w' ⟨rfl, rfl⟩
      go_wp2_with fail
      go_roundw
      case rel => exact HN.out _ (by rw [HQ.out])
      case measure => simp [intOf]; omega
    · have hkn : k = n := by omega
      have HALL := Lib.hid (And.intro hblk (And.intro hb hkn)); clear hblk hb hkn
      go_wp2
      go_ret2
      obtain ⟨hblk, hb, rfl⟩ := HALL.out
      rw [Ln.fill_all] at hblk
      exact Ret1.of_blk hblk (Ln.tab_len _ _) (Nat.le_refl _) (by omega) hb
theorem iRampLanes_any (b n f y : Int) (w : World) : Calls Tryz.prog 15 #[.int .i64 b, .int .i64 n, .int .i64 f, .int .i64 y] w (Ret1 (Ln.ramp b n f y).1 (Ln.ramp b n f y).2 w) := by
  unfold Ln.ramp
  by_cases hl : Ln.lanes n = true
  · by_cases hf : Wd.IsWord b f
    · by_cases hy : Wd.IsWord b y
      · have e : (Ln.lanes n && decide (Wd.IsWord b f) && decide (Wd.IsWord b y)) = true := by rw [hl, decide_eq_true hf, decide_eq_true hy]; rfl
        rw [e]
        obtain ⟨m, rfl⟩ := Int.eq_ofNat_of_zero_le (show 0 ≤ n by have := Ln.lanes_cases hl; omega)
        exact iRamp_yes b f y m w (by have := Ln.lanes_cases hl; omega) hl hf hy
      · have e : (Ln.lanes n && decide (Wd.IsWord b f) && decide (Wd.IsWord b y)) = false := by rw [decide_eq_false hy, Bool.and_false]
        rw [e]
        have HF := Lib.hid hf
        have HY := Lib.hid hy
        have HL := Lib.hid hl
        clear hl hf hy e
        go_enter Tryz.func15, Tryz.ntmps15
        go_wp2_with fail
        refine (isLanes_any _ _).mono ?_
        rintro e w' ⟨rfl, rfl⟩
        rw [HL.out]
        go_wp2_with fail
        refine (isWord_yes _ _ _ HF.out).mono ?_
        rintro e w' ⟨rfl, rfl⟩
        go_wp2_with fail
        refine (isWord_no _ _ _ HY.out).mono ?_
        rintro e w' ⟨rfl, hb⟩
        go_wp2_with fail
        go_ret2
        exact Ret1.no hb
    · have e : (Ln.lanes n && decide (Wd.IsWord b f) && decide (Wd.IsWord b y)) = false := by rw [decide_eq_false hf, Bool.and_false, Bool.false_and]
      rw [e]
      have HF := Lib.hid hf
      have HL := Lib.hid hl
      clear hl hf e
      go_enter Tryz.func15, Tryz.ntmps15
      go_wp2_with fail
      refine (isLanes_any _ _).mono ?_
      rintro e w' ⟨rfl, rfl⟩
      rw [HL.out]
      go_wp2_with fail
      refine (isWord_no _ _ _ HF.out).mono ?_
      rintro e w' ⟨rfl, hb⟩
      go_wp2_with fail
      go_ret2
      exact Ret1.no hb
  · have hl' : Ln.lanes n = false := by simpa using hl
    have e : (Ln.lanes n && decide (Wd.IsWord b f) && decide (Wd.IsWord b y)) = false := by rw [hl']; rfl
    rw [e]
    have HL := Lib.hid hl'
    clear hl hl' e
    go_enter Tryz.func15, Tryz.ntmps15
    go_wp2_with fail
    refine (isLanes_any _ _).mono ?_
    rintro e w' ⟨rfl, rfl⟩
    rw [HL.out]
    go_wp2_with fail
    go_ret2
    exact Ret1.no (Below.refl _ _)
end Go.Proofs.YtigodbilfjppbaaGreatDoor.Wds
