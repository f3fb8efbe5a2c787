/-
  Rows with lanes exchanged at a distance: the code's function and its helpers; one contract each.
-/
import Derived.Test.YtigodbilfjppbaaPushR
import Derived.Test.YtigodbilfjppbaaTsM
import Derived.Test.YtigodbilfjppbaaBits
import Derived.Test.YtigodbilfjppbaaWords
namespace Go.Proofs.Ytigodbilfjppbaa.Wds
open Go.RowKit
set_option linter.unusedVariables false
theorem ones64_1 (w : World) : Calls Try.prog 46 #[.int .u64 1] w fun e w' => e = .returned (.int .i64 1) ∧ w = w' := by
  go_enter Try.func46, Try.ntmps46
  go_wp2
  go_ret
  exact ⟨ret_i (by kernel_rfl), rfl⟩
theorem ones64_2 (w : World) : Calls Try.prog 46 #[.int .u64 2] w fun e w' => e = .returned (.int .i64 1) ∧ w = w' := by
  go_enter Try.func46, Try.ntmps46
  go_wp2
  go_ret
  exact ⟨ret_i (by kernel_rfl), rfl⟩
theorem ones64_3 (w : World) : Calls Try.prog 46 #[.int .u64 3] w fun e w' => e = .returned (.int .i64 2) ∧ w = w' := by
  go_enter Try.func46, Try.ntmps46
  go_wp2
  go_ret
  exact ⟨ret_i (by kernel_rfl), rfl⟩
theorem ones64_4 (w : World) : Calls Try.prog 46 #[.int .u64 4] w fun e w' => e = .returned (.int .i64 1) ∧ w = w' := by
  go_enter Try.func46, Try.ntmps46
  go_wp2
  go_ret
  exact ⟨ret_i (by kernel_rfl), rfl⟩
theorem ones64_5 (w : World) : Calls Try.prog 46 #[.int .u64 5] w fun e w' => e = .returned (.int .i64 2) ∧ w = w' := by
  go_enter Try.func46, Try.ntmps46
  go_wp2
  go_ret
  exact ⟨ret_i (by kernel_rfl), rfl⟩
theorem ones64_6 (w : World) : Calls Try.prog 46 #[.int .u64 6] w fun e w' => e = .returned (.int .i64 2) ∧ w = w' := by
  go_enter Try.func46, Try.ntmps46
  go_wp2
  go_ret
  exact ⟨ret_i (by kernel_rfl), rfl⟩
theorem ones64_7 (w : World) : Calls Try.prog 46 #[.int .u64 7] w fun e w' => e = .returned (.int .i64 3) ∧ w = w' := by
  go_enter Try.func46, Try.ntmps46
  go_wp2
  go_ret
  exact ⟨ret_i (by kernel_rfl), rfl⟩
theorem ones64_8 (w : World) : Calls Try.prog 46 #[.int .u64 8] w fun e w' => e = .returned (.int .i64 1) ∧ w = w' := by
  go_enter Try.func46, Try.ntmps46
  go_wp2
  go_ret
  exact ⟨ret_i (by kernel_rfl), rfl⟩
theorem ones64_9 (w : World) : Calls Try.prog 46 #[.int .u64 9] w fun e w' => e = .returned (.int .i64 2) ∧ w = w' := by
  go_enter Try.func46, Try.ntmps46
  go_wp2
  go_ret
  exact ⟨ret_i (by kernel_rfl), rfl⟩
theorem ones64_10 (w : World) : Calls Try.prog 46 #[.int .u64 10] w fun e w' => e = .returned (.int .i64 2) ∧ w = w' := by
  go_enter Try.func46, Try.ntmps46
  go_wp2
  go_ret
  exact ⟨ret_i (by kernel_rfl), rfl⟩
theorem ones64_11 (w : World) : Calls Try.prog 46 #[.int .u64 11] w fun e w' => e = .returned (.int .i64 3) ∧ w = w' := by
  go_enter Try.func46, Try.ntmps46
  go_wp2
  go_ret
  exact ⟨ret_i (by kernel_rfl), rfl⟩
theorem ones64_12 (w : World) : Calls Try.prog 46 #[.int .u64 12] w fun e w' => e = .returned (.int .i64 2) ∧ w = w' := by
  go_enter Try.func46, Try.ntmps46
  go_wp2
  go_ret
  exact ⟨ret_i (by kernel_rfl), rfl⟩
theorem ones64_13 (w : World) : Calls Try.prog 46 #[.int .u64 13] w fun e w' => e = .returned (.int .i64 3) ∧ w = w' := by
  go_enter Try.func46, Try.ntmps46
  go_wp2
  go_ret
  exact ⟨ret_i (by kernel_rfl), rfl⟩
theorem ones64_14 (w : World) : Calls Try.prog 46 #[.int .u64 14] w fun e w' => e = .returned (.int .i64 3) ∧ w = w' := by
  go_enter Try.func46, Try.ntmps46
  go_wp2
  go_ret
  exact ⟨ret_i (by kernel_rfl), rfl⟩
theorem ones64_15 (w : World) : Calls Try.prog 46 #[.int .u64 15] w fun e w' => e = .returned (.int .i64 4) ∧ w = w' := by
  go_enter Try.func46, Try.ntmps46
  go_wp2
  go_ret
  exact ⟨ret_i (by kernel_rfl), rfl⟩
set_option maxHeartbeats 1000000 in
theorem isDist_any (f : Int) (n : Nat) (w : World) (hl : Ln.lanes (n : Int) = true) :
    Calls Try.prog 26 #[.int .i64 f, .int .i64 n] w (RetB (Ln.dist n f) w) := by
  have hn := Ln.lanes_cases hl
  have n1 : (2 : Int) ≤ (n : Int) := by omega
  have n2 : (n : Int) ≤ 16 := by omega
  have n3 : (1 : Int) ≤ (n : Int) := by omega
  have n4 : (0 : Int) ≤ (n : Int) - 1 := by omega
  by_cases h0 : f < 1
  · have e : Ln.dist n f = false := by
      unfold Ln.dist Ln.isFar
      rw [Bool.and_eq_false_iff]; left; simp; omega
    rw [e]
    have C := Lib.hid (fun W => within_lo f 1 ((n : Int) - 1) W h0)
    clear e hl hn
    go_enter Try.func26, Try.ntmps26
    go_wp2_with fail
    refine (C.out _).mono ?_
    rintro e w1 ⟨rfl, rfl⟩
    go_wp2
    go_ret
    exact ⟨rfl, (Below.refl _ _).alloc (Nat.le_refl _) _⟩
  · by_cases h1 : f ≤ (n : Int) - 1
    · have C := Lib.hid (fun W => within_in f 1 ((n : Int) - 1) W (by omega) h1)
      obtain ⟨k, rfl⟩ := Int.eq_ofNat_of_zero_le (show 0 ≤ f by omega)
      have hk1 : 1 ≤ k := by omega
      have hk2 : k ≤ 15 := by omega
      have HK := Lib.hid (show (k : Int) < n by omega)
      clear hl hn h0 h1
      have hk : k = 1 ∨ k = 2 ∨ k = 3 ∨ k = 4 ∨ k = 5 ∨ k = 6 ∨ k = 7 ∨ k = 8 ∨ k = 9 ∨ k = 10 ∨ k = 11 ∨ k = 12 ∨ k = 13 ∨ k = 14 ∨ k = 15 := by omega
      clear hk1 hk2
      rcases hk with rfl | rfl | rfl | rfl | rfl | rfl | rfl | rfl | rfl | rfl | rfl | rfl | rfl | rfl | rfl
      · rw [show Ln.dist n ((1 : Nat) : Int) = true by unfold Ln.dist; rw [decide_eq_true HK.out]; rfl]
        go_enter Try.func26, Try.ntmps26
        go_wp2_with fail
        refine (C.out _).mono ?_
        rintro e w1 ⟨rfl, rfl⟩
        go_wp2_with fail
        refine (ones64_1 _).mono ?_
        rintro e w1 ⟨rfl, rfl⟩
        go_wp2
        go_ret
        exact ⟨rfl, Below.refl _ _⟩
      · rw [show Ln.dist n ((2 : Nat) : Int) = true by unfold Ln.dist; rw [decide_eq_true HK.out]; rfl]
        go_enter Try.func26, Try.ntmps26
        go_wp2_with fail
        refine (C.out _).mono ?_
        rintro e w1 ⟨rfl, rfl⟩
        go_wp2_with fail
        refine (ones64_2 _).mono ?_
        rintro e w1 ⟨rfl, rfl⟩
        go_wp2
        go_ret
        exact ⟨rfl, Below.refl _ _⟩
      · rw [show Ln.dist n ((3 : Nat) : Int) = false by unfold Ln.dist; rw [decide_eq_true HK.out]; rfl]
        go_enter Try.func26, Try.ntmps26
        go_wp2_with fail
        refine (C.out _).mono ?_
        rintro e w1 ⟨rfl, rfl⟩
        go_wp2_with fail
        refine (ones64_3 _).mono ?_
        rintro e w1 ⟨rfl, rfl⟩
        go_wp2
        go_ret
        exact ⟨rfl, Below.refl _ _⟩
      · rw [show Ln.dist n ((4 : Nat) : Int) = true by unfold Ln.dist; rw [decide_eq_true HK.out]; rfl]
        go_enter Try.func26, Try.ntmps26
        go_wp2_with fail
        refine (C.out _).mono ?_
        rintro e w1 ⟨rfl, rfl⟩
        go_wp2_with fail
        refine (ones64_4 _).mono ?_
        rintro e w1 ⟨rfl, rfl⟩
        go_wp2
        go_ret
        exact ⟨rfl, Below.refl _ _⟩
      · rw [show Ln.dist n ((5 : Nat) : Int) = false by unfold Ln.dist; rw [decide_eq_true HK.out]; rfl]
        go_enter Try.func26, Try.ntmps26
        go_wp2_with fail
        refine (C.out _).mono ?_
        rintro e w1 ⟨rfl, rfl⟩
        go_wp2_with fail
        refine (ones64_5 _).mono ?_
        rintro e w1 ⟨rfl, rfl⟩
        go_wp2
        go_ret
        exact ⟨rfl, Below.refl _ _⟩
      · rw [show Ln.dist n ((6 : Nat) : Int) = false by unfold Ln.dist; rw [decide_eq_true HK.out]; rfl]
        go_enter Try.func26, Try.ntmps26
        go_wp2_with fail
        refine (C.out _).mono ?_
        rintro e w1 ⟨rfl, rfl⟩
        go_wp2_with fail
        refine (ones64_6 _).mono ?_
        rintro e w1 ⟨rfl, rfl⟩
        go_wp2
        go_ret
        exact ⟨rfl, Below.refl _ _⟩
      · rw [show Ln.dist n ((7 : Nat) : Int) = false by unfold Ln.dist; rw [decide_eq_true HK.out]; rfl]
        go_enter Try.func26, Try.ntmps26
        go_wp2_with fail
        refine (C.out _).mono ?_
        rintro e w1 ⟨rfl, rfl⟩
        go_wp2_with fail
        refine (ones64_7 _).mono ?_
        rintro e w1 ⟨rfl, rfl⟩
        go_wp2
        go_ret
        exact ⟨rfl, Below.refl _ _⟩
      · rw [show Ln.dist n ((8 : Nat) : Int) = true by unfold Ln.dist; rw [decide_eq_true HK.out]; rfl]
        go_enter Try.func26, Try.ntmps26
        go_wp2_with fail
        refine (C.out _).mono ?_
        rintro e w1 ⟨rfl, rfl⟩
        go_wp2_with fail
        refine (ones64_8 _).mono ?_
        rintro e w1 ⟨rfl, rfl⟩
        go_wp2
        go_ret
        exact ⟨rfl, Below.refl _ _⟩
      · rw [show Ln.dist n ((9 : Nat) : Int) = false by unfold Ln.dist; rw [decide_eq_true HK.out]; rfl]
        go_enter Try.func26, Try.ntmps26
        go_wp2_with fail
        refine (C.out _).mono ?_
        rintro e w1 ⟨rfl, rfl⟩
        go_wp2_with fail
        refine (ones64_9 _).mono ?_
        rintro e w1 ⟨rfl, rfl⟩
        go_wp2
        go_ret
        exact ⟨rfl, Below.refl _ _⟩
      · rw [show Ln.dist n ((10 : Nat) : Int) = false by unfold Ln.dist; rw [decide_eq_true HK.out]; rfl]
        go_enter Try.func26, Try.ntmps26
        go_wp2_with fail
        refine (C.out _).mono ?_
        rintro e w1 ⟨rfl, rfl⟩
        go_wp2_with fail
        refine (ones64_10 _).mono ?_
        rintro e w1 ⟨rfl, rfl⟩
        go_wp2
        go_ret
        exact ⟨rfl, Below.refl _ _⟩
      · rw [show Ln.dist n ((11 : Nat) : Int) = false by unfold Ln.dist; rw [decide_eq_true HK.out]; rfl]
        go_enter Try.func26, Try.ntmps26
        go_wp2_with fail
        refine (C.out _).mono ?_
        rintro e w1 ⟨rfl, rfl⟩
        go_wp2_with fail
        refine (ones64_11 _).mono ?_
        rintro e w1 ⟨rfl, rfl⟩
        go_wp2
        go_ret
        exact ⟨rfl, Below.refl _ _⟩
      · rw [show Ln.dist n ((12 : Nat) : Int) = false by unfold Ln.dist; rw [decide_eq_true HK.out]; rfl]
        go_enter Try.func26, Try.ntmps26
        go_wp2_with fail
        refine (C.out _).mono ?_
        rintro e w1 ⟨rfl, rfl⟩
        go_wp2_with fail
        refine (ones64_12 _).mono ?_
        rintro e w1 ⟨rfl, rfl⟩
        go_wp2
        go_ret
        exact ⟨rfl, Below.refl _ _⟩
      · rw [show Ln.dist n ((13 : Nat) : Int) = false by unfold Ln.dist; rw [decide_eq_true HK.out]; rfl]
        go_enter Try.func26, Try.ntmps26
        go_wp2_with fail
        refine (C.out _).mono ?_
        rintro e w1 ⟨rfl, rfl⟩
        go_wp2_with fail
        refine (ones64_13 _).mono ?_
        rintro e w1 ⟨rfl, rfl⟩
        go_wp2
        go_ret
        exact ⟨rfl, Below.refl _ _⟩
      · rw [show Ln.dist n ((14 : Nat) : Int) = false by unfold Ln.dist; rw [decide_eq_true HK.out]; rfl]
        go_enter Try.func26, Try.ntmps26
        go_wp2_with fail
        refine (C.out _).mono ?_
        rintro e w1 ⟨rfl, rfl⟩
        go_wp2_with fail
        refine (ones64_14 _).mono ?_
        rintro e w1 ⟨rfl, rfl⟩
        go_wp2
        go_ret
        exact ⟨rfl, Below.refl _ _⟩
      · rw [show Ln.dist n ((15 : Nat) : Int) = false by unfold Ln.dist; rw [decide_eq_true HK.out]; rfl]
        go_enter Try.func26, Try.ntmps26
        go_wp2_with fail
        refine (C.out _).mono ?_
        rintro e w1 ⟨rfl, rfl⟩
        go_wp2_with fail
        refine (ones64_15 _).mono ?_
        rintro e w1 ⟨rfl, rfl⟩
        go_wp2
        go_ret
        exact ⟨rfl, Below.refl _ _⟩
    · have h2 : (n : Int) - 1 < f := by omega
      have e : Ln.dist n f = false := by
        unfold Ln.dist
        rw [decide_eq_false (by omega), Bool.and_false]
      rw [e]
      have C := Lib.hid (fun W => within_hi f 1 ((n : Int) - 1) W (by omega) h2)
      clear e hl hn h1
      go_enter Try.func26, Try.ntmps26
      go_wp2_with fail
      refine (C.out _).mono ?_
      rintro e w1 ⟨rfl, rfl⟩
      go_wp2
      go_ret
      exact ⟨rfl, (Below.refl _ _).alloc (Nat.le_refl _) _⟩
theorem and64 (k f : Nat) (hk : k < 65536) (hf : f < 65536) : bits .and .i64 (k : Int) (f : Int) = ((k &&& f : Nat) : Int) := by
  have := (Bts.three_i64 (k : Int) (f : Int) (by omega) (by omega) (by omega) (by omega)).1
  rw [Int.toNat_natCast, Int.toNat_natCast] at this
  exact this
set_option maxHeartbeats 1000000 in
theorem lower_any (n f : Nat) (w : World) (hn : n ≤ 16) (hf : f ≤ 16) :
    Calls Try.prog 28 #[.int .i64 n, .int .i64 f] w (RetL (Ln.low n f) w) := by
  obtain ⟨i0, hi, hz0, hz1, hz2⟩ := info_parts A_info64
  have q1 : (n : Int) / 2 = ((n / 2 : Nat) : Int) := by omega
  obtain ⟨c, hc⟩ : ∃ c, c = n / 2 := ⟨_, rfl⟩
  rw [← hc] at q1
  have hc2 : c ≤ 8 := by omega
  have q2 : (0 : Int) ≤ (n : Int) := by omega
  clear hc
  go_enter Try.func28, Try.ntmps28
  go_wp2_with (refine wpList_make_own _ rfl _ _ _ rfl w.heap.size 2 i0 (.int .i64 0) 1 Try.underlying26 hi hz0 hz1 _ _ _ c rfl rfl rfl (by rw [hz2]; omega) (by unfold maxLen; omega) (Nat.le_refl _) ?_; intro w1 hown1 hg1; have HO1 := Lib.hid hown1; have HB1 := Lib.hid ((Below.refl w.heap.size w).grown hg1 (Nat.le_refl _) (fun r hr => by cases hr)); clear hown1 hg1)
  go_loopw [5, 11] (fun v i wr => ∃ k : Nat, k ≤ n ∧ i = .int .i64 k ∧ wr.ownsRow w.heap.size 2 1 v (Ln.low k f).length ((Ln.low k f).map (Value.int .i64)) ∧ Below w.heap.size w wr) (fun _ i _ => n - (intOf i).toNat)
  case atStart => exact ⟨0, Nat.zero_le _, rfl, HO1.out, HB1.out⟩
  case round =>
    obtain ⟨k, hk, rfl, hown, hb⟩ := hrel
    by_cases hlt : k < n
    · have ha := and64 k f (by omega) (by omega)
      have hs := Ln.low_succ k f
      have hll := Ln.low_len k f
      have HO := Lib.hid hown
      have HB := Lib.hid hb
      have hsz := hb.size
      obtain ⟨q, hq⟩ : ∃ q : Nat, q = k &&& f := ⟨_, rfl⟩
      rw [← hq] at ha hs
      have i1 : (0 : Int) ≤ (k : Int) := by omega
      have i2 : (k : Int) < (n : Int) := by omega
      by_cases h0 : q = 0
      · rw [if_pos h0] at hs
        subst h0
        have e1 : (((0 : Nat) : Int) == 0) = true := by simp
        have HS := Lib.hid hs
        clear hs hq hown hb
        go_wp2_with (at_builtin; refine wpList_push _ rfl _ _ rfl i0 Try.underlying26 hi hz0 hz1 hz2 _ _ _ _ _ rfl HO.out rfl (by omega) hsz ?_; intro v' w3 hown1 hb1; have HO3 := Lib.hid hown1; have HBB := Lib.hid hb1; clear hown1 hb1)
        go_roundw
        case rel =>
          refine ⟨k + 1, by omega, by go_num, ?_, HB.out.trans HBB.out⟩
          rw [HS.out, List.length_append]
          exact HO3.out
        case measure => simp [intOf]; omega
      · rw [if_neg h0, List.append_nil] at hs
        have e1 : ((q : Int) == 0) = false := by simp; exact h0
        have HS := Lib.hid hs
        clear hs hq hown hb
        go_wp2
        go_roundw
        case rel =>
          refine ⟨k + 1, by omega, by go_num, ?_, HB.out⟩
          rw [HS.out]
          exact HO.out
        case measure => simp [intOf]; omega
    · have hkn : k = n := by omega
      subst hkn
      have HF := Lib.hid (And.intro hown hb); clear hown hb
      have hll := Ln.low_len k f
      go_wp2
      go_ret
      exact RetL.of_row HF.out.1 (by omega) HF.out.2
end Go.Proofs.Ytigodbilfjppbaa.Wds
