/-
  The walks of the laws of the plain seat: each returns true and leaves what was there as it was.
-/
import Derived.Test.YthdiiefacgodnaaSpec
namespace Go.Proofs.Ythdiiefacgodnaa.Wds
open Go.RowKit

theorem law_isWord (b x : Int) (w : World) : Calls Try.prog 4 #[.int .i64 b, .int .i64 x] w fun e w' => e = .returned (.bool true) ∧ Below w.heap.size w w' := by
  by_cases h : Wd.IsWord b x
  · have hd : decide (Wd.IsWord b x) = true := decide_eq_true h
    go_enter Try.func4, Try.ntmps4
    go_wp2_with (first | (go_at_call 13; refine (sIsWord_any _ _ _).mono ?_; rintro e w' ⟨rfl, rfl⟩) | (go_at_call 14; refine (isWord_yes _ _ _ h).mono ?_; rintro e w' ⟨rfl, rfl⟩))
    go_ret
    exact ⟨rfl, Below.refl _ _⟩
  · have hd : decide (Wd.IsWord b x) = false := decide_eq_false h
    go_enter Try.func4, Try.ntmps4
    go_wp2_with (first | (go_at_call 13; refine (sIsWord_any _ _ _).mono ?_; rintro e w' ⟨rfl, rfl⟩) | (go_at_call 14; refine (isWord_no _ _ _ h).mono ?_; rintro e w' ⟨rfl, hbel⟩))
    go_ret
    exact ⟨rfl, hbel⟩
theorem law_signedOf (b x : Int) (w : World) : Calls Try.prog 5 #[.int .i64 b, .int .i64 x] w fun e w' => e = .returned (.bool true) ∧ Below w.heap.size w w' := by
  by_cases h : Wd.IsWord b x
  · go_enter Try.func5, Try.ntmps5
    go_wp2_with (first | (go_at_call 15; refine (sSignedOf_yes _ _ _ h).mono ?_; rintro e w' ⟨rfl, rfl⟩) | (go_at_call 16; refine (signedOf_yes _ _ _ h).mono ?_; rintro e w' ⟨rfl, rfl⟩))
    go_ret
    exact ⟨rfl, Below.refl _ _⟩
  · go_enter Try.func5, Try.ntmps5
    go_wp2_with (first | (go_at_call 15; refine (sSignedOf_no _ _ _ h).mono ?_; rintro e w' ⟨rfl, rfl⟩) | (go_at_call 16; refine (signedOf_no _ _ _ h).mono ?_; rintro e w' ⟨rfl, hbel⟩))
    go_ret
    exact ⟨rfl, hbel⟩
theorem law_wordOf (b n : Int) (w : World) : Calls Try.prog 6 #[.int .i64 b, .int .i64 n] w fun e w' => e = .returned (.bool true) ∧ Below w.heap.size w w' := by
  by_cases h : Wd.IsBits b ∧ -1000000000 ≤ n ∧ n ≤ 1000000000
  · go_enter Try.func6, Try.ntmps6
    go_wp2_with (first | (go_at_call 17; refine (sWordOf_yes _ _ _ h.1 h.2).mono ?_; rintro e w' ⟨rfl, rfl⟩) | (go_at_call 18; refine (wordOf_yes _ _ _ h.1 h.2.1 h.2.2).mono ?_; rintro e w' ⟨rfl, rfl⟩))
    go_ret
    exact ⟨rfl, Below.refl _ _⟩
  · go_enter Try.func6, Try.ntmps6
    go_wp2_with (first | (go_at_call 17; refine (sWordOf_no _ _ _ h).mono ?_; rintro e w' ⟨rfl, rfl⟩) | (go_at_call 18; refine (wordOf_no _ _ _ h).mono ?_; rintro e w' ⟨rfl, hbel⟩))
    go_ret
    exact ⟨rfl, hbel⟩
theorem law_testCmp (c b x y : Int) (w : World) : Calls Try.prog 7 #[.int .i64 c, .int .i64 b, .int .i64 x, .int .i64 y] w fun e w' => e = .returned (.bool true) ∧ Below w.heap.size w w' := by
  by_cases h : 0 ≤ c ∧ c ≤ 5 ∧ Wd.IsWord b x ∧ Wd.IsWord b y
  · obtain ⟨t, ht⟩ : ∃ t, t = Wd.test c b x y := ⟨_, rfl⟩
    go_enter Try.func7, Try.ntmps7
    go_wp2_with (first | (go_at_call 19; refine (sTestCmp_yes _ _ _ _ _ h.1 h.2.1 h.2.2.1 h.2.2.2).mono ?_; rintro e w' ⟨rfl, rfl⟩) | (go_at_call 20; refine (testCmp_yes _ _ _ _ _ h.1 h.2.1 h.2.2.1 h.2.2.2).mono ?_; rintro e w' ⟨rfl, rfl⟩))
    go_ret
    exact ⟨rfl, Below.refl _ _⟩
  · go_enter Try.func7, Try.ntmps7
    go_wp2_with (first | (go_at_call 19; refine (sTestCmp_no _ _ _ _ _ h).mono ?_; rintro e w' ⟨rfl, rfl⟩) | (go_at_call 20; refine (testCmp_no _ _ _ _ _ h).mono ?_; rintro e w' ⟨rfl, hbel⟩))
    go_ret
    exact ⟨rfl, hbel⟩
theorem law_isComm (op : Int) (w : World) : Calls Try.prog 8 #[.int .i64 op] w fun e w' => e = .returned (.bool true) ∧ Below w.heap.size w w' := by
  by_cases h : 0 ≤ op ∧ op ≤ 17
  · go_enter Try.func8, Try.ntmps8
    go_wp2_with (first | (go_at_call 21; refine (sIsComm_in _ _ h).mono ?_; rintro e w' ⟨rfl, rfl⟩) | (go_at_call 22; refine (comm_in _ _ h.1 h.2).mono ?_; rintro e w' ⟨rfl, rfl⟩))
    go_ret
    exact ⟨rfl, Below.refl _ _⟩
  · go_enter Try.func8, Try.ntmps8
    go_wp2_with (first | (go_at_call 21; refine (sIsComm_out _ _ h).mono ?_; rintro e w' ⟨rfl, rfl⟩) | (go_at_call 22; refine (comm_out _ _ h).mono ?_; rintro e w' ⟨rfl, hbel⟩))
    go_ret
    exact ⟨rfl, hbel⟩
theorem law_isAssoc (op : Int) (w : World) : Calls Try.prog 9 #[.int .i64 op] w fun e w' => e = .returned (.bool true) ∧ Below w.heap.size w w' := by
  by_cases h : 0 ≤ op ∧ op ≤ 17
  · go_enter Try.func9, Try.ntmps9
    go_wp2_with (first | (go_at_call 23; refine (sIsAssoc_in _ _ h).mono ?_; rintro e w' ⟨rfl, rfl⟩) | (go_at_call 24; refine (assoc_in _ _ h.1 h.2).mono ?_; rintro e w' ⟨rfl, rfl⟩))
    go_ret
    exact ⟨rfl, Below.refl _ _⟩
  · go_enter Try.func9, Try.ntmps9
    go_wp2_with (first | (go_at_call 23; refine (sIsAssoc_out _ _ h).mono ?_; rintro e w' ⟨rfl, rfl⟩) | (go_at_call 24; refine (assoc_out _ _ h).mono ?_; rintro e w' ⟨rfl, hbel⟩))
    go_ret
    exact ⟨rfl, hbel⟩
end Go.Proofs.Ythdiiefacgodnaa.Wds
