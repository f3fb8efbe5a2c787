/-
  What the scalar functions of the reference model of chapter 1 return, over the translated program: one contract each. They change nothing.
-/
import Derived.Test.YthdiiefacgodnaaScal
namespace Go.Proofs.Ythdiiefacgodnaa.Wds
open Go.RowKit

theorem in_any (n lo hi : Int) (w : World) : Calls Try.prog 34 #[.int .i64 n, .int .i64 lo, .int .i64 hi] w fun e w' => e = .returned (.bool (decide (lo ≤ n ∧ n ≤ hi))) ∧ w = w' := by
  by_cases h0 : lo ≤ n
  · by_cases h1 : n ≤ hi
    · rw [decide_eq_true (⟨h0, h1⟩ : lo ≤ n ∧ n ≤ hi)]
      go_enter Try.func34, Try.ntmps34
      go_wp2
      go_ret
      exact ⟨rfl, rfl⟩
    · rw [decide_eq_false (fun hh : lo ≤ n ∧ n ≤ hi => h1 hh.2)]
      go_enter Try.func34, Try.ntmps34
      go_wp2
      go_ret
      exact ⟨rfl, rfl⟩
  · rw [decide_eq_false (fun hh : lo ≤ n ∧ n ≤ hi => h0 hh.1)]
    go_enter Try.func34, Try.ntmps34
    go_wp2
    go_ret
    exact ⟨rfl, rfl⟩
theorem in_yes (n lo hi : Int) (w : World) (h : lo ≤ n ∧ n ≤ hi) : Calls Try.prog 34 #[.int .i64 n, .int .i64 lo, .int .i64 hi] w fun e w' => e = .returned (.bool true) ∧ w = w' := by
  have := in_any n lo hi w; rwa [decide_eq_true h] at this
theorem in_no (n lo hi : Int) (w : World) (h : ¬ (lo ≤ n ∧ n ≤ hi)) : Calls Try.prog 34 #[.int .i64 n, .int .i64 lo, .int .i64 hi] w fun e w' => e = .returned (.bool false) ∧ w = w' := by
  have := in_any n lo hi w; rwa [decide_eq_false h] at this
theorem sbits_any (b : Int) (w : World) : Calls Try.prog 33 #[.int .i64 b] w fun e w' => e = .returned (.bool (decide (Wd.IsBits b))) ∧ w = w' := by
  rw [Wd.isBits_bool]
  go_enter Try.func33, Try.ntmps33
  go_wp2
  all_goals
    go_ret
    exact ⟨ret_bool (by simp_all), rfl⟩
theorem sword_any (b x : Int) (w : World) : Calls Try.prog 27 #[.int .i64 b, .int .i64 x] w fun e w' => e = .returned (.bool (decide (Wd.IsWord b x))) ∧ w = w' := by
  by_cases hb : Wd.IsBits b
  · have hd : decide (Wd.IsBits b) = true := decide_eq_true hb
    have key : ∀ p : Int, Wd.pw b = p → decide (Wd.IsWord b x) = decide (0 ≤ x ∧ x ≤ p - 1) := by
      intro p hp
      by_cases hx : 0 ≤ x ∧ x ≤ p - 1
      · have hw : Wd.IsWord b x := ⟨hb, by omega⟩
        rw [decide_eq_true hx, decide_eq_true hw]
      · have hw : ¬ Wd.IsWord b x := fun hh => hx (by have := hh.2; omega)
        rw [decide_eq_false hx, decide_eq_false hw]
    rcases hb with rfl | rfl | rfl
    · rw [key 16 rfl]; clear key
      go_enter Try.func27, Try.ntmps27
      go_wp2_with (first | (go_at_call 33; refine (sbits_any _ _).mono ?_; rintro e w' ⟨rfl, rfl⟩) | (go_at_call 34; refine (in_any _ _ _ _).mono ?_; rintro e w' ⟨rfl, rfl⟩))
      go_ret
      exact ⟨ret_bool (by simp), rfl⟩
    · rw [key 256 rfl]; clear key
      go_enter Try.func27, Try.ntmps27
      go_wp2_with (first | (go_at_call 33; refine (sbits_any _ _).mono ?_; rintro e w' ⟨rfl, rfl⟩) | (go_at_call 34; refine (in_any _ _ _ _).mono ?_; rintro e w' ⟨rfl, rfl⟩))
      go_ret
      exact ⟨ret_bool (by simp), rfl⟩
    · rw [key 65536 rfl]; clear key
      go_enter Try.func27, Try.ntmps27
      go_wp2_with (first | (go_at_call 33; refine (sbits_any _ _).mono ?_; rintro e w' ⟨rfl, rfl⟩) | (go_at_call 34; refine (in_any _ _ _ _).mono ?_; rintro e w' ⟨rfl, rfl⟩))
      go_ret
      exact ⟨ret_bool (by simp), rfl⟩
  · have hd : decide (Wd.IsBits b) = false := decide_eq_false hb
    have hw : ¬ Wd.IsWord b x := fun hh => hb hh.1
    rw [decide_eq_false hw]; clear hw
    go_enter Try.func27, Try.ntmps27
    go_wp2_with (go_at_call 33; refine (sbits_any _ _).mono ?_; rintro e w' ⟨rfl, rfl⟩)
    go_ret
    exact ⟨rfl, rfl⟩
theorem sword_yes (b x : Int) (w : World) (h : Wd.IsWord b x) : Calls Try.prog 27 #[.int .i64 b, .int .i64 x] w fun e w' => e = .returned (.bool true) ∧ w = w' := by
  have := sword_any b x w; rwa [decide_eq_true h] at this
theorem sword_no (b x : Int) (w : World) (h : ¬ Wd.IsWord b x) : Calls Try.prog 27 #[.int .i64 b, .int .i64 x] w fun e w' => e = .returned (.bool false) ∧ w = w' := by
  have := sword_any b x w; rwa [decide_eq_false h] at this
theorem ssigned_any (b x : Int) (w : World) (h : Wd.IsWord b x) : Calls Try.prog 31 #[.int .i64 b, .int .i64 x] w fun e w' => e = .returned (.int .i64 (Wd.sg b x)) ∧ w = w' := by
  obtain ⟨hb, h0, h1⟩ := h
  rcases hb with rfl | rfl | rfl
  · have h1' : x < 16 := h1
    by_cases hh : x < 8
    · have e : (x / 8 == 1) = false := by simp; omega
      go_enter Try.func31, Try.ntmps31
      go_wp2
      go_ret
      exact ⟨ret_int (by simp only [Wd.sg, Wd.hf, Wd.pw]; simp; omega), rfl⟩
    · have e : (x / 8 == 1) = true := by simp; omega
      go_enter Try.func31, Try.ntmps31
      go_wp2
      go_ret
      exact ⟨ret_int (by simp only [Wd.sg, Wd.hf, Wd.pw]; simp; omega), rfl⟩
  · have h1' : x < 256 := h1
    by_cases hh : x < 128
    · have e : (x / 128 == 1) = false := by simp; omega
      go_enter Try.func31, Try.ntmps31
      go_wp2
      go_ret
      exact ⟨ret_int (by simp only [Wd.sg, Wd.hf, Wd.pw]; simp; omega), rfl⟩
    · have e : (x / 128 == 1) = true := by simp; omega
      go_enter Try.func31, Try.ntmps31
      go_wp2
      go_ret
      exact ⟨ret_int (by simp only [Wd.sg, Wd.hf, Wd.pw]; simp; omega), rfl⟩
  · have h1' : x < 65536 := h1
    by_cases hh : x < 32768
    · have e : (x / 32768 == 1) = false := by simp; omega
      go_enter Try.func31, Try.ntmps31
      go_wp2
      go_ret
      exact ⟨ret_int (by simp only [Wd.sg, Wd.hf, Wd.pw]; simp; omega), rfl⟩
    · have e : (x / 32768 == 1) = true := by simp; omega
      go_enter Try.func31, Try.ntmps31
      go_wp2
      go_ret
      exact ⟨ret_int (by simp only [Wd.sg, Wd.hf, Wd.pw]; simp; omega), rfl⟩
theorem swrap_any (b n : Int) (w : World) (hb : Wd.IsBits b) : Calls Try.prog 35 #[.int .i64 b, .int .i64 n] w fun e w' => e = .returned (.int .i64 (Wd.wr b n)) ∧ w = w' := by
  rcases hb with rfl | rfl | rfl
  · go_enter Try.func35, Try.ntmps35
    go_wp2
    go_ret
    exact ⟨ret_int (Bts.i64_and15 n), rfl⟩
  · go_enter Try.func35, Try.ntmps35
    go_wp2
    go_ret
    exact ⟨ret_int (Bts.i64_and255 n), rfl⟩
  · go_enter Try.func35, Try.ntmps35
    go_wp2
    go_ret
    exact ⟨ret_int (Bts.i64_and65535 n), rfl⟩
theorem sop_yes (op : Int) (w : World) (h : 0 ≤ op ∧ op ≤ 17) : Calls Try.prog 45 #[.int .i64 op] w fun e w' => e = .returned (.bool true) ∧ w = w' := by
  go_enter Try.func45, Try.ntmps45
  go_wp2_with (go_at_call 34; refine (in_yes _ _ _ _ h).mono ?_; rintro e w' ⟨rfl, rfl⟩)
  go_ret
  exact ⟨rfl, rfl⟩
theorem sop_no (op : Int) (w : World) (h : ¬ (0 ≤ op ∧ op ≤ 17)) : Calls Try.prog 45 #[.int .i64 op] w fun e w' => e = .returned (.bool false) ∧ w = w' := by
  go_enter Try.func45, Try.ntmps45
  go_wp2_with (go_at_call 34; refine (in_no _ _ _ _ h).mono ?_; rintro e w' ⟨rfl, rfl⟩)
  go_ret
  exact ⟨rfl, rfl⟩
theorem sIsWord_any (b x : Int) (w : World) : Calls Try.prog 13 #[.int .i64 b, .int .i64 x] w fun e w' => e = .returned (.bool (decide (Wd.IsWord b x))) ∧ w = w' := by
  go_enter Try.func13, Try.ntmps13
  go_wp2_with (go_at_call 27; refine (sword_any _ _ _).mono ?_; rintro e w' ⟨rfl, rfl⟩)
  go_ret
  exact ⟨rfl, rfl⟩
theorem sSignedOf_yes (b x : Int) (w : World) (h : Wd.IsWord b x) : Calls Try.prog 15 #[.int .i64 b, .int .i64 x] w fun e w' => e = .returned (.tuple #[.int .i64 (Wd.sg b x), .bool true]) ∧ w = w' := by
  go_enter Try.func15, Try.ntmps15
  go_wp2_with (first | (go_at_call 27; refine (sword_yes _ _ _ h).mono ?_; rintro e w' ⟨rfl, rfl⟩) | (go_at_call 31; refine (ssigned_any _ _ _ h).mono ?_; rintro e w' ⟨rfl, rfl⟩))
  go_ret2
  exact ⟨rfl, rfl⟩
theorem sSignedOf_no (b x : Int) (w : World) (h : ¬ Wd.IsWord b x) : Calls Try.prog 15 #[.int .i64 b, .int .i64 x] w fun e w' => e = .returned (.tuple #[.int .i64 0, .bool false]) ∧ w = w' := by
  go_enter Try.func15, Try.ntmps15
  go_wp2_with (go_at_call 27; refine (sword_no _ _ _ h).mono ?_; rintro e w' ⟨rfl, rfl⟩)
  go_ret2
  exact ⟨rfl, rfl⟩
theorem sWordOf_yes (b n : Int) (w : World) (hb : Wd.IsBits b) (h : -1000000000 ≤ n ∧ n ≤ 1000000000) : Calls Try.prog 17 #[.int .i64 b, .int .i64 n] w fun e w' => e = .returned (.tuple #[.int .i64 (Wd.wr b n), .bool true]) ∧ w = w' := by
  have hd : decide (Wd.IsBits b) = true := decide_eq_true hb
  go_enter Try.func17, Try.ntmps17
  go_wp2_with (first | (go_at_call 33; refine (sbits_any _ _).mono ?_; rintro e w' ⟨rfl, rfl⟩) | (go_at_call 34; refine (in_yes _ _ _ _ h).mono ?_; rintro e w' ⟨rfl, rfl⟩) | (go_at_call 35; refine (swrap_any _ _ _ hb).mono ?_; rintro e w' ⟨rfl, rfl⟩))
  go_ret2
  exact ⟨rfl, rfl⟩
theorem sWordOf_no (b n : Int) (w : World) (h : ¬ (Wd.IsBits b ∧ -1000000000 ≤ n ∧ n ≤ 1000000000)) : Calls Try.prog 17 #[.int .i64 b, .int .i64 n] w fun e w' => e = .returned (.tuple #[.int .i64 0, .bool false]) ∧ w = w' := by
  by_cases hb : Wd.IsBits b
  · have hd : decide (Wd.IsBits b) = true := decide_eq_true hb
    have hn : ¬ (-1000000000 ≤ n ∧ n ≤ 1000000000) := fun hh => h ⟨hb, hh⟩
    go_enter Try.func17, Try.ntmps17
    go_wp2_with (first | (go_at_call 33; refine (sbits_any _ _).mono ?_; rintro e w' ⟨rfl, rfl⟩) | (go_at_call 34; refine (in_no _ _ _ _ hn).mono ?_; rintro e w' ⟨rfl, rfl⟩))
    go_ret2
    exact ⟨rfl, rfl⟩
  · have hd : decide (Wd.IsBits b) = false := decide_eq_false hb
    go_enter Try.func17, Try.ntmps17
    go_wp2_with (go_at_call 33; refine (sbits_any _ _).mono ?_; rintro e w' ⟨rfl, rfl⟩)
    go_ret2
    exact ⟨rfl, rfl⟩
theorem scomm_in (op : Int) (w : World) (h : 0 ≤ op ∧ op ≤ 17) : Calls Try.prog 40 #[.int .i64 op] w fun e w' => e = .returned (.bool (Wd.comm op)) ∧ w = w' := by
  obtain ⟨h0, h1⟩ := h
  rcases Wd.op_cases h0 h1 with rfl | rfl | rfl | rfl | rfl | rfl | rfl | rfl | rfl | rfl | rfl | rfl | rfl | rfl | rfl | rfl | rfl | rfl
  all_goals
    go_enter Try.func40, Try.ntmps40
    go_wp2_with (go_at_call 45; refine (sop_yes _ _ (by decide)).mono ?_; rintro e w' ⟨rfl, rfl⟩)
    go_ret
    exact ⟨rfl, rfl⟩
theorem scomm_out (op : Int) (w : World) (h : ¬ (0 ≤ op ∧ op ≤ 17)) : Calls Try.prog 40 #[.int .i64 op] w fun e w' => e = .returned (.bool false) ∧ w = w' := by
  have n1 : (op == 1) = false := by simp; omega
  have n2 : (op == 12) = false := by simp; omega
  have n3 : (op == 13) = false := by simp; omega
  have n4 : (op == 15) = false := by simp; omega
  have n5 : (op == 16) = false := by simp; omega
  have n6 : (op == 17) = false := by simp; omega
  go_enter Try.func40, Try.ntmps40
  go_wp2_with (go_at_call 45; refine (sop_no _ _ h).mono ?_; rintro e w' ⟨rfl, rfl⟩)
  go_ret
  exact ⟨rfl, rfl⟩
theorem sIsComm_in (op : Int) (w : World) (h : 0 ≤ op ∧ op ≤ 17) : Calls Try.prog 21 #[.int .i64 op] w fun e w' => e = .returned (.bool (Wd.comm op)) ∧ w = w' := by
  go_enter Try.func21, Try.ntmps21
  go_wp2_with (go_at_call 40; refine (scomm_in _ _ h).mono ?_; rintro e w' ⟨rfl, rfl⟩)
  go_ret
  exact ⟨rfl, rfl⟩
theorem sIsComm_out (op : Int) (w : World) (h : ¬ (0 ≤ op ∧ op ≤ 17)) : Calls Try.prog 21 #[.int .i64 op] w fun e w' => e = .returned (.bool false) ∧ w = w' := by
  go_enter Try.func21, Try.ntmps21
  go_wp2_with (go_at_call 40; refine (scomm_out _ _ h).mono ?_; rintro e w' ⟨rfl, rfl⟩)
  go_ret
  exact ⟨rfl, rfl⟩
theorem scomm_lit (op : Int) (w : World) (h : 0 ≤ op ∧ op ≤ 17) (c : Bool) (hc : Wd.comm op = c) : Calls Try.prog 40 #[.int .i64 op] w fun e w' => e = .returned (.bool c) ∧ w = w' := by
  subst hc; exact scomm_in op w h
theorem sIsAssoc_in (op : Int) (w : World) (h : 0 ≤ op ∧ op ≤ 17) : Calls Try.prog 23 #[.int .i64 op] w fun e w' => e = .returned (.bool (Wd.assoc op)) ∧ w = w' := by
  by_cases hc : Wd.comm op = true
  · by_cases h11 : op = 11
    · subst h11
      go_enter Try.func23, Try.ntmps23
      go_wp2_with (first | (go_at_call 40; refine (scomm_lit _ _ (by decide) true rfl).mono ?_; rintro e w' ⟨rfl, rfl⟩) | go_in)
      go_ret
      exact ⟨rfl, rfl⟩
    · by_cases h14 : op = 14
      · subst h14
        go_enter Try.func23, Try.ntmps23
        go_wp2_with (first | (go_at_call 40; refine (scomm_lit _ _ (by decide) true rfl).mono ?_; rintro e w' ⟨rfl, rfl⟩) | go_in)
        go_ret
        exact ⟨rfl, rfl⟩
      · have n1 : (op != 11) = true := by simpa using h11
        have n2 : (op != 14) = true := by simpa using h14
        have ha : Wd.assoc op = true := by simp [Wd.assoc, hc, h11, h14]
        rw [ha]
        have HC := Lib.hid hc; clear hc ha
        go_enter Try.func23, Try.ntmps23
        go_wp2_with (first | (go_at_call 40; refine (scomm_lit _ _ h true HC.out).mono ?_; rintro e w' ⟨rfl, rfl⟩) | go_in)
        go_ret
        exact ⟨rfl, rfl⟩
  · have hf : Wd.comm op = false := by simpa using hc
    have ha : Wd.assoc op = false := by simp [Wd.assoc, hf]
    rw [ha]
    have HC := Lib.hid hf; clear hc hf ha
    go_enter Try.func23, Try.ntmps23
    go_wp2_with (first | (go_at_call 40; refine (scomm_lit _ _ h false HC.out).mono ?_; rintro e w' ⟨rfl, rfl⟩) | go_in)
    go_ret
    exact ⟨rfl, rfl⟩
theorem sIsAssoc_out (op : Int) (w : World) (h : ¬ (0 ≤ op ∧ op ≤ 17)) : Calls Try.prog 23 #[.int .i64 op] w fun e w' => e = .returned (.bool false) ∧ w = w' := by
  go_enter Try.func23, Try.ntmps23
  go_wp2_with (first | (go_at_call 40; refine (scomm_out _ _ h).mono ?_; rintro e w' ⟨rfl, rfl⟩) | go_in)
  go_ret
  exact ⟨rfl, rfl⟩
theorem stest_any (c b x y : Int) (w : World) (h0 : 0 ≤ c) (h1 : c ≤ 5) (hx : Wd.IsWord b x) (hy : Wd.IsWord b y) : Calls Try.prog 39 #[.int .i64 c, .int .i64 b, .int .i64 x, .int .i64 y] w fun e w' => e = .returned (.bool (Wd.test c b x y)) ∧ w = w' := by
  have hc : c = 0 ∨ c = 1 ∨ c = 2 ∨ c = 3 ∨ c = 4 ∨ c = 5 := by omega
  rcases hc with rfl | rfl | rfl | rfl | rfl | rfl
  all_goals
    go_enter Try.func39, Try.ntmps39
    go_wp2_with (first | (go_at_call 31; ((with_reducible refine (ssigned_any _ x _ hx).mono ?_); rintro e w' ⟨rfl, rfl⟩)) | (go_at_call 31; ((with_reducible refine (ssigned_any _ y _ hy).mono ?_); rintro e w' ⟨rfl, rfl⟩)))
    go_ret
    exact ⟨rfl, rfl⟩
theorem sTestCmp_yes (c b x y : Int) (w : World) (h0 : 0 ≤ c) (h1 : c ≤ 5) (hx : Wd.IsWord b x) (hy : Wd.IsWord b y) : Calls Try.prog 19 #[.int .i64 c, .int .i64 b, .int .i64 x, .int .i64 y] w fun e w' => e = .returned (.tuple #[.bool (Wd.test c b x y), .bool true]) ∧ w = w' := by
  have hd : decide (0 ≤ c ∧ c ≤ 5) = true := decide_eq_true ⟨h0, h1⟩
  go_enter Try.func19, Try.ntmps19
  go_wp2_with (first | (go_at_call 34; refine (in_yes _ _ _ _ ⟨h0, h1⟩).mono ?_; rintro e w' ⟨rfl, rfl⟩) | (go_at_call 27; ((with_reducible refine (sword_yes _ x _ hx).mono ?_); rintro e w' ⟨rfl, rfl⟩)) | (go_at_call 27; ((with_reducible refine (sword_yes _ y _ hy).mono ?_); rintro e w' ⟨rfl, rfl⟩)) | (go_at_call 39; refine (stest_any _ _ _ _ _ h0 h1 hx hy).mono ?_; rintro e w' ⟨rfl, rfl⟩) | go_in)
  go_ret2
  exact ⟨rfl, rfl⟩
theorem sTestCmp_no (c b x y : Int) (w : World) (h : ¬ (0 ≤ c ∧ c ≤ 5 ∧ Wd.IsWord b x ∧ Wd.IsWord b y)) : Calls Try.prog 19 #[.int .i64 c, .int .i64 b, .int .i64 x, .int .i64 y] w fun e w' => e = .returned (.tuple #[.bool false, .bool false]) ∧ w = w' := by
  by_cases hc : 0 ≤ c ∧ c ≤ 5
  · by_cases hx : Wd.IsWord b x
    · have hy : ¬ Wd.IsWord b y := fun hh => h ⟨hc.1, hc.2, hx, hh⟩
      go_enter Try.func19, Try.ntmps19
      go_wp2_with (first | (go_at_call 34; refine (in_yes _ _ _ _ hc).mono ?_; rintro e w' ⟨rfl, rfl⟩) | (go_at_call 27; ((with_reducible refine (sword_yes _ x _ hx).mono ?_); rintro e w' ⟨rfl, rfl⟩)) | (go_at_call 27; ((with_reducible refine (sword_no _ y _ hy).mono ?_); rintro e w' ⟨rfl, rfl⟩)) | go_in)
      go_ret2
      exact ⟨rfl, rfl⟩
    · go_enter Try.func19, Try.ntmps19
      go_wp2_with (first | (go_at_call 34; refine (in_yes _ _ _ _ hc).mono ?_; rintro e w' ⟨rfl, rfl⟩) | (go_at_call 27; ((with_reducible refine (sword_no _ x _ hx).mono ?_); rintro e w' ⟨rfl, rfl⟩)) | go_in)
      go_ret2
      exact ⟨rfl, rfl⟩
  · go_enter Try.func19, Try.ntmps19
    go_wp2_with (first | (go_at_call 34; refine (in_no _ _ _ _ hc).mono ?_; rintro e w' ⟨rfl, rfl⟩) | go_in)
    go_ret2
    exact ⟨rfl, rfl⟩
end Go.Proofs.Ythdiiefacgodnaa.Wds
