/-
  What the scalar functions of chapter 1 return and do to memory, over the translated program: one contract each (the code's own and the model's).
-/
import Derived.Test.YtigodbilfjppbaaGreatDoorWords
import Derived.Test.YtigodbilfjppbaaGreatDoorBits
namespace Go.Proofs.YtigodbilfjppbaaGreatDoor.Wds
open Go.RowKit

theorem ret_word {k : IntKind} {a b : Int} {c : Bool} (h : a = b) : Ending.returned (.tuple #[.int k a, .bool c]) = .returned (.tuple #[.int k b, .bool c]) := by rw [h]
theorem ret_two {a b c : Bool} (h : a = b) : Ending.returned (.tuple #[.bool a, .bool c]) = .returned (.tuple #[.bool b, .bool c]) := by rw [h]
theorem pw_bd {b : Int} (h : Wd.IsBits b) : 16 ≤ Wd.pw b ∧ Wd.pw b ≤ 65536 ∧ Wd.pw b = 2 * Wd.hf b ∧ 4 ≤ b ∧ b ≤ 16 := by
  rcases Wd.bits_cases h with ⟨h0, h1, h2⟩ | ⟨h0, h1, h2⟩ | ⟨h0, h1, h2⟩ <;> omega

theorem signed_any (b x : Int) (w : World) (h : Wd.IsWord b x) : Calls Tryz.prog 45 #[.int .i64 b, .int .i64 x] w fun e w' => e = .returned (.int .i64 (Wd.sg b x)) ∧ w = w' := by
  obtain ⟨hb, h0, h1⟩ := h
  rcases hb with rfl | rfl | rfl
  · have h1' : x < 16 := h1
    by_cases hh : x < 8
    all_goals
      go_enter Tryz.func45, Tryz.ntmps45
      go_wp2
      go_ret
      exact ⟨ret_int (by simp only [Wd.sg, Wd.hf, Wd.pw]; simp; omega), rfl⟩
  · have h1' : x < 256 := h1
    by_cases hh : x < 128
    all_goals
      go_enter Tryz.func45, Tryz.ntmps45
      go_wp2
      go_ret
      exact ⟨ret_int (by simp only [Wd.sg, Wd.hf, Wd.pw]; simp; omega), rfl⟩
  · have h1' : x < 65536 := h1
    by_cases hh : x < 32768
    all_goals
      go_enter Tryz.func45, Tryz.ntmps45
      go_wp2
      go_ret
      exact ⟨ret_int (by simp only [Wd.sg, Wd.hf, Wd.pw]; simp; omega), rfl⟩
theorem isOp_yes (op : Int) (w : World) (h0 : 0 ≤ op) (h1 : op ≤ 17) : Calls Tryz.prog 33 #[.int .i64 op] w fun e w' => e = .returned (.bool true) ∧ w = w' := by
  go_enter Tryz.func33, Tryz.ntmps33
  go_wp2_with (go_at_call 48; refine (within_in _ _ _ _ (by omega) (by omega)).mono ?_; rintro e w' ⟨rfl, rfl⟩)
  go_ret
  exact ⟨rfl, rfl⟩
theorem isOp_lo (op : Int) (w : World) (h0 : op < 0) : Calls Tryz.prog 33 #[.int .i64 op] w fun e w' => e = .returned (.bool false) ∧ Below w.heap.size w w' := by
  go_enter Tryz.func33, Tryz.ntmps33
  go_wp2_with (go_at_call 48; refine (within_lo _ _ _ _ (by omega)).mono ?_; rintro e w' ⟨rfl, rfl⟩)
  go_ret
  exact ⟨rfl, (Below.refl _ _).alloc (Nat.le_refl _) _⟩
theorem isOp_hi (op : Int) (w : World) (h0 : 17 < op) : Calls Tryz.prog 33 #[.int .i64 op] w fun e w' => e = .returned (.bool false) ∧ Below w.heap.size w w' := by
  go_enter Tryz.func33, Tryz.ntmps33
  go_wp2_with (go_at_call 48; refine (within_hi _ _ _ _ (by omega) (by omega)).mono ?_; rintro e w' ⟨rfl, rfl⟩)
  go_ret
  exact ⟨rfl, (Below.refl _ _).alloc (Nat.le_refl _) _⟩
theorem isOp_no (op : Int) (w : World) (h : ¬ (0 ≤ op ∧ op ≤ 17)) : Calls Tryz.prog 33 #[.int .i64 op] w fun e w' => e = .returned (.bool false) ∧ Below w.heap.size w w' := by
  by_cases h0 : op < 0
  · exact isOp_lo op w h0
  · exact isOp_hi op w (by omega)
theorem isValue_yes (n : Int) (w : World) (h0 : -1000000000 ≤ n) (h1 : n ≤ 1000000000) : Calls Tryz.prog 47 #[.int .i64 n] w fun e w' => e = .returned (.bool true) ∧ w = w' := by
  go_enter Tryz.func47, Tryz.ntmps47
  go_wp2_with (go_at_call 48; refine (within_in _ _ _ _ (by omega) (by omega)).mono ?_; rintro e w' ⟨rfl, rfl⟩)
  go_ret
  exact ⟨rfl, rfl⟩
theorem isValue_lo (n : Int) (w : World) (h0 : n < -1000000000) : Calls Tryz.prog 47 #[.int .i64 n] w fun e w' => e = .returned (.bool false) ∧ Below w.heap.size w w' := by
  go_enter Tryz.func47, Tryz.ntmps47
  go_wp2_with (go_at_call 48; refine (within_lo _ _ _ _ (by omega)).mono ?_; rintro e w' ⟨rfl, rfl⟩)
  go_ret
  exact ⟨rfl, (Below.refl _ _).alloc (Nat.le_refl _) _⟩
theorem isValue_hi (n : Int) (w : World) (h0 : 1000000000 < n) : Calls Tryz.prog 47 #[.int .i64 n] w fun e w' => e = .returned (.bool false) ∧ Below w.heap.size w w' := by
  go_enter Tryz.func47, Tryz.ntmps47
  go_wp2_with (go_at_call 48; refine (within_hi _ _ _ _ (by omega) (by omega)).mono ?_; rintro e w' ⟨rfl, rfl⟩)
  go_ret
  exact ⟨rfl, (Below.refl _ _).alloc (Nat.le_refl _) _⟩
theorem isValue_no (n : Int) (w : World) (h : ¬ (-1000000000 ≤ n ∧ n ≤ 1000000000)) : Calls Tryz.prog 47 #[.int .i64 n] w fun e w' => e = .returned (.bool false) ∧ Below w.heap.size w w' := by
  by_cases h0 : n < -1000000000
  · exact isValue_lo n w h0
  · exact isValue_hi n w (by omega)
theorem signedOf_yes (b x : Int) (w : World) (h : Wd.IsWord b x) : Calls Tryz.prog 28 #[.int .i64 b, .int .i64 x] w fun e w' => e = .returned (.tuple #[.int .i64 (Wd.sg b x), .bool true]) ∧ w = w' := by
  go_enter Tryz.func28, Tryz.ntmps28
  go_wp2_with (first | (go_at_call 25; refine (isWord_yes _ _ _ h).mono ?_; rintro e w' ⟨rfl, rfl⟩) | (go_at_call 45; refine (signed_any _ _ _ h).mono ?_; rintro e w' ⟨rfl, rfl⟩))
  go_ret2
  exact ⟨rfl, rfl⟩
theorem signedOf_no (b x : Int) (w : World) (h : ¬ Wd.IsWord b x) : Calls Tryz.prog 28 #[.int .i64 b, .int .i64 x] w fun e w' => e = .returned (.tuple #[.int .i64 0, .bool false]) ∧ Below w.heap.size w w' := by
  go_enter Tryz.func28, Tryz.ntmps28
  go_wp2_with (go_at_call 25; refine (isWord_no _ _ _ h).mono ?_; rintro e w' ⟨rfl, hb⟩)
  go_ret2
  exact ⟨rfl, hb⟩
theorem wrap_any (b n : Int) (w : World) (hb : Wd.IsBits b) : Calls Tryz.prog 40 #[.int .i64 b, .int .i64 n] w fun e w' => e = .returned (.int .i64 (Wd.wr b n)) ∧ w = w' := by
  have hp1 := (pw_bd hb).1
  have hp2 := (pw_bd hb).2.1
  go_enter Tryz.func40, Tryz.ntmps40
  go_wp2_with (go_at_call 49; refine (greatest_any _ _ hb).mono ?_; rintro e w' ⟨rfl, rfl⟩)
  go_ret
  exact ⟨ret_int (Bts.i64_wr b n hb), rfl⟩
theorem wordOf_yes (b n : Int) (w : World) (hb : Wd.IsBits b) (h0 : -1000000000 ≤ n) (h1 : n ≤ 1000000000) : Calls Tryz.prog 20 #[.int .i64 b, .int .i64 n] w fun e w' => e = .returned (.tuple #[.int .i64 (Wd.wr b n), .bool true]) ∧ w = w' := by
  have hd : decide (Wd.IsBits b) = true := decide_eq_true hb
  go_enter Tryz.func20, Tryz.ntmps20
  go_wp2_with (first | (go_at_call 46; refine (isBits_any _ _).mono ?_; rintro e w' ⟨rfl, rfl⟩) | (go_at_call 47; refine (isValue_yes _ _ h0 h1).mono ?_; rintro e w' ⟨rfl, rfl⟩) | (go_at_call 40; refine (wrap_any _ _ _ hb).mono ?_; rintro e w' ⟨rfl, rfl⟩))
  go_ret2
  exact ⟨rfl, rfl⟩
theorem wordOf_no (b n : Int) (w : World) (h : ¬ (Wd.IsBits b ∧ -1000000000 ≤ n ∧ n ≤ 1000000000)) : Calls Tryz.prog 20 #[.int .i64 b, .int .i64 n] w fun e w' => e = .returned (.tuple #[.int .i64 0, .bool false]) ∧ Below w.heap.size w w' := by
  by_cases hb : Wd.IsBits b
  · have hd : decide (Wd.IsBits b) = true := decide_eq_true hb
    have hn : ¬ (-1000000000 ≤ n ∧ n ≤ 1000000000) := fun hh => h ⟨hb, hh⟩
    go_enter Tryz.func20, Tryz.ntmps20
    go_wp2_with (first | (go_at_call 46; refine (isBits_any _ _).mono ?_; rintro e w' ⟨rfl, rfl⟩) | (go_at_call 47; refine (isValue_no _ _ hn).mono ?_; rintro e w' ⟨rfl, hbel⟩))
    go_ret2
    exact ⟨rfl, hbel⟩
  · have hd : decide (Wd.IsBits b) = false := decide_eq_false hb
    go_enter Tryz.func20, Tryz.ntmps20
    go_wp2_with (go_at_call 46; refine (isBits_any _ _).mono ?_; rintro e w' ⟨rfl, rfl⟩)
    go_ret2
    exact ⟨rfl, Below.refl _ _⟩
theorem comm_in (op : Int) (w : World) (h0 : 0 ≤ op) (h1 : op ≤ 17) : Calls Tryz.prog 26 #[.int .i64 op] w fun e w' => e = .returned (.bool (Wd.comm op)) ∧ w = w' := by
  rcases Wd.op_cases h0 h1 with rfl | rfl | rfl | rfl | rfl | rfl | rfl | rfl | rfl | rfl | rfl | rfl | rfl | rfl | rfl | rfl | rfl | rfl
  all_goals
    go_enter Tryz.func26, Tryz.ntmps26
    go_wp2_with (go_at_call 33; refine (isOp_yes _ _ (by decide) (by decide)).mono ?_; rintro e w' ⟨rfl, rfl⟩)
    go_ret
    exact ⟨rfl, rfl⟩
theorem comm_false {op : Int} (h : ¬ (0 ≤ op ∧ op ≤ 17)) : Wd.comm op = false := by simp only [Wd.comm]; rw [decide_eq_false h]; rfl
theorem comm_out (op : Int) (w : World) (h : ¬ (0 ≤ op ∧ op ≤ 17)) : Calls Tryz.prog 26 #[.int .i64 op] w fun e w' => e = .returned (.bool false) ∧ Below w.heap.size w w' := by
  have n1 : (op == 1) = false := by simp; omega
  have n2 : (op == 12) = false := by simp; omega
  have n3 : (op == 13) = false := by simp; omega
  have n4 : (op == 15) = false := by simp; omega
  have n5 : (op == 16) = false := by simp; omega
  have n6 : (op == 17) = false := by simp; omega
  go_enter Tryz.func26, Tryz.ntmps26
  go_wp2_with (go_at_call 33; refine (isOp_no _ _ h).mono ?_; rintro e w' ⟨rfl, hbel⟩)
  go_ret
  exact ⟨rfl, hbel⟩
theorem assoc_in (op : Int) (w : World) (h0 : 0 ≤ op) (h1 : op ≤ 17) : Calls Tryz.prog 27 #[.int .i64 op] w fun e w' => e = .returned (.bool (Wd.assoc op)) ∧ w = w' := by
  rcases Wd.op_cases h0 h1 with rfl | rfl | rfl | rfl | rfl | rfl | rfl | rfl | rfl | rfl | rfl | rfl | rfl | rfl | rfl | rfl | rfl | rfl
  all_goals
    go_enter Tryz.func27, Tryz.ntmps27
    go_wp2_with (go_at_call 26; refine (comm_in _ _ (by decide) (by decide)).mono ?_; rintro e w' ⟨rfl, rfl⟩)
    go_ret
    exact ⟨rfl, rfl⟩
theorem assoc_out (op : Int) (w : World) (h : ¬ (0 ≤ op ∧ op ≤ 17)) : Calls Tryz.prog 27 #[.int .i64 op] w fun e w' => e = .returned (.bool false) ∧ Below w.heap.size w w' := by
  have n1 : (op == 11) = false := by simp; omega
  have n2 : (op == 14) = false := by simp; omega
  go_enter Tryz.func27, Tryz.ntmps27
  go_wp2_with (go_at_call 26; refine (comm_out _ _ h).mono ?_; rintro e w' ⟨rfl, hbel⟩)
  go_ret
  exact ⟨rfl, hbel⟩
theorem testCmp_yes (c b x y : Int) (w : World) (h0 : 0 ≤ c) (h1 : c ≤ 5) (hx : Wd.IsWord b x) (hy : Wd.IsWord b y) : Calls Tryz.prog 19 #[.int .i64 c, .int .i64 b, .int .i64 x, .int .i64 y] w fun e w' => e = .returned (.tuple #[.bool (Wd.test c b x y), .bool true]) ∧ w = w' := by
  have hc : c = 0 ∨ c = 1 ∨ c = 2 ∨ c = 3 ∨ c = 4 ∨ c = 5 := by omega
  rcases hc with rfl | rfl | rfl | rfl | rfl | rfl
  all_goals
    go_enter Tryz.func19, Tryz.ntmps19
    go_wp2_with (first | (go_at_call 25; ((with_reducible refine (isWord_yes _ x _ hx).mono ?_); rintro e w' ⟨rfl, rfl⟩)) | (go_at_call 25; ((with_reducible refine (isWord_yes _ y _ hy).mono ?_); rintro e w' ⟨rfl, rfl⟩)) | (go_at_call 45; ((with_reducible refine (signed_any _ x _ hx).mono ?_); rintro e w' ⟨rfl, rfl⟩)) | (go_at_call 45; ((with_reducible refine (signed_any _ y _ hy).mono ?_); rintro e w' ⟨rfl, rfl⟩)))
    go_ret2
    exact ⟨rfl, rfl⟩
theorem testCmp_no1 (c b x y : Int) (w : World) (hx : ¬ Wd.IsWord b x) : Calls Tryz.prog 19 #[.int .i64 c, .int .i64 b, .int .i64 x, .int .i64 y] w fun e w' => e = .returned (.tuple #[.bool false, .bool false]) ∧ Below w.heap.size w w' := by
  go_enter Tryz.func19, Tryz.ntmps19
  go_wp2_with (go_at_call 25; refine (isWord_no _ x _ hx).mono ?_; rintro e w' ⟨rfl, hbel⟩)
  go_ret2
  exact ⟨rfl, hbel⟩
theorem testCmp_no2 (c b x y : Int) (w : World) (hx : Wd.IsWord b x) (hy : ¬ Wd.IsWord b y) : Calls Tryz.prog 19 #[.int .i64 c, .int .i64 b, .int .i64 x, .int .i64 y] w fun e w' => e = .returned (.tuple #[.bool false, .bool false]) ∧ Below w.heap.size w w' := by
  go_enter Tryz.func19, Tryz.ntmps19
  go_wp2_with fail
  refine (isWord_yes _ x _ hx).mono ?_
  rintro e w' ⟨rfl, rfl⟩
  go_wp2_with fail
  refine (isWord_no _ y _ hy).mono ?_
  rintro e w' ⟨rfl, hbel⟩
  go_wp2_with fail
  go_ret2
  exact ⟨rfl, hbel⟩
theorem testCmp_no3 (c b x y : Int) (w : World) (hc : ¬ (0 ≤ c ∧ c ≤ 5)) (hx : Wd.IsWord b x) (hy : Wd.IsWord b y) : Calls Tryz.prog 19 #[.int .i64 c, .int .i64 b, .int .i64 x, .int .i64 y] w fun e w' => e = .returned (.tuple #[.bool false, .bool false]) ∧ w = w' := by
  have n0 : (c == 0) = false := by simp; omega
  have n1 : (c == 1) = false := by simp; omega
  have n2 : (c == 2) = false := by simp; omega
  have n3 : (c == 3) = false := by simp; omega
  have n4 : (c == 4) = false := by simp; omega
  have n5 : (c == 5) = false := by simp; omega
  clear hc
  go_enter Tryz.func19, Tryz.ntmps19
  go_wp2_with (first | (go_at_call 25; ((with_reducible refine (isWord_yes _ x _ hx).mono ?_); rintro e w' ⟨rfl, rfl⟩)) | (go_at_call 25; ((with_reducible refine (isWord_yes _ y _ hy).mono ?_); rintro e w' ⟨rfl, rfl⟩)))
  go_ret2
  exact ⟨rfl, rfl⟩
theorem testCmp_no (c b x y : Int) (w : World) (h : ¬ (0 ≤ c ∧ c ≤ 5 ∧ Wd.IsWord b x ∧ Wd.IsWord b y)) : Calls Tryz.prog 19 #[.int .i64 c, .int .i64 b, .int .i64 x, .int .i64 y] w fun e w' => e = .returned (.tuple #[.bool false, .bool false]) ∧ Below w.heap.size w w' := by
  by_cases hx : Wd.IsWord b x
  · by_cases hy : Wd.IsWord b y
    · exact (testCmp_no3 c b x y w (fun hh => h ⟨hh.1, hh.2, hx, hy⟩) hx hy).mono fun e w' ⟨he, hw⟩ => ⟨he, hw ▸ Below.refl _ _⟩
    · exact testCmp_no2 c b x y w hx hy
  · exact testCmp_no1 c b x y w hx
end Go.Proofs.YtigodbilfjppbaaGreatDoor.Wds
