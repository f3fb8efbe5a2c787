/-
  What the scalar functions of chapter 1 return and do to memory, over the translated program: one contract each (the code's own and the model's).
-/
import Derived.Test.YtdddhcpdcieacaaWords
import Derived.Test.YtdddhcpdcieacaaBits
namespace Go.Proofs.Ytdddhcpdcieacaa.Wds
open Go.RowKit

theorem ret_word {k : IntKind} {a b : Int} {c : Bool} (h : a = b) : Ending.returned (.tuple #[.int k a, .bool c]) = .returned (.tuple #[.int k b, .bool c]) := by rw [h]
theorem ret_two {a b c : Bool} (h : a = b) : Ending.returned (.tuple #[.bool a, .bool c]) = .returned (.tuple #[.bool b, .bool c]) := by rw [h]
theorem pw_bd {b : Int} (h : Wd.IsBits b) : 16 ≤ Wd.pw b ∧ Wd.pw b ≤ 65536 ∧ Wd.pw b = 2 * Wd.hf b ∧ 4 ≤ b ∧ b ≤ 16 := by
  rcases Wd.bits_cases h with ⟨h0, h1, h2⟩ | ⟨h0, h1, h2⟩ | ⟨h0, h1, h2⟩ <;> omega

theorem signed_any (b x : Int) (w : World) (h : Wd.IsWord b x) : Calls Try.prog 46 #[.int .i64 b, .int .i64 x] w fun e w' => e = .returned (.int .i64 (Wd.sg b x)) ∧ w = w' := by
  obtain ⟨hb, h0, h1⟩ := h
  rcases hb with rfl | rfl | rfl
  · have h1' : x < 16 := h1
    by_cases hh : x < 8
    all_goals
      go_enter Try.func46, Try.ntmps46
      go_wp2
      go_ret
      exact ⟨ret_int (by simp only [Wd.sg, Wd.hf, Wd.pw]; simp; omega), rfl⟩
  · have h1' : x < 256 := h1
    by_cases hh : x < 128
    all_goals
      go_enter Try.func46, Try.ntmps46
      go_wp2
      go_ret
      exact ⟨ret_int (by simp only [Wd.sg, Wd.hf, Wd.pw]; simp; omega), rfl⟩
  · have h1' : x < 65536 := h1
    by_cases hh : x < 32768
    all_goals
      go_enter Try.func46, Try.ntmps46
      go_wp2
      go_ret
      exact ⟨ret_int (by simp only [Wd.sg, Wd.hf, Wd.pw]; simp; omega), rfl⟩
theorem comm_false {op : Int} (h : ¬ (0 ≤ op ∧ op ≤ 17)) : Wd.comm op = false := by simp only [Wd.comm]; rw [decide_eq_false h]; rfl
theorem testCmp_yes (c b x y : Int) (w : World) (h0 : 0 ≤ c) (h1 : c ≤ 5) (hx : Wd.IsWord b x) (hy : Wd.IsWord b y) : Calls Try.prog 32 #[.int .i64 c, .int .i64 b, .int .i64 x, .int .i64 y] w fun e w' => e = .returned (.tuple #[.bool (Wd.test c b x y), .bool true]) ∧ w = w' := by
  have hc : c = 0 ∨ c = 1 ∨ c = 2 ∨ c = 3 ∨ c = 4 ∨ c = 5 := by omega
  rcases hc with rfl | rfl | rfl | rfl | rfl | rfl
  all_goals
    go_enter Try.func32, Try.ntmps32
    go_wp2_with (first | (go_at_call 44; ((with_reducible refine (isWord_yes _ x _ hx).mono ?_); rintro e w' ⟨rfl, rfl⟩)) | (go_at_call 44; ((with_reducible refine (isWord_yes _ y _ hy).mono ?_); rintro e w' ⟨rfl, rfl⟩)) | (go_at_call 46; ((with_reducible refine (signed_any _ x _ hx).mono ?_); rintro e w' ⟨rfl, rfl⟩)) | (go_at_call 46; ((with_reducible refine (signed_any _ y _ hy).mono ?_); rintro e w' ⟨rfl, rfl⟩)))
    go_ret2
    exact ⟨rfl, rfl⟩
theorem testCmp_no1 (c b x y : Int) (w : World) (hx : ¬ Wd.IsWord b x) : Calls Try.prog 32 #[.int .i64 c, .int .i64 b, .int .i64 x, .int .i64 y] w fun e w' => e = .returned (.tuple #[.bool false, .bool false]) ∧ Below w.heap.size w w' := by
  go_enter Try.func32, Try.ntmps32
  go_wp2_with (go_at_call 44; refine (isWord_no _ x _ hx).mono ?_; rintro e w' ⟨rfl, hbel⟩)
  go_ret2
  exact ⟨rfl, hbel⟩
theorem testCmp_no2 (c b x y : Int) (w : World) (hx : Wd.IsWord b x) (hy : ¬ Wd.IsWord b y) : Calls Try.prog 32 #[.int .i64 c, .int .i64 b, .int .i64 x, .int .i64 y] w fun e w' => e = .returned (.tuple #[.bool false, .bool false]) ∧ Below w.heap.size w w' := by
  go_enter Try.func32, Try.ntmps32
  go_wp2_with fail
  refine (isWord_yes _ x _ hx).mono ?_
  rintro e w' ⟨rfl, rfl⟩
  go_wp2_with fail
  refine (isWord_no _ y _ hy).mono ?_
  rintro e w' ⟨rfl, hbel⟩
  go_wp2_with fail
  go_ret2
  exact ⟨rfl, hbel⟩
theorem testCmp_no3 (c b x y : Int) (w : World) (hc : ¬ (0 ≤ c ∧ c ≤ 5)) (hx : Wd.IsWord b x) (hy : Wd.IsWord b y) : Calls Try.prog 32 #[.int .i64 c, .int .i64 b, .int .i64 x, .int .i64 y] w fun e w' => e = .returned (.tuple #[.bool false, .bool false]) ∧ w = w' := by
  have n0 : (c == 0) = false := by simp; omega
  have n1 : (c == 1) = false := by simp; omega
  have n2 : (c == 2) = false := by simp; omega
  have n3 : (c == 3) = false := by simp; omega
  have n4 : (c == 4) = false := by simp; omega
  have n5 : (c == 5) = false := by simp; omega
  clear hc
  go_enter Try.func32, Try.ntmps32
  go_wp2_with (first | (go_at_call 44; ((with_reducible refine (isWord_yes _ x _ hx).mono ?_); rintro e w' ⟨rfl, rfl⟩)) | (go_at_call 44; ((with_reducible refine (isWord_yes _ y _ hy).mono ?_); rintro e w' ⟨rfl, rfl⟩)))
  go_ret2
  exact ⟨rfl, rfl⟩
theorem testCmp_no (c b x y : Int) (w : World) (h : ¬ (0 ≤ c ∧ c ≤ 5 ∧ Wd.IsWord b x ∧ Wd.IsWord b y)) : Calls Try.prog 32 #[.int .i64 c, .int .i64 b, .int .i64 x, .int .i64 y] w fun e w' => e = .returned (.tuple #[.bool false, .bool false]) ∧ Below w.heap.size w w' := by
  by_cases hx : Wd.IsWord b x
  · by_cases hy : Wd.IsWord b y
    · exact (testCmp_no3 c b x y w (fun hh => h ⟨hh.1, hh.2, hx, hy⟩) hx hy).mono fun e w' ⟨he, hw⟩ => ⟨he, hw ▸ Below.refl _ _⟩
    · exact testCmp_no2 c b x y w hx hy
  · exact testCmp_no1 c b x y w hx
end Go.Proofs.Ytdddhcpdcieacaa.Wds
