/-
  What the scalar functions of chapter 1 return and do to memory, over the translated program: one contract each (the code's own and the model's).
-/
import Derived.Test.YteggioppoldaaaaWords
import Derived.Test.YteggioppoldaaaaBits
namespace Go.Proofs.Yteggioppoldaaaa.Wds
open Go.RowKit

theorem ret_word {k : IntKind} {a b : Int} {c : Bool} (h : a = b) : Ending.returned (.tuple #[.int k a, .bool c]) = .returned (.tuple #[.int k b, .bool c]) := by rw [h]
theorem ret_two {a b c : Bool} (h : a = b) : Ending.returned (.tuple #[.bool a, .bool c]) = .returned (.tuple #[.bool b, .bool c]) := by rw [h]
theorem pw_bd {b : Int} (h : Wd.IsBits b) : 16 ≤ Wd.pw b ∧ Wd.pw b ≤ 65536 ∧ Wd.pw b = 2 * Wd.hf b ∧ 4 ≤ b ∧ b ≤ 16 := by
  rcases Wd.bits_cases h with ⟨h0, h1, h2⟩ | ⟨h0, h1, h2⟩ | ⟨h0, h1, h2⟩ <;> omega

theorem signed_any (b x : Int) (w : World) (h : Wd.IsWord b x) : Calls Try.prog 44 #[.int .i64 b, .int .i64 x] w fun e w' => e = .returned (.int .i64 (Wd.sg b x)) ∧ w = w' := by
  obtain ⟨hb, h0, h1⟩ := h
  rcases hb with rfl | rfl | rfl
  · have h1' : x < 16 := h1
    by_cases hh : x < 8
    all_goals
      go_enter Try.func44, Try.ntmps44
      go_wp2
      go_ret
      exact ⟨ret_int (by simp only [Wd.sg, Wd.hf, Wd.pw]; simp; omega), rfl⟩
  · have h1' : x < 256 := h1
    by_cases hh : x < 128
    all_goals
      go_enter Try.func44, Try.ntmps44
      go_wp2
      go_ret
      exact ⟨ret_int (by simp only [Wd.sg, Wd.hf, Wd.pw]; simp; omega), rfl⟩
  · have h1' : x < 65536 := h1
    by_cases hh : x < 32768
    all_goals
      go_enter Try.func44, Try.ntmps44
      go_wp2
      go_ret
      exact ⟨ret_int (by simp only [Wd.sg, Wd.hf, Wd.pw]; simp; omega), rfl⟩
theorem wrap_any (b n : Int) (w : World) (hb : Wd.IsBits b) : Calls Try.prog 43 #[.int .i64 b, .int .i64 n] w fun e w' => e = .returned (.int .i64 (Wd.wr b n)) ∧ w = w' := by
  have hp1 := (pw_bd hb).1
  have hp2 := (pw_bd hb).2.1
  go_enter Try.func43, Try.ntmps43
  go_wp2_with (go_at_call 52; refine (greatest_any _ _ hb).mono ?_; rintro e w' ⟨rfl, rfl⟩)
  go_ret
  exact ⟨ret_int (Bts.i64_wr b n hb), rfl⟩
theorem comm_false {op : Int} (h : ¬ (0 ≤ op ∧ op ≤ 17)) : Wd.comm op = false := by simp only [Wd.comm]; rw [decide_eq_false h]; rfl
end Go.Proofs.Yteggioppoldaaaa.Wds
