/-
  What the scalar functions of the reference model of chapter 1 return, over the translated program: one contract each. They change nothing.
-/
import Derived.Test.YteggioppoldaaaaGreatDoorScal
namespace Go.Proofs.YteggioppoldaaaaGreatDoor.Wds
open Go.RowKit

theorem in_any (n lo hi : Int) (w : World) : Calls Tryz.prog 115 #[.int .i64 n, .int .i64 lo, .int .i64 hi] w fun e w' => e = .returned (.bool (decide (lo ≤ n ∧ n ≤ hi))) ∧ w = w' := by
  by_cases h0 : lo ≤ n
  · by_cases h1 : n ≤ hi
    · rw [decide_eq_true (⟨h0, h1⟩ : lo ≤ n ∧ n ≤ hi)]
      go_enter Tryz.func115, Tryz.ntmps115
      go_wp2
      go_ret
      exact ⟨rfl, rfl⟩
    · rw [decide_eq_false (fun hh : lo ≤ n ∧ n ≤ hi => h1 hh.2)]
      go_enter Tryz.func115, Tryz.ntmps115
      go_wp2
      go_ret
      exact ⟨rfl, rfl⟩
  · rw [decide_eq_false (fun hh : lo ≤ n ∧ n ≤ hi => h0 hh.1)]
    go_enter Tryz.func115, Tryz.ntmps115
    go_wp2
    go_ret
    exact ⟨rfl, rfl⟩
theorem in_yes (n lo hi : Int) (w : World) (h : lo ≤ n ∧ n ≤ hi) : Calls Tryz.prog 115 #[.int .i64 n, .int .i64 lo, .int .i64 hi] w fun e w' => e = .returned (.bool true) ∧ w = w' := by
  have := in_any n lo hi w; rwa [decide_eq_true h] at this
theorem in_no (n lo hi : Int) (w : World) (h : ¬ (lo ≤ n ∧ n ≤ hi)) : Calls Tryz.prog 115 #[.int .i64 n, .int .i64 lo, .int .i64 hi] w fun e w' => e = .returned (.bool false) ∧ w = w' := by
  have := in_any n lo hi w; rwa [decide_eq_false h] at this
theorem sbits_any (b : Int) (w : World) : Calls Tryz.prog 133 #[.int .i64 b] w fun e w' => e = .returned (.bool (decide (Wd.IsBits b))) ∧ w = w' := by
  rw [Wd.isBits_bool]
  go_enter Tryz.func133, Tryz.ntmps133
  go_wp2
  all_goals
    go_ret
    exact ⟨ret_bool (by simp_all), rfl⟩
theorem sword_any (b x : Int) (w : World) : Calls Tryz.prog 132 #[.int .i64 b, .int .i64 x] w fun e w' => e = .returned (.bool (decide (Wd.IsWord b x))) ∧ w = w' := by
  by_cases hb : Wd.IsBits b
  · have hd : decide (Wd.IsBits b) = true := decide_eq_true hb
    have key : ∀ p : Int, Wd.pw b = p → decide (Wd.IsWord b x) = decide (0 ≤ x ∧ x ≤ p - 1) := by
      intro p hp
      by_cases hx : 0 ≤ x ∧ x ≤ p - 1
      · have hw : Wd.IsWord b x := ⟨hb, by omega⟩
        rw [decide_eq_true hx, decide_eq_true hw]
      · have hw : ¬ Wd.IsWord b x := fun hh => hx (by have := hh.2; omega)
        rw [decide_eq_false hx, decide_eq_false hw]
    rcases hb with rfl | rfl | rfl
    · rw [key 16 rfl]; clear key
      go_enter Tryz.func132, Tryz.ntmps132
      go_wp2_with (first | (go_at_call 133; refine (sbits_any _ _).mono ?_; rintro e w' ⟨rfl, rfl⟩) | (go_at_call 115; refine (in_any _ _ _ _).mono ?_; rintro e w' ⟨rfl, rfl⟩))
      go_ret
      exact ⟨ret_bool (by simp), rfl⟩
    · rw [key 256 rfl]; clear key
      go_enter Tryz.func132, Tryz.ntmps132
      go_wp2_with (first | (go_at_call 133; refine (sbits_any _ _).mono ?_; rintro e w' ⟨rfl, rfl⟩) | (go_at_call 115; refine (in_any _ _ _ _).mono ?_; rintro e w' ⟨rfl, rfl⟩))
      go_ret
      exact ⟨ret_bool (by simp), rfl⟩
    · rw [key 65536 rfl]; clear key
      go_enter Tryz.func132, Tryz.ntmps132
      go_wp2_with (first | (go_at_call 133; refine (sbits_any _ _).mono ?_; rintro e w' ⟨rfl, rfl⟩) | (go_at_call 115; refine (in_any _ _ _ _).mono ?_; rintro e w' ⟨rfl, rfl⟩))
      go_ret
      exact ⟨ret_bool (by simp), rfl⟩
  · have hd : decide (Wd.IsBits b) = false := decide_eq_false hb
    have hw : ¬ Wd.IsWord b x := fun hh => hb hh.1
    rw [decide_eq_false hw]; clear hw
    go_enter Tryz.func132, Tryz.ntmps132
    go_wp2_with (go_at_call 133; refine (sbits_any _ _).mono ?_; rintro e w' ⟨rfl, rfl⟩)
    go_ret
    exact ⟨rfl, rfl⟩
theorem sword_yes (b x : Int) (w : World) (h : Wd.IsWord b x) : Calls Tryz.prog 132 #[.int .i64 b, .int .i64 x] w fun e w' => e = .returned (.bool true) ∧ w = w' := by
  have := sword_any b x w; rwa [decide_eq_true h] at this
theorem sword_no (b x : Int) (w : World) (h : ¬ Wd.IsWord b x) : Calls Tryz.prog 132 #[.int .i64 b, .int .i64 x] w fun e w' => e = .returned (.bool false) ∧ w = w' := by
  have := sword_any b x w; rwa [decide_eq_false h] at this
theorem ssigned_any (b x : Int) (w : World) (h : Wd.IsWord b x) : Calls Tryz.prog 120 #[.int .i64 b, .int .i64 x] w fun e w' => e = .returned (.int .i64 (Wd.sg b x)) ∧ w = w' := by
  obtain ⟨hb, h0, h1⟩ := h
  rcases hb with rfl | rfl | rfl
  · have h1' : x < 16 := h1
    by_cases hh : x < 8
    · have e : (x / 8 == 1) = false := by simp; omega
      go_enter Tryz.func120, Tryz.ntmps120
      go_wp2
      go_ret
      exact ⟨ret_int (by simp only [Wd.sg, Wd.hf, Wd.pw]; simp; omega), rfl⟩
    · have e : (x / 8 == 1) = true := by simp; omega
      go_enter Tryz.func120, Tryz.ntmps120
      go_wp2
      go_ret
      exact ⟨ret_int (by simp only [Wd.sg, Wd.hf, Wd.pw]; simp; omega), rfl⟩
  · have h1' : x < 256 := h1
    by_cases hh : x < 128
    · have e : (x / 128 == 1) = false := by simp; omega
      go_enter Tryz.func120, Tryz.ntmps120
      go_wp2
      go_ret
      exact ⟨ret_int (by simp only [Wd.sg, Wd.hf, Wd.pw]; simp; omega), rfl⟩
    · have e : (x / 128 == 1) = true := by simp; omega
      go_enter Tryz.func120, Tryz.ntmps120
      go_wp2
      go_ret
      exact ⟨ret_int (by simp only [Wd.sg, Wd.hf, Wd.pw]; simp; omega), rfl⟩
  · have h1' : x < 65536 := h1
    by_cases hh : x < 32768
    · have e : (x / 32768 == 1) = false := by simp; omega
      go_enter Tryz.func120, Tryz.ntmps120
      go_wp2
      go_ret
      exact ⟨ret_int (by simp only [Wd.sg, Wd.hf, Wd.pw]; simp; omega), rfl⟩
    · have e : (x / 32768 == 1) = true := by simp; omega
      go_enter Tryz.func120, Tryz.ntmps120
      go_wp2
      go_ret
      exact ⟨ret_int (by simp only [Wd.sg, Wd.hf, Wd.pw]; simp; omega), rfl⟩
theorem swrap_any (b n : Int) (w : World) (hb : Wd.IsBits b) : Calls Tryz.prog 121 #[.int .i64 b, .int .i64 n] w fun e w' => e = .returned (.int .i64 (Wd.wr b n)) ∧ w = w' := by
  rcases hb with rfl | rfl | rfl
  · go_enter Tryz.func121, Tryz.ntmps121
    go_wp2
    go_ret
    exact ⟨ret_int (Bts.i64_and15 n), rfl⟩
  · go_enter Tryz.func121, Tryz.ntmps121
    go_wp2
    go_ret
    exact ⟨ret_int (Bts.i64_and255 n), rfl⟩
  · go_enter Tryz.func121, Tryz.ntmps121
    go_wp2
    go_ret
    exact ⟨ret_int (Bts.i64_and65535 n), rfl⟩
theorem sop_yes (op : Int) (w : World) (h : 0 ≤ op ∧ op ≤ 17) : Calls Tryz.prog 46 #[.int .i64 op] w fun e w' => e = .returned (.bool true) ∧ w = w' := by
  go_enter Tryz.func46, Tryz.ntmps46
  go_wp2_with (go_at_call 115; refine (in_yes _ _ _ _ h).mono ?_; rintro e w' ⟨rfl, rfl⟩)
  go_ret
  exact ⟨rfl, rfl⟩
theorem sop_no (op : Int) (w : World) (h : ¬ (0 ≤ op ∧ op ≤ 17)) : Calls Tryz.prog 46 #[.int .i64 op] w fun e w' => e = .returned (.bool false) ∧ w = w' := by
  go_enter Tryz.func46, Tryz.ntmps46
  go_wp2_with (go_at_call 115; refine (in_no _ _ _ _ h).mono ?_; rintro e w' ⟨rfl, rfl⟩)
  go_ret
  exact ⟨rfl, rfl⟩
end Go.Proofs.YteggioppoldaaaaGreatDoor.Wds
