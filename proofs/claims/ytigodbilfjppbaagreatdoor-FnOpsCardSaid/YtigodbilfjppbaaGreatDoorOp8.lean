/-
  What the methods of the words held in a uint8 return and do to memory, over the translated program: one contract each.
-/
import Derived.Test.YtigodbilfjppbaaGreatDoorSat
import Derived.Test.YtigodbilfjppbaaGreatDoorOpMath
import Derived.RegionTactic
import Derived.Deep.RegionHeld3
import Derived.Laws.ShiftsVar
import Derived.Laws.EntriesVeiled
namespace Go.Proofs.YtigodbilfjppbaaGreatDoor.Op8
open Go.RowKit Go.Proofs.YtigodbilfjppbaaGreatDoor.Err Go.Proofs.YtigodbilfjppbaaGreatDoor.Wds

theorem okBits {b : Int} (h : (b = 4 ∨ b = 8)) : Wd.IsBits b := by unfold Wd.IsBits; omega
theorem okBd {b : Int} (h : (b = 4 ∨ b = 8)) : 16 ≤ Wd.pw b ∧ Wd.pw b ≤ 256 ∧ Wd.pw b = 2 * Wd.hf b ∧ 4 ≤ b ∧ b ≤ 8 := by
  rcases Wd.bits_cases (okBits h) with ⟨h0, h1, h2⟩ | ⟨h0, h1, h2⟩ | ⟨h0, h1, h2⟩ <;> omega
theorem half_any (b : Int) (w : World) (h : (b = 4 ∨ b = 8)) : Calls Tryz.prog 103 #[.int .i64 b] w fun e w' => e = .returned (.int .i64 (Wd.hf b)) ∧ w = w' := by
  rcases h with rfl | rfl
  all_goals
    go_enter Tryz.func103, Tryz.ntmps103
    go_wp2
    go_ret
    exact ⟨rfl, rfl⟩
theorem cut_any (b x : Int) (w : World) (h : (b = 4 ∨ b = 8)) (h0 : 0 ≤ x) (h1 : x < 256) : Calls Tryz.prog 80 #[.agg #[.int .i64 b], .int .u8 x] w fun e w' => e = .returned (.int .u8 (x % Wd.pw b)) ∧ w.alloc (.cells #[.int .i64 b] 60) = w' := by
  have p1 := (okBd h).1
  have p2 := (okBd h).2.1
  go_enter Tryz.func80, Tryz.ntmps80
  go_wp2_with (go_at_call 49; refine (greatest_any _ _ (okBits h)).mono ?_; rintro e w' ⟨rfl, rfl⟩)
  go_ret
  exact ⟨ret_int (Opm.and_cut8 b x h h0 h1), rfl⟩
theorem flip_any (b x : Int) (w : World) (h : (b = 4 ∨ b = 8)) (h0 : 0 ≤ x) (h1 : x < Wd.pw b) : Calls Tryz.prog 89 #[.agg #[.int .i64 b], .int .u8 x] w fun e w' => e = .returned (.int .u8 (Opm.fl b x)) ∧ w.alloc (.cells #[.int .i64 b] 60) = w' := by
  have p1 := (okBd h).1
  have p2 := (okBd h).2.1
  have q1 : 8 ≤ Wd.hf b := by have := okBd h; omega
  have q2 : Wd.hf b < 256 := by have := okBd h; omega
  go_enter Tryz.func89, Tryz.ntmps89
  go_wp2_with (go_at_call 103; refine (half_any _ _ h).mono ?_; rintro e w' ⟨rfl, rfl⟩)
  go_ret
  exact ⟨ret_int (Opm.xor_flip8 b x h h0 h1), rfl⟩
theorem msigned_any (b x : Int) (w : World) (h : (b = 4 ∨ b = 8)) (h0 : 0 ≤ x) (h1 : x < Wd.pw b) : Calls Tryz.prog 95 #[.agg #[.int .i64 b], .int .u8 x] w fun e w' => e = .returned (.int .i64 (Wd.sg b x)) ∧ w.alloc (.cells #[.int .i64 b] 60) = w' := by
  have p2 : x < 256 := by have := (okBd h).2.1; omega
  go_enter Tryz.func95, Tryz.ntmps95
  go_wp2_with (go_at_call 45; refine (signed_any _ _ _ ⟨okBits h, h0, h1⟩).mono ?_; rintro e w' ⟨rfl, rfl⟩)
  go_ret
  exact ⟨rfl, rfl⟩
theorem shift_any (b x : Int) (w : World) (h : (b = 4 ∨ b = 8)) (h0 : 0 ≤ x) (h1 : x < 256) : Calls Tryz.prog 100 #[.agg #[.int .i64 b], .int .u8 x] w fun e w' => e = .returned (.int .i64 (x % b)) ∧ w.alloc (.cells #[.int .i64 b] 60) = w' := by
  have p3 : 4 ≤ b := (okBd h).2.2.2.1
  have p4 : b ≤ 8 := (okBd h).2.2.2.2
  go_enter Tryz.func100, Tryz.ntmps100
  go_wp2
  go_ret
  exact ⟨rfl, rfl⟩
theorem saturateU_any (b n : Int) (w : World) (h : (b = 4 ∨ b = 8)) (hg : ErrT w) : Calls Tryz.prog 92 #[.agg #[.int .i64 b], .int .i64 n] w fun e w' => e = .returned (.int .u8 (near 0 (Wd.pw b - 1) n)) ∧ Below w.heap.size w w' := by
  have p1 := (okBd h).1
  have p2 := (okBd h).2.1
  have n1 : 0 ≤ near 0 (Wd.pw b - 1) n := by unfold near; split <;> (try split) <;> omega
  have n2 : near 0 (Wd.pw b - 1) n < 256 := by unfold near; split <;> (try split) <;> omega
  have HG := Lib.hid (hg.below ((Below.refl w.heap.size w).alloc (Nat.le_refl _) (.cells #[.int .i64 b] 60)) hg.lt); clear hg
  obtain ⟨r, hr⟩ : ∃ r, r = near 0 (Wd.pw b - 1) n := ⟨_, rfl⟩
  have c1 := sat_any n 0 (Wd.pw b - 1) _ HG.out
  rw [← hr] at c1 n1 n2 ⊢
  have C1 := Lib.hid c1; clear c1 hr
  go_enter Tryz.func92, Tryz.ntmps92
  go_wp2_with (first | (go_at_call 49; refine (greatest_any _ _ (okBits h)).mono ?_; rintro e w' ⟨rfl, rfl⟩) | (go_at_call 106; refine C1.out.mono ?_; rintro e w' ⟨rfl, hbel⟩))
  go_ret
  exact ⟨rfl, ((Below.refl w.heap.size w).alloc (Nat.le_refl _) _).trans (hbel.mono (by simp))⟩
theorem saturateS_any (b n : Int) (w : World) (h : (b = 4 ∨ b = 8)) (hg : ErrT w) : Calls Tryz.prog 94 #[.agg #[.int .i64 b], .int .i64 n] w fun e w' => e = .returned (.int .u8 (Wd.wr b (near (- Wd.hf b) (Wd.hf b - 1) n))) ∧ Below w.heap.size w w' := by
  have p1 : 8 ≤ Wd.hf b := by have := okBd h; omega
  have p2 : Wd.hf b ≤ 32768 := by have := okBd h; omega
  have HG := Lib.hid (hg.below ((Below.refl w.heap.size w).alloc (Nat.le_refl _) (.cells #[.int .i64 b] 60)) hg.lt); clear hg
  have e1 : IntKind.i64.wrap (- Wd.hf b) = - Wd.hf b := IntWalk.i64_in _ (by omega)
  have e2 : IntKind.i64.wrap (Wd.hf b - 1) = Wd.hf b - 1 := IntWalk.i64_in _ (by omega)
  have e3 := Opm.wrap_u8 (near (- Wd.hf b) (Wd.hf b - 1) n)
  go_enter Tryz.func94, Tryz.ntmps94
  go_wp2
  go_region_held3 (fun w' => w'.cell? ⟨w.heap.size, 0, none⟩ = some (.int .i64 b)) (first | go_keep | (exact (hbel.cell (by simp)).trans (by simp)))
    (first | (go_at_call 103; refine (half_any _ _ h).mono ?_; rintro e w' ⟨rfl, rfl⟩) | (go_at_call 106; refine (sat_any _ _ _ _ ?_).mono ?_; (exact HG.out); rintro e w' ⟨rfl, hbel⟩) | (go_at_call 80; refine (cut_any _ _ _ h ?_ ?_).mono ?_; omega; omega; rintro e w' ⟨rfl, rfl⟩))
  go_wp2
  go_ret
  refine ⟨ret_int (Opm.mod_u8 b _ h), ?_⟩
  have hb2 : Below w.heap.size (w.alloc (.cells #[.int .i64 b] 60)) w' := below_of_drew (show Below w.heap.size (w.alloc (.cells #[.int .i64 b] 60)).drew w' from hbel.mono (by simp))
  exact (((Below.refl w.heap.size w).alloc (Nat.le_refl _) _).trans hb2).alloc (by have := hb2.size; simp at this; omega) _
end Go.Proofs.YtigodbilfjppbaaGreatDoor.Op8
