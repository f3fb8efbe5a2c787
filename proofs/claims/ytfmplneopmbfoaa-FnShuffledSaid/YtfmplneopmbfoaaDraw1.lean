/-
  What the model's draws of words, of bits and of a byte's number return and do to memory, over the translated program.
-/
import Derived.Test.YtfmplneopmbfoaaDraw
import Derived.Test.YtfmplneopmbfoaaMath
import Derived.OwnWalk
import Derived.Laws.AppendOwn
namespace Go.Proofs.Ytfmplneopmbfoaa.Wds
open Go.RowKit
set_option linter.unusedVariables false

theorem A_info2 : (Try.prog.info? 2).map (fun i => (i.zero, i.size, i.bytes)) = some (some (.int .i64 0), 1, 8) := by kernel_rfl

theorem good4 (w : World) (sb N : Nat) (a : Option Addr) (len cap : Nat) (zs : List Int) (h : Src w sb N a len cap zs) (hN : N < 800000000) :
    Calls Try.prog 76 #[.pointer (some ⟨sb, 0, none⟩), .int .i64 4] w fun e w' => ∃ z : Int, e = .returned (.int .i64 z) ∧ 0 ≤ z ∧ z < 16 ∧ After w sb (N + 4) a len cap zs w' := by
  have HH := Lib.hid h; clear h
  go_enter Try.func76, Try.ntmps76
  go_wp2_with fail
  refine (one_any _ _ sb N a len cap zs HH.out (by omega)).mono ?_
  rintro e w' ⟨c, rfl, hA⟩
  have HA := Lib.hid hA; clear hA
  cases c
  · go_wp2_with fail
    refine (pick_any _ _ sb (N + 2) a len cap zs HA.out.1 (by omega)).mono ?_
    rintro e w'' ⟨z, rfl, z0, z1, hA'⟩
    have HA' := Lib.hid hA'; clear hA'
    go_wp2_with fail
    go_ret
    exact ⟨z, rfl, z0, z1 (by decide), HA'.out.1, grown_trans HA.out.2 HA'.out.2⟩
  · go_wp2_with fail
    refine (among_any [0, 15, 8, 7, 1] w'.heap.size 5 5 _ sb (N + 2) a len cap zs (HA.out.1.grown (World.grownBy_alloc _ _ none) (by simp) (by intro r hr; cases hr)) (by omega) rfl (by decide) (by decide) (fun i hi => by
      rcases (show i = 0 ∨ i = 1 ∨ i = 2 ∨ i = 3 ∨ i = 4 from by omega) with rfl | rfl | rfl | rfl | rfl <;> simp) (by obtain ⟨_, _, _, hb, _⟩ := HA.out.1; have := lt_of_block hb; omega)).mono ?_
    rintro e w'' ⟨z, hz, rfl, hA'⟩
    have HA' := Lib.hid hA'; clear hA'
    have z0 : 0 ≤ z ∧ z < 16 := by simp at hz; omega
    have HZ := Lib.hid z0; clear z0 hz
    go_wp2_with fail
    go_ret
    exact ⟨z, rfl, HZ.out.1, HZ.out.2, HA'.out.1, grown_trans HA.out.2 (grown_trans (World.grownBy_alloc _ _ _) HA'.out.2)⟩
theorem good8 (w : World) (sb N : Nat) (a : Option Addr) (len cap : Nat) (zs : List Int) (h : Src w sb N a len cap zs) (hN : N < 800000000) :
    Calls Try.prog 76 #[.pointer (some ⟨sb, 0, none⟩), .int .i64 8] w fun e w' => ∃ z : Int, e = .returned (.int .i64 z) ∧ 0 ≤ z ∧ z < 256 ∧ After w sb (N + 4) a len cap zs w' := by
  have HH := Lib.hid h; clear h
  go_enter Try.func76, Try.ntmps76
  go_wp2_with fail
  refine (one_any _ _ sb N a len cap zs HH.out (by omega)).mono ?_
  rintro e w' ⟨c, rfl, hA⟩
  have HA := Lib.hid hA; clear hA
  cases c
  · go_wp2_with fail
    refine (pick_any _ _ sb (N + 2) a len cap zs HA.out.1 (by omega)).mono ?_
    rintro e w'' ⟨z, rfl, z0, z1, hA'⟩
    have HA' := Lib.hid hA'; clear hA'
    go_wp2_with fail
    go_ret
    exact ⟨z, rfl, z0, z1 (by decide), HA'.out.1, grown_trans HA.out.2 HA'.out.2⟩
  · go_wp2_with fail
    refine (among_any [0, 255, 128, 127, 1] w'.heap.size 5 5 _ sb (N + 2) a len cap zs (HA.out.1.grown (World.grownBy_alloc _ _ none) (by simp) (by intro r hr; cases hr)) (by omega) rfl (by decide) (by decide) (fun i hi => by
      rcases (show i = 0 ∨ i = 1 ∨ i = 2 ∨ i = 3 ∨ i = 4 from by omega) with rfl | rfl | rfl | rfl | rfl <;> simp) (by obtain ⟨_, _, _, hb, _⟩ := HA.out.1; have := lt_of_block hb; omega)).mono ?_
    rintro e w'' ⟨z, hz, rfl, hA'⟩
    have HA' := Lib.hid hA'; clear hA'
    have z0 : 0 ≤ z ∧ z < 256 := by simp at hz; omega
    have HZ := Lib.hid z0; clear z0 hz
    go_wp2_with fail
    go_ret
    exact ⟨z, rfl, HZ.out.1, HZ.out.2, HA'.out.1, grown_trans HA.out.2 (grown_trans (World.grownBy_alloc _ _ _) HA'.out.2)⟩
theorem good16 (w : World) (sb N : Nat) (a : Option Addr) (len cap : Nat) (zs : List Int) (h : Src w sb N a len cap zs) (hN : N < 800000000) :
    Calls Try.prog 76 #[.pointer (some ⟨sb, 0, none⟩), .int .i64 16] w fun e w' => ∃ z : Int, e = .returned (.int .i64 z) ∧ 0 ≤ z ∧ z < 65536 ∧ After w sb (N + 4) a len cap zs w' := by
  have HH := Lib.hid h; clear h
  go_enter Try.func76, Try.ntmps76
  go_wp2_with fail
  refine (one_any _ _ sb N a len cap zs HH.out (by omega)).mono ?_
  rintro e w' ⟨c, rfl, hA⟩
  have HA := Lib.hid hA; clear hA
  cases c
  · go_wp2_with fail
    refine (pick_any _ _ sb (N + 2) a len cap zs HA.out.1 (by omega)).mono ?_
    rintro e w'' ⟨z, rfl, z0, z1, hA'⟩
    have HA' := Lib.hid hA'; clear hA'
    go_wp2_with fail
    go_ret
    exact ⟨z, rfl, z0, z1 (by decide), HA'.out.1, grown_trans HA.out.2 HA'.out.2⟩
  · go_wp2_with fail
    refine (among_any [0, 65535, 32768, 32767, 1] w'.heap.size 5 5 _ sb (N + 2) a len cap zs (HA.out.1.grown (World.grownBy_alloc _ _ none) (by simp) (by intro r hr; cases hr)) (by omega) rfl (by decide) (by decide) (fun i hi => by
      rcases (show i = 0 ∨ i = 1 ∨ i = 2 ∨ i = 3 ∨ i = 4 from by omega) with rfl | rfl | rfl | rfl | rfl <;> simp) (by obtain ⟨_, _, _, hb, _⟩ := HA.out.1; have := lt_of_block hb; omega)).mono ?_
    rintro e w'' ⟨z, hz, rfl, hA'⟩
    have HA' := Lib.hid hA'; clear hA'
    have z0 : 0 ≤ z ∧ z < 65536 := by simp at hz; omega
    have HZ := Lib.hid z0; clear z0 hz
    go_wp2_with fail
    go_ret
    exact ⟨z, rfl, HZ.out.1, HZ.out.2, HA'.out.1, grown_trans HA.out.2 (grown_trans (World.grownBy_alloc _ _ _) HA'.out.2)⟩
theorem good_any (b : Int) (w : World) (sb N : Nat) (a : Option Addr) (len cap : Nat) (zs : List Int) (hb : Wd.IsBits b) (h : Src w sb N a len cap zs) (hN : N < 800000000) :
    Calls Try.prog 76 #[.pointer (some ⟨sb, 0, none⟩), .int .i64 b] w fun e w' => ∃ z : Int, e = .returned (.int .i64 z) ∧ 0 ≤ z ∧ z < Wd.pw b ∧ After w sb (N + 4) a len cap zs w' := by
  rcases hb with rfl | rfl | rfl
  · exact good4 w sb N a len cap zs h hN
  · exact good8 w sb N a len cap zs h hN
  · exact good16 w sb N a len cap zs h hN
theorem from_any (a : Option Addr) (len cap : Nat) (w : World) : Calls Try.prog 42 #[.slice a len cap] w fun e w' => e = .returned (.pointer (some ⟨w.heap.size, 0, none⟩)) ∧ w.alloc (.cells #[.slice a len cap, .int .i64 0, .int .u64 0] 86) = w' := by
  go_enter Try.func42, Try.ntmps42
  go_wp2
  go_ret
  exact ⟨rfl, rfl⟩
theorem src_newS (w : World) (a : Option Addr) (len cap : Nat) (zs : List Int) (h : IsSrc w a len cap zs) : Src (w.alloc (.cells #[.slice a len cap, .int .i64 0, .int .u64 0] 86)) w.heap.size 0 a len cap zs := by
  refine ⟨0, 0, Nat.le_refl _, ?_, h.below ((Below.refl w.heap.size w).alloc (Nat.le_refl _) _) h.block, h.block⟩
  show (w.heap.push _)[w.heap.size]? = _
  simp
theorem src_new (w : World) (a : Option Addr) (len cap : Nat) (zs : List Int) (h : IsRow .u8 w a len cap zs) : Src (w.alloc (.cells #[.slice a len cap, .int .i64 0, .int .u64 0] 86)) w.heap.size 0 a len cap zs :=
  src_newS w a len cap zs h.src
end Go.Proofs.Ytfmplneopmbfoaa.Wds
