/-
  Sets of small numbers as bits of an unsigned number of 32 bits: the operations of the code on them, and whether one statement must follow another one: one contract each.
-/
import Derived.Test.YtnbcobhcemjbnaaDoorU32
import Derived.Test.YtnbcobhcemjbnaaDoorStW
import Derived.Test.YtnbcobhcemjbnaaDoorBits
import Derived.Test.YtnbcobhcemjbnaaDoorWords
import Derived.Test.YtnbcobhcemjbnaaDoorVCode
namespace Go.Proofs.YtnbcobhcemjbnaaDoor.Wds
open Go.RowKit
set_option linter.unusedVariables false

theorem reads_any (p d a b : Int) (w : World) (ha : 0 ≤ a ∧ a ≤ 31) (hb : 0 ≤ b ∧ b ≤ 31) :
    Calls Tryd.prog 59 #[.agg #[.int .i64 p, .int .i64 d, .int .i64 a, .int .i64 b]] w fun e w' => e = .returned (.int .u32 ((Sc.bt a ||| Sc.bt b : Nat) : Int)) ∧ Below w.heap.size w w' := by
  obtain ⟨u, hu⟩ : ∃ u, u = Sc.bt a := ⟨_, rfl⟩
  obtain ⟨v, hv⟩ : ∃ v, v = Sc.bt a ||| Sc.bt b := ⟨_, rfl⟩
  have C1 := Lib.hid (fun W => with0_below a W ha.1 ha.2)
  have C2 := Lib.hid (fun W => with_below u b W (by rw [hu]; exact Sc.bt_lt ha.2) hb.1 hb.2)
  rw [← hu] at C1
  rw [hu, ← hv, ← hu] at C2
  rw [← hv]
  clear hu hv
  have HB0 := Lib.hid ((Below.refl w.heap.size w).alloc (Nat.le_refl _) (.cells #[.int .i64 p, .int .i64 d, .int .i64 a, .int .i64 b] 80))
  have hk := BlkS.new w #[.int .i64 p, .int .i64 d, .int .i64 a, .int .i64 b]
  have q2 : ∀ x : BelowBy (w.alloc (.cells #[.int .i64 p, .int .i64 d, .int .i64 a, .int .i64 b] 80)), x.W.cell? ⟨w.heap.size, 2, none⟩ = some (.int .i64 a) := BelowBy.cell (hk.cell 2)
  have q3 : ∀ x : BelowBy (w.alloc (.cells #[.int .i64 p, .int .i64 d, .int .i64 a, .int .i64 b] 80)), x.W.cell? ⟨w.heap.size, 3, none⟩ = some (.int .i64 b) := BelowBy.cell (hk.cell 3)
  clear hk
  go_enter Tryd.func59, Tryd.ntmps59
  go_wp2
  refine wp_region_quiet_below (by kernel_rfl) (by kernel_rfl) ?_
  iterate 3 (quiet_step (first | (go_at_call 43; exact calls_below (C1.out _))))
  iterate 4 (quiet_step (first | (go_at_call 43; exact calls_below (C2.out _))))
  refine wpQuiet_nil ?_
  rintro _ ⟨⟨wq, hwq⟩, rfl⟩
  go_wp2
  go_ret
  exact ⟨rfl, HB0.out.trans (hwq.mono HB0.out.size)⟩
theorem writes_any (p d a b : Int) (w : World) (hd : 0 ≤ d ∧ d ≤ 31) :
    Calls Tryd.prog 58 #[.agg #[.int .i64 p, .int .i64 d, .int .i64 a, .int .i64 b]] w fun e w' => e = .returned (.int .u32 ((Sc.bt d : Nat) : Int)) ∧ Below w.heap.size w w' := by
  obtain ⟨u, hu⟩ : ∃ u, u = Sc.bt d := ⟨_, rfl⟩
  have C1 := Lib.hid (fun W => with0_any d W hd.1 hd.2)
  rw [← hu] at C1
  rw [← hu]
  clear hu
  have HB0 := Lib.hid ((Below.refl w.heap.size w).alloc (Nat.le_refl _) (.cells #[.int .i64 p, .int .i64 d, .int .i64 a, .int .i64 b] 80))
  go_enter Tryd.func58, Tryd.ntmps58
  go_wp2_with fail
  refine (C1.out _).mono ?_
  rintro e w1 ⟨rfl, rfl⟩
  go_wp2
  go_ret
  exact ⟨rfl, HB0.out⟩
end Go.Proofs.YtnbcobhcemjbnaaDoor.Wds
