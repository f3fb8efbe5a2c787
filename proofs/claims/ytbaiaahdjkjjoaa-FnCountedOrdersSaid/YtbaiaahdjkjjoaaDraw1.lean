/-
  What the model's draws of words, of bits and of a byte's number return and do to memory, over the translated program.
-/
import Derived.Test.YtbaiaahdjkjjoaaDraw
import Derived.Test.YtbaiaahdjkjjoaaMath
import Derived.OwnWalk
import Derived.Laws.AppendOwn
namespace Go.Proofs.Ytbaiaahdjkjjoaa.Wds
open Go.RowKit
set_option linter.unusedVariables false

theorem A_info2 : (Try.prog.info? 2).map (fun i => (i.zero, i.size, i.bytes)) = some (some (.int .i64 0), 1, 8) := by kernel_rfl

theorem from_any (a : Option Addr) (len cap : Nat) (w : World) : Calls Try.prog 29 #[.slice a len cap] w fun e w' => e = .returned (.pointer (some ⟨w.heap.size, 0, none⟩)) ∧ w.alloc (.cells #[.slice a len cap, .int .i64 0, .int .u64 0] 71) = w' := by
  go_enter Try.func29, Try.ntmps29
  go_wp2
  go_ret
  exact ⟨rfl, rfl⟩
theorem src_newS (w : World) (a : Option Addr) (len cap : Nat) (zs : List Int) (h : IsSrc w a len cap zs) : Src (w.alloc (.cells #[.slice a len cap, .int .i64 0, .int .u64 0] 71)) w.heap.size 0 a len cap zs := by
  refine ⟨0, 0, Nat.le_refl _, ?_, h.below ((Below.refl w.heap.size w).alloc (Nat.le_refl _) _) h.block, h.block⟩
  show (w.heap.push _)[w.heap.size]? = _
  simp
theorem src_new (w : World) (a : Option Addr) (len cap : Nat) (zs : List Int) (h : IsRow .u8 w a len cap zs) : Src (w.alloc (.cells #[.slice a len cap, .int .i64 0, .int .u64 0] 71)) w.heap.size 0 a len cap zs :=
  src_newS w a len cap zs h.src
theorem long_any (a0 a1 : Option Addr) (n0 c0 n1 c1 : Nat) (w : World) (h0 : n0 ≤ maxLen) (h1 : n1 ≤ maxLen) : Calls Try.prog 9 #[.slice a0 n0 c0, .slice a1 n1 c1] w fun e w' => e = .returned (.bool (decide (1048576 < n0 ∨ 1048576 < n1))) ∧ w = w' := by
  unfold maxLen at h0 h1
  by_cases g0 : (1048576 : Int) < n0
  · rw [decide_eq_true (show 1048576 < n0 ∨ 1048576 < n1 from by omega)]
    go_enter Try.func9, Try.ntmps9
    go_wp2
    go_ret
    exact ⟨rfl, rfl⟩
  · by_cases g1 : (1048576 : Int) < n1
    · rw [decide_eq_true (show 1048576 < n0 ∨ 1048576 < n1 from by omega)]
      go_enter Try.func9, Try.ntmps9
      go_wp2
      go_ret
      exact ⟨rfl, rfl⟩
    · rw [decide_eq_false (show ¬ (1048576 < n0 ∨ 1048576 < n1) from by omega)]
      go_enter Try.func9, Try.ntmps9
      go_wp2
      go_ret
      exact ⟨rfl, rfl⟩
end Go.Proofs.Ytbaiaahdjkjjoaa.Wds
