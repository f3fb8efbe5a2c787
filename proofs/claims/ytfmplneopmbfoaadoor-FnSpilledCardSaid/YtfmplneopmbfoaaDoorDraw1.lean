/-
  What the model's draws of words, of bits and of a byte's number return and do to memory, over the translated program.
-/
import Derived.Test.YtfmplneopmbfoaaDoorDraw
import Derived.Test.YtfmplneopmbfoaaDoorMath
import Derived.OwnWalk
import Derived.Laws.AppendOwn
namespace Go.Proofs.YtfmplneopmbfoaaDoor.Wds
open Go.RowKit
set_option linter.unusedVariables false

theorem A_info2 : (Tryd.prog.info? 2).map (fun i => (i.zero, i.size, i.bytes)) = some (some (.int .i64 0), 1, 8) := by kernel_rfl

theorem from_any (a : Option Addr) (len cap : Nat) (w : World) : Calls Tryd.prog 24 #[.slice a len cap] w fun e w' => e = .returned (.pointer (some ⟨w.heap.size, 0, none⟩)) ∧ w.alloc (.cells #[.slice a len cap, .int .i64 0, .int .u64 0] 77) = w' := by
  go_enter Tryd.func24, Tryd.ntmps24
  go_wp2
  go_ret
  exact ⟨rfl, rfl⟩
theorem src_newS (w : World) (a : Option Addr) (len cap : Nat) (zs : List Int) (h : IsSrc w a len cap zs) : Src (w.alloc (.cells #[.slice a len cap, .int .i64 0, .int .u64 0] 77)) w.heap.size 0 a len cap zs := by
  refine ⟨0, 0, Nat.le_refl _, ?_, h.below ((Below.refl w.heap.size w).alloc (Nat.le_refl _) _) h.block, h.block⟩
  show (w.heap.push _)[w.heap.size]? = _
  simp
theorem src_new (w : World) (a : Option Addr) (len cap : Nat) (zs : List Int) (h : IsRow .u8 w a len cap zs) : Src (w.alloc (.cells #[.slice a len cap, .int .i64 0, .int .u64 0] 77)) w.heap.size 0 a len cap zs :=
  src_newS w a len cap zs h.src
end Go.Proofs.YtfmplneopmbfoaaDoor.Wds
