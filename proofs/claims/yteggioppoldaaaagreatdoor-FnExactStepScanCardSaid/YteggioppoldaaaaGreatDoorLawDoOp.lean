/-
  The walk of the law of DoOp: the code's own answer is the model's, for all arguments.
-/
import Derived.Test.YteggioppoldaaaaGreatDoorDoOp
import Derived.Test.YteggioppoldaaaaGreatDoorSdo4
import Derived.Test.YteggioppoldaaaaGreatDoorSdo8
import Derived.Test.YteggioppoldaaaaGreatDoorSdo16
namespace Go.Proofs.YteggioppoldaaaaGreatDoor.Wds
open Go.RowKit Go.Proofs.YteggioppoldaaaaGreatDoor.Err
set_option linter.unusedVariables false

theorem sdo_any (op b x y : Int) (w : World) (h0 : 0 ≤ op) (h1 : op ≤ 17) (hx : Wd.IsWord b x) (hy : Wd.IsWord b y) : Calls Tryz.prog 57 #[.int .i64 op, .int .i64 b, .int .i64 x, .int .i64 y] w fun e w' => e = .returned (.int .i64 (Wd.doOp op b x y)) ∧ w = w' := by
  obtain ⟨hb, hx0, hx1⟩ := hx
  obtain ⟨_, hy0, hy1⟩ := hy
  rcases hb with rfl | rfl | rfl
  · exact sdo4 op x y w h0 h1 hx0 hx1 hy0 hy1
  · exact sdo8 op x y w h0 h1 hx0 hx1 hy0 hy1
  · exact sdo16 op x y w h0 h1 hx0 hx1 hy0 hy1
end Go.Proofs.YteggioppoldaaaaGreatDoor.Wds
