/-
  Shuffles in which no lane is missing, and the shuffle that leads back: the code's and the model's functions; one contract each.
-/
import Derived.Test.YtkoaljbjkogagaaShuf
namespace Go.Proofs.Ytkoaljbjkogagaa.Wds
open Go.RowKit
set_option linter.unusedVariables false

/-- The first place of a number, or -1. -/
def idxOf (zs : List Int) (x : Int) : Int := if Ln.place zs x < zs.length then Ln.place zs x else -1
theorem idxOf_yes {zs : List Int} {x : Int} (h : Ln.place zs x < zs.length) : idxOf zs x = Ln.place zs x := if_pos h
theorem idxOf_no {zs : List Int} {x : Int} (h : ¬ Ln.place zs x < zs.length) : idxOf zs x = -1 := if_neg h
end Go.Proofs.Ytkoaljbjkogagaa.Wds
