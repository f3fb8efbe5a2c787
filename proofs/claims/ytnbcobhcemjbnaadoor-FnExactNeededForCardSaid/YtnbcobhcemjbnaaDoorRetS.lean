/-
  What is returned: a list of statements and a Bool.
-/
import Derived.Test.YtnbcobhcemjbnaaDoorStW
import Derived.Test.YtnbcobhcemjbnaaDoorVecW
namespace Go.Proofs.YtnbcobhcemjbnaaDoor.Wds
open Go.RowKit
/-- A list of statements and a Bool are returned: the list's row is new. -/
def Ret1S (ss : List Sc.St) (ok : Bool) (w : World) (e : Ending) (w' : World) : Prop :=
  ∃ A n c, e = .returned (.tuple #[.slice A n c, .bool ok]) ∧ OwnS w' w.heap.size w'.heap.size A n ss ∧ n ≤ 1048576 ∧ Below w.heap.size w w'
end Go.Proofs.YtnbcobhcemjbnaaDoor.Wds
