/-
  What a row's list gives of the library's two error values; the texts that a witness holds.
-/
import Derived.Test.YtancbcjeackmkaaDoorVarT
import Derived.LaidLaws
namespace Go.Proofs.YtancbcjeackmkaaDoor.VarL
open Go.RowKit Go.ChangeShapes
set_option linter.unusedVariables false
theorem synData : (Rows.laid_strconv_ErrSyntax : DataW Unit) = .iface "*errors.errorString" (.ptr (.agg [.lit (.string [105, 110, 118, 97, 108, 105, 100, 32, 115, 121, 110, 116, 97, 120])])) := rfl
theorem rngData : (Rows.laid_strconv_ErrRange : DataW Unit) = .iface "*errors.errorString" (.ptr (.agg [.lit (.string [118, 97, 108, 117, 101, 32, 111, 117, 116, 32, 111, 102, 32, 114, 97, 110, 103, 101])])) := rfl
def synText : List UInt8 := [105, 110, 118, 97, 108, 105, 100, 32, 115, 121, 110, 116, 97, 120]
def rngText : List UInt8 := [118, 97, 108, 117, 101, 32, 111, 117, 116, 32, 111, 102, 32, 114, 97, 110, 103, 101]
theorem err_of {W : World} {l : List (String × DataW Unit)} {n nm : String} {d : DataW Unit} {g : Nat} (h : laidMetH Tryd.prog l W) (hm : (n, .iface nm d) ∈ l.filter fun x => x.2.handleName?.isNone)
    (hg : Tryd.prog.globalNamed n = some g) (ht : (Tryd.prog.globals[g]?).map (·.type) = some 48) : ∃ (tp : TypeId) (p : Value), W.var? Tryd.prog n = some #[.iface tp p] := by
  obtain ⟨ps, hl, _, _⟩ := (laidMetH_iff.1 h).1
  obtain ⟨g', t, cs, fuel, p, e1, e2, e3, e4⟩ := laidVars_mem hl _ hm
  obtain rfl := Option.some.inj (hg.symm.trans e1)
  obtain rfl := Option.some.inj (ht.symm.trans e2)
  obtain ⟨f1, u, v, hcs, _, _⟩ := iface_of_trod Tryd.underlying48 e4
  exact ⟨u, v, e3.trans (congrArg some (Array.toList_inj.1 hcs))⟩
theorem syn_of {W : World} {l : List (String × DataW Unit)} (h : laidMetH Tryd.prog l W) (hm : ("strconv.ErrSyntax", (Rows.laid_strconv_ErrSyntax : DataW Unit)) ∈ l.filter fun x => x.2.handleName?.isNone) : ∃ (tp : TypeId) (p : Value), W.var? Tryd.prog "strconv.ErrSyntax" = some #[.iface tp p] :=
  err_of h (by rw [synData] at hm; exact hm) (by kernel_rfl : _ = some 2) (by kernel_rfl)
theorem rng_of {W : World} {l : List (String × DataW Unit)} (h : laidMetH Tryd.prog l W) (hm : ("strconv.ErrRange", (Rows.laid_strconv_ErrRange : DataW Unit)) ∈ l.filter fun x => x.2.handleName?.isNone) : ∃ (tp : TypeId) (p : Value), W.var? Tryd.prog "strconv.ErrRange" = some #[.iface tp p] :=
  err_of h (by rw [rngData] at hm; exact hm) (by kernel_rfl : _ = some 3) (by kernel_rfl)
end Go.Proofs.YtancbcjeackmkaaDoor.VarL
