/-
  What a row's list gives of the library's table deBruijn32tab, whose thirty-two cells a start that fits holds.
-/
import Derived.Test.YtfmplneopmbfoaaDoorMem
import Derived.Test.YtfmplneopmbfoaaDoorCards
import Derived.LaidHandle
import Derived.LaidSub
import Derived.FnData
import Derived.OpenShut
import Derived.ChangeArms
import Derived.ChangeVars
import Derived.OpenVars
namespace Go.Proofs.YtfmplneopmbfoaaDoor.VarL
open Go.RowKit Go.ChangeShapes
set_option linter.unusedVariables false

theorem laidVars_mem {P : Program} {w : World} : ∀ {l : List (String × DataW Unit)} {ps : List MemPlace}, DataW.LaidVars P w l ps → ∀ x ∈ l, ∃ g t cs fuel p, P.globalNamed x.1 = some g ∧ (P.globals[g]?).map (·.type) = some t ∧ w.var? P x.1 = some cs ∧ DataW.trod (fun _ => ()) P w 0 (fun _ => true) false fuel t cs.toList = some (x.2, p)
  | [], _, _, _, h => nomatch h
  | (n, d) :: r, ps, hl, x, hx => by
    obtain ⟨g, t, cs, fuel, p, q, h1, h2, h3, h4, hs, e⟩ := hl
    rcases List.mem_cons.1 hx with rfl | hx
    · exact ⟨g, t, cs, fuel, p, h1, h2, h3, h4⟩
    · exact laidVars_mem hs x hx
theorem drop_take_one {l : List Value} {i : Nat} {v : Value} (h : (l.drop i).take 1 = [v]) : l[i]? = some v := by
  have := congrArg (fun m : List Value => m[0]?) h
  simpa using this
theorem b32Global : Tryd.prog.globalNamed "math/bits.deBruijn32tab" = some 0 := by kernel_rfl
theorem b32Type : (Tryd.prog.globals[0]?).map (·.type) = some 91 := by kernel_rfl
theorem b32Data : (Rows.laid_math_bits_deBruijn32tab : DataW Unit) = .agg (Wds.dbTab.map fun (n : Nat) => .lit (.int .u8 (n : Int))) := rfl
theorem b32Len : Wds.dbTab.length = 32 := rfl
theorem b32_of {W : World} {l : List (String × DataW Unit)} (h : laidMetH Tryd.prog l W) (hm : ("math/bits.deBruijn32tab", (Rows.laid_math_bits_deBruijn32tab : DataW Unit)) ∈ l.filter fun x => x.2.handleName?.isNone) : Wds.TabT W := by
  obtain ⟨ps, hl, _, _⟩ := (laidMetH_iff.1 h).1
  obtain ⟨g, t, cs, fuel, p, e1, e2, e3, e4⟩ := laidVars_mem hl _ hm
  obtain rfl := Option.some.inj (b32Global.symm.trans e1)
  obtain rfl := Option.some.inj (b32Type.symm.trans e2)
  obtain ⟨xs, m, rfl, e5, e6, e7, e8⟩ := DataW.trod_array (n := 32) (e := 5) Tryd.underlying91 e4
  have c1 : Tryd.prog.cellsOf 5 = 1 := by kernel_rfl
  rw [c1] at e8
  rw [b32Data] at e5
  have e9 : Wds.dbTab.map (fun (n : Nat) => (DataW.lit (.int .u8 (n : Int)) : DataW Unit)) = xs.map (·.1) := by
    have := congrArg Prod.fst e5
    exact DataW.agg.inj this
  intro i hi
  have hx := e8 i hi
  rw [Nat.mul_one] at hx
  cases hxi : xs[i]? with
  | none => rw [List.getElem?_eq_none_iff, e7] at hxi; omega
  | some x =>
    rw [hxi] at hx
    obtain ⟨s, hs, rfl, hmx⟩ := DataW.trod_int Tryd.underlying5 hx
    have hd := congrArg (fun m : List (DataW Unit) => m[i]?) e9
    simp only [List.getElem?_map, hxi, Option.map_some] at hd
    have hi' : i < Wds.dbTab.length := by rw [b32Len]; exact hi
    rw [List.getElem?_eq_getElem hi'] at hd
    simp only [Option.map_some, Option.some.injEq, DataW.lit.injEq, Lit.int.injEq, true_and] at hd
    rw [World.var?_cell b32Global e3 i]
    have hcs := drop_take_one hs
    rw [Array.getElem?_toList] at hcs
    rw [hcs, ← hd, List.getD_eq_getElem?_getD, List.getElem?_eq_getElem hi']
    rfl
/-- The thirty-two cells of a witness. -/
def b32Cells : Array Value := (Wds.dbTab.map fun (n : Nat) => Value.int .u8 (n : Int)).toArray
end Go.Proofs.YtfmplneopmbfoaaDoor.VarL
