/-
  What a row's list gives of the variable impl.opTexts, whose eighteen cells a start that fits holds.
-/
import Derived.Test.YthdiiefacgodnaaDoorOpTx
import Derived.Test.YthdiiefacgodnaaDoorCards
import Derived.LaidHandle
import Derived.LaidSub
import Derived.FnData
import Derived.OpenShut
import Derived.ChangeArms
import Derived.ChangeVars
import Derived.OpenVars
namespace Go.Proofs.YthdiiefacgodnaaDoor.VarL
open Go.RowKit Go.ChangeShapes
set_option linter.unusedVariables false

theorem laidVars_mem {P : Program} {w : World} : ∀ {l : List (String × DataW Unit)} {ps : List MemPlace}, DataW.LaidVars P w l ps → ∀ x ∈ l, ∃ g t cs fuel p, P.globalNamed x.1 = some g ∧ (P.globals[g]?).map (·.type) = some t ∧ w.var? P x.1 = some cs ∧ DataW.trod (fun _ => ()) P w 0 (fun _ => true) false fuel t cs.toList = some (x.2, p)
  | [], _, _, _, h => nomatch h
  | (n, d) :: r, ps, hl, x, hx => by
    obtain ⟨g, t, cs, fuel, p, q, h1, h2, h3, h4, hs, e⟩ := hl
    rcases List.mem_cons.1 hx with rfl | hx
    · exact ⟨g, t, cs, fuel, p, h1, h2, h3, h4⟩
    · exact laidVars_mem hs x hx
theorem drop_take_one {l : List Value} {i : Nat} {v : Value} (h : (l.drop i).take 1 = [v]) : l[i]? = some v := by
  have := congrArg (fun m : List Value => m[0]?) h
  simpa using this
theorem bytes_of {s : ByteArray} {l : List UInt8} (h : s.data.toList = l) : s = ⟨l.toArray⟩ := by
  subst h
  cases s
  simp
theorem opGlobal : Tryd.prog.globalNamed "loop.example/g01139/impl.opTexts" = some 0 := by kernel_rfl
theorem opType : (Tryd.prog.globals[0]?).map (·.type) = some 54 := by kernel_rfl
theorem opData : (Rows.laid_loop_example_g01139_impl_opTexts : DataW Unit) = .agg (Wd.opTx.map fun l => .lit (.string l)) := rfl
theorem opLen : Wd.opTx.length = 18 := rfl
theorem op_of {W : World} {l : List (String × DataW Unit)} (h : laidMetH Tryd.prog l W) (hm : ("loop.example/g01139/impl.opTexts", (Rows.laid_loop_example_g01139_impl_opTexts : DataW Unit)) ∈ l.filter fun x => x.2.handleName?.isNone) : Wds.OpT W := by
  obtain ⟨ps, hl, _, _⟩ := (laidMetH_iff.1 h).1
  obtain ⟨g, t, cs, fuel, p, e1, e2, e3, e4⟩ := laidVars_mem hl _ hm
  obtain rfl := Option.some.inj (opGlobal.symm.trans e1)
  obtain rfl := Option.some.inj (opType.symm.trans e2)
  obtain ⟨xs, m, rfl, e5, e6, e7, e8⟩ := DataW.trod_array (n := 18) (e := 9) Tryd.underlying54 e4
  have c1 : Tryd.prog.cellsOf 9 = 1 := by kernel_rfl
  rw [c1] at e8
  rw [opData] at e5
  have e9 : Wd.opTx.map (fun l => (DataW.lit (.string l) : DataW Unit)) = xs.map (·.1) := by
    have := congrArg Prod.fst e5
    exact DataW.agg.inj this
  intro i hi
  have hx := e8 i hi
  rw [Nat.mul_one] at hx
  cases hxi : xs[i]? with
  | none => rw [List.getElem?_eq_none_iff, e7] at hxi; omega
  | some x =>
    rw [hxi] at hx
    obtain ⟨s, hs, rfl, hmx⟩ := DataW.trod_string Tryd.underlying9 hx
    have hd := congrArg (fun m : List (DataW Unit) => m[i]?) e9
    simp only [List.getElem?_map, hxi, Option.map_some] at hd
    have hi' : i < Wd.opTx.length := by rw [opLen]; exact hi
    rw [List.getElem?_eq_getElem hi'] at hd
    simp only [Option.map_some, Option.some.injEq, DataW.lit.injEq, Lit.string.injEq] at hd
    have hb := bytes_of hd.symm
    rw [World.var?_cell opGlobal e3 i]
    have hcs := drop_take_one hs
    rw [Array.getElem?_toList] at hcs
    rw [hcs, hb]
    unfold Wd.tx
    rw [List.getD_eq_getElem?_getD, List.getElem?_eq_getElem hi']
    rfl
/-- The eighteen cells, the datum and the places of a witness. -/
def opCells : Array Value := (Wd.opTx.map fun l => Value.string ⟨l.toArray⟩).toArray
def opDatum {H : Type} : DataW H := .agg (Wd.opTx.map fun l => .lit (.string l))
def opPlaces : List MemPlace := MemPlace.row ⟨0, 0, none⟩ 18
theorem op_rowed : varsRowed Tryd.prog ["loop.example/g01139/impl.opTexts"] = true := by kernel_rfl
end Go.Proofs.YthdiiefacgodnaaDoor.VarL
