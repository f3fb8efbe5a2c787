/-
  What a row's list gives of the library's table of powers of ten; the cells of the three tables of a witness.
-/
import Derived.Test.YtancbcjeackmkaaDoorLstW
import Derived.Test.YtancbcjeackmkaaDoorCards
import Derived.LaidHandle
import Derived.LaidSub
import Derived.FnData
import Derived.OpenShut
import Derived.ChangeArms
import Derived.ChangeVars
import Derived.OpenVars
import Derived.Lib.LaidTab
import Derived.Lib.ItoaNum
namespace Go.Proofs.YtancbcjeackmkaaDoor.VarL
open Go.RowKit Go.ChangeShapes
set_option linter.unusedVariables false

theorem laidVars_mem {P : Program} {w : World} : ∀ {l : List (String × DataW Unit)} {ps : List MemPlace}, DataW.LaidVars P w l ps → ∀ x ∈ l, ∃ g t cs fuel p, P.globalNamed x.1 = some g ∧ (P.globals[g]?).map (·.type) = some t ∧ w.var? P x.1 = some cs ∧ DataW.trod (fun _ => ()) P w 0 (fun _ => true) false fuel t cs.toList = some (x.2, p)
  | [], _, _, _, h => nomatch h
  | (n, d) :: r, ps, hl, x, hx => by
    obtain ⟨g, t, cs, fuel, p, q, h1, h2, h3, h4, hs, e⟩ := hl
    rcases List.mem_cons.1 hx with rfl | hx
    · exact ⟨g, t, cs, fuel, p, h1, h2, h3, h4⟩
    · exact laidVars_mem hs x hx
theorem b32_of {W : World} {l : List (String × DataW Unit)} (h : laidMetH Tryd.prog l W) (hm : ("math/bits.deBruijn32tab", (Rows.laid_math_bits_deBruijn32tab : DataW Unit)) ∈ l.filter fun x => x.2.handleName?.isNone) : True := trivial
theorem b64_of {W : World} {l : List (String × DataW Unit)} (h : laidMetH Tryd.prog l W) (hm : ("math/bits.deBruijn64tab", (Rows.laid_math_bits_deBruijn64tab : DataW Unit)) ∈ l.filter fun x => x.2.handleName?.isNone) : True := trivial
theorem p10Global : Tryd.prog.globalNamed "internal/strconv.uint64pow10" = some 1 := by kernel_rfl
theorem p10Type : (Tryd.prog.globals[1]?).map (·.type) = some 109 := by kernel_rfl
theorem p10Data : (Rows.laid_internal_strconv_uint64pow10 : DataW Unit) = Lib.tabData .u64 Lib.pow10Tab := rfl
theorem p10_of {W : World} {l : List (String × DataW Unit)} (h : laidMetH Tryd.prog l W) (hm : ("internal/strconv.uint64pow10", (Rows.laid_internal_strconv_uint64pow10 : DataW Unit)) ∈ l.filter fun x => x.2.handleName?.isNone) : Lib.TabIs Tryd.prog W "internal/strconv.uint64pow10" .u64 Lib.pow10Tab := by
  obtain ⟨ps, hl, _, _⟩ := (laidMetH_iff.1 h).1
  obtain ⟨g, t, cs, fuel, p, e1, e2, e3, e4⟩ := laidVars_mem hl _ hm
  obtain rfl := Option.some.inj (p10Global.symm.trans e1)
  obtain rfl := Option.some.inj (p10Type.symm.trans e2)
  rw [p10Data] at e4
  have := Lib.cells_of_tab (n := 20) (e := 89) Tryd.underlying109 Tryd.underlying89 (by kernel_rfl) (by kernel_rfl) e4
  unfold Lib.TabIs
  rw [e3]
  congr 1
  rw [← this]
def b32Cells : Array Value := (([0, 1, 28, 2, 29, 14, 24, 3, 30, 22, 20, 15, 25, 17, 4, 8, 31, 27, 13, 23, 21, 19, 16, 7, 26, 12, 18, 6, 11, 5, 10, 9] : List Nat).map fun (n : Nat) => Value.int .u8 (n : Int)).toArray
def b64Cells : Array Value := (([0, 1, 56, 2, 57, 49, 28, 3, 61, 58, 42, 50, 38, 29, 17, 4, 62, 47, 59, 36, 45, 43, 51, 22, 53, 39, 33, 30, 24, 18, 12, 5, 63, 55, 48, 27, 60, 41, 37, 16, 46, 35, 44, 21, 52, 32, 23, 11, 54, 26, 40, 15, 34, 20, 31, 10, 25, 14, 19, 9, 13, 8, 7, 6] : List Nat).map fun (n : Nat) => Value.int .u8 (n : Int)).toArray
def p10Cells : Array Value := (Lib.pow10Tab.map fun z => Value.int .u64 z).toArray
theorem i64_bd {n : Int} (h : (Lit.int .i64 n).wf = true) : -9223372036854775808 ≤ n ∧ n ≤ 9223372036854775807 := bounds_i64 h
/-- The table stays where only later blocks change. -/
theorem tab_below {w w' : World} (h : Lib.TabIs Tryd.prog w "internal/strconv.uint64pow10" .u64 Lib.pow10Tab) (hb : Below w.heap.size w w') : Lib.TabIs Tryd.prog w' "internal/strconv.uint64pow10" .u64 Lib.pow10Tab := by
  have hlt := World.block_lt_of_cell? w _ (Lib.TabIs.cell h p10Global 0 (by decide))
  unfold Lib.TabIs World.var? at *
  rw [p10Global] at *
  simp only [Option.bind_some] at *
  rw [hb.block _ hlt]
  exact h
end Go.Proofs.YtancbcjeackmkaaDoor.VarL
