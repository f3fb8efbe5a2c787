/-
  Decimal: the code's and the model's function, and the law's walk.
-/
import Derived.Test.YtancbcjeackmkaaDoorWords
import Derived.Test.YtancbcjeackmkaaDoorDec
import Derived.Test.YtancbcjeackmkaaDoorVarT
import Derived.Test.YtancbcjeackmkaaDoorShelf
namespace Go.Proofs.YtancbcjeackmkaaDoor.Wds
open Go.RowKit
set_option linter.unusedVariables false

/-- The library's table lies where it belongs. -/
def TabP (w : World) : Prop := Lib.TabIs Tryd.prog w "internal/strconv.uint64pow10" .u64 Lib.pow10Tab
theorem TabP.keep {w w' : World} (h : TabP w) (hb : Below w.heap.size w w') : TabP w' := VarL.tab_below h hb
theorem below_grow (w : World) (q : Nat) (os : Array Obj) : Below w.heap.size w (Go.Sort.grow (w.drewN q) os) :=
  ⟨rfl, rfl, rfl, by simp [Go.Sort.grow], fun k hk => by simp [Go.Sort.grow, Array.getElem?_append, hk]⟩
/-- The decimal text of a number. -/
def decS (n : Int) : ByteArray := ⟨(Lib.itoa n).toArray⟩
theorem iDecimal_any (n : Int) (w : World) (h0 : -9223372036854775808 ≤ n) (h1 : n ≤ 9223372036854775807) (hT : TabP w) :
    Calls Tryd.prog 10 #[.int .i64 n] w fun e w' => e = .returned (.string (decS n)) ∧ Below w.heap.size w w' := by
  have C := Lib.hid (Tryd.strconv_FormatInt_10 n h0 h1 w hT)
  clear hT h0 h1
  go_enter Tryd.func10, Tryd.ntmps10
  go_wp2_with fail
  refine C.out.mono ?_
  rintro e w1 ⟨rfl, k, os, rfl⟩
  have HB := Lib.hid (below_grow w k os)
  generalize Go.Sort.grow (w.drewN k) os = w1 at HB ⊢
  go_wp2_with fail
  go_ret
  exact ⟨rfl, HB.out⟩
theorem sDecimal_any (n : Int) (w : World) (h0 : -9223372036854775808 ≤ n) (h1 : n ≤ 9223372036854775807) :
    Calls Tryd.prog 9 #[.int .i64 n] w fun e w' => e = .returned (.string (decS n)) ∧ Below w.heap.size w w' := by
  have C := Lib.hid (dec_any n w h0 h1)
  clear h0 h1
  go_enter Tryd.func9, Tryd.ntmps9
  go_wp2_with fail
  refine C.out.mono ?_
  rintro e w1 ⟨rfl, hb⟩
  have HB := Lib.hid hb; clear hb
  go_wp2_with fail
  go_ret
  exact ⟨rfl, HB.out⟩
theorem law_decimal (n : Int) (w : World) (hbd : -9223372036854775808 ≤ n ∧ n ≤ 9223372036854775807) (h32 h64 : True) (hT : TabP w) :
    Calls Tryd.prog 3 #[.int .i64 n] w fun e w' => e = .returned (.bool true) ∧ Below w.heap.size w w' := by
  obtain ⟨h0, h1⟩ := hbd
  have C1 := Lib.hid (sDecimal_any n w h0 h1)
  have C2 := Lib.hid (fun (W : World) (hb : Below w.heap.size w W) => iDecimal_any n W h0 h1 (hT.keep hb))
  generalize decS n = s at C1 C2
  clear hT h0 h1 h32 h64
  go_enter Tryd.func3, Tryd.ntmps3
  go_wp2_with fail
  refine C1.out.mono ?_
  rintro e w1 ⟨rfl, hb⟩
  have HB := Lib.hid hb; clear hb
  go_wp2_with fail
  refine (C2.out _ HB.out).mono ?_
  rintro e w2 ⟨rfl, hb⟩
  have HB2 := Lib.hid (HB.out.trans (hb.mono HB.out.size)); clear hb
  go_wp2_with fail
  go_ret
  exact ⟨ret_bool (by simp), HB2.out⟩
end Go.Proofs.YtancbcjeackmkaaDoor.Wds
