/-
  The walk of the law of ValidMachine: the code answers as the model, for all arguments; nothing that was there has changed.
-/
import Derived.Test.YtkdgnadidmagdaaMch
namespace Go.Proofs.Ytkdgnadidmagdaa.Wds
open Go.RowKit
set_option linter.unusedVariables false

theorem law_validMachine (l b : Int) (w : World) :
    Calls Try.prog 3 #[.agg #[.int .i64 l, .int .i64 b]] w fun e w' => e = .returned (.bool true) ∧ Below w.heap.size w w' := by
  have hS := fun W => sValidM_any l b W
  have hI := fun W => iValidM_any l b W
  generalize Mc.mok l b = ok at hS hI
  have HS := Lib.hid hS; clear hS
  have HI := Lib.hid hI; clear hI
  have hb0 : Below w.heap.size w (w.alloc (.cells #[.int .i64 l, .int .i64 b] 23)) := (Below.refl _ _).alloc (Nat.le_refl _) _
  have HQ := Lib.hid (new2 w (.int .i64 l) (.int .i64 b) 23)
  have HB0 := Lib.hid hb0
  have HSZ := Lib.hid (show w.heap.size < (w.alloc (.cells #[.int .i64 l, .int .i64 b] 23)).heap.size by simp)
  clear hb0
  go_enter Try.func3, Try.ntmps3
  go_wp2_with fail
  refine (toM_any l b _).mono ?_
  rintro e w1 ⟨rfl, hb⟩
  have p0 := (hb.cell (p := ⟨w.heap.size, 0, none⟩) HSZ.out).trans HQ.out.1
  have p1 := (hb.cell (p := ⟨w.heap.size, 1, none⟩) HSZ.out).trans HQ.out.2
  have HB1 := Lib.hid (HB0.out.trans (hb.mono HB0.out.size))
  have HZ1 := Lib.hid (Nat.lt_of_lt_of_le HSZ.out hb.size)
  have HP := Lib.hid (And.intro p0 p1)
  clear hb p0 p1
  go_wp2_with fail
  refine (HS.out w1).mono ?_
  rintro e w2 ⟨rfl, hb⟩
  have p0 := (hb.cell (p := ⟨w.heap.size, 0, none⟩) HZ1.out).trans HP.out.1
  have p1 := (hb.cell (p := ⟨w.heap.size, 1, none⟩) HZ1.out).trans HP.out.2
  have HB2 := Lib.hid (HB1.out.trans (hb.mono HB1.out.size))
  clear hb
  go_wp2_with fail
  refine (toM_any l b _).mono ?_
  rintro e w3 ⟨rfl, hb⟩
  have HB3 := Lib.hid (HB2.out.trans (hb.mono HB2.out.size))
  clear hb p0 p1
  go_wp2_with fail
  refine (HI.out w3).mono ?_
  rintro e w4 ⟨rfl, hb⟩
  have HB4 := Lib.hid (HB3.out.trans (hb.mono HB3.out.size))
  clear hb
  go_wp2
  go_ret
  exact ⟨rfl, HB4.out⟩
end Go.Proofs.Ytkdgnadidmagdaa.Wds
