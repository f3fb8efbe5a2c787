/-
  The walk of the law of ReduceLanes: the code answers as the model, for all arguments; nothing that was there has changed.
-/
import Derived.Test.YteggioppoldaaaaGreatDoorIRed
namespace Go.Proofs.YteggioppoldaaaaGreatDoor.Wds
open Go.RowKit
set_option linter.unusedVariables false

set_option maxHeartbeats 2000000 in
set_option maxRecDepth 100000 in
theorem law_reduceLanes (op : Int) (b : Int) (A_a : Option Addr) (n_a c_a : Nat) (zz_a : List Int) (w : World) (w_a : IsRow .i64 w A_a n_a c_a zz_a) (hErr : Err.ErrT w) :
    Calls Tryz.prog 6 #[.int .i64 op, .int .i64 b, .slice A_a n_a c_a] w fun e w' => e = .returned (.bool true) ∧ Below w.heap.size w w' := by
  obtain ⟨z_a, hr_a⟩ : ∃ zs, Rd w w.heap.size A_a n_a zs := ⟨_, Rd.of_row w_a⟩
  have HR_a := Lib.hid hr_a; clear hr_a w_a
  have HE := Lib.hid hErr; clear hErr
  by_cases l_a : n_a ≤ 1048576
  rotate_left
  · have l1 : 1048576 < n_a := by omega
    clear l_a
    go_enter Tryz.func6, Tryz.ntmps6
    go_wp2
    go_ret
    exact ⟨rfl, Below.refl _ _⟩
  have hS : ∀ (W : World) (A_a : Option Addr) (c_a : Nat) (B_a : Nat), Rd W B_a A_a n_a z_a → Calls Tryz.prog 30 #[.int .i64 op, .int .i64 b, .slice A_a n_a c_a] W (RetIB (Ln.reduce op b z_a).1 (Ln.reduce op b z_a).2 W) :=
    fun W A_a c_a B_a r_a => sReduceLanes_any op b A_a n_a c_a z_a B_a W l_a r_a
  have hI : ∀ (W : World) (A_a : Option Addr) (c_a : Nat) (B_a : Nat), n_a ≤ c_a → Rd W B_a A_a n_a z_a → Err.ErrT W → Calls Tryz.prog 14 #[.int .i64 op, .int .i64 b, .slice A_a n_a c_a] W (RetIB (Ln.reduce op b z_a).1 (Ln.reduce op b z_a).2 W) :=
    fun W A_a c_a B_a cc_a r_a hEE => iReduceLanes_any op b A_a n_a c_a z_a B_a W l_a cc_a r_a hEE
  generalize (Ln.reduce op b z_a).1 = rv at hS hI
  generalize (Ln.reduce op b z_a).2 = ok at hS hI
  have HS := Lib.hid hS; clear hS
  have HI := Lib.hid hI; clear hI
  have HB0 : Hid (Below w.heap.size w w) := Below.refl _ _
  go_enter Tryz.func6, Tryz.ntmps6
  go_wp2_with fail
  refine (toS_any A_a n_a c_a z_a w.heap.size _ l_a (HR_a.out.belowB HB0.out (Nat.le_refl _))).mono ?_
  rintro e w1 ⟨g1, rfl, ho, hb⟩
  have hs1 := hb.size
  have HB1 := Lib.hid (HB0.out.trans (hb.mono HB0.out.size)); clear hb HB0
  have HO_ca := Lib.hid ho; clear ho
  go_wp2_with fail
  refine (HS.out _ _ _ _ HO_ca.out.rd).mono ?_
  rintro e w2 ⟨rfl, hb⟩
  have hs2 := hb.size
  have HO_ca' := Lib.hid (HO_ca.out.below hb); clear HO_ca; have HO_ca := HO_ca'; clear HO_ca'
  have HB2 := Lib.hid (HB1.out.trans (hb.mono HB1.out.size)); clear hb HB1
  clear HO_ca
  go_wp2_with fail
  refine (toS_any A_a n_a c_a z_a w.heap.size _ l_a (HR_a.out.belowB HB2.out (Nat.le_refl _))).mono ?_
  rintro e w3 ⟨g3, rfl, ho, hb⟩
  have hs3 := hb.size
  have HB3 := Lib.hid (HB2.out.trans (hb.mono HB2.out.size)); clear hb HB2
  have HO_xa := Lib.hid ho; clear ho
  go_wp2_with fail
  refine (HI.out _ _ _ _ (Nat.le_refl _) HO_xa.out.rd (HE.out.below HB3.out HE.out.lt)).mono ?_
  rintro e w4 ⟨rfl, hb⟩
  have hs4 := hb.size
  have HO_xa' := Lib.hid (HO_xa.out.below hb); clear HO_xa; have HO_xa := HO_xa'; clear HO_xa'
  have HB4 := Lib.hid (HB3.out.trans (hb.mono HB3.out.size)); clear hb HB3
  go_wp2_with fail
  refine (toS_any A_a n_a c_a z_a w.heap.size _ l_a (HR_a.out.belowB HB4.out (Nat.le_refl _))).mono ?_
  rintro e w5 ⟨g5, rfl, ho, hb⟩
  have hs5 := hb.size
  have HO_xa' := Lib.hid (HO_xa.out.below hb); clear HO_xa; have HO_xa := HO_xa'; clear HO_xa'
  have HB5 := Lib.hid (HB4.out.trans (hb.mono HB4.out.size)); clear hb HB4
  have HO_ya := Lib.hid ho; clear ho
  go_wp2_with fail
  refine (eqS_same _ _ _ _ _ z_a _ _ _ l_a HO_xa.out.rd HO_ya.out.rd).mono ?_
  rintro e w6 ⟨rfl, hb⟩
  have hs6 := hb.size
  have HO_xa' := Lib.hid (HO_xa.out.below hb); clear HO_xa; have HO_xa := HO_xa'; clear HO_xa'
  have HO_ya' := Lib.hid (HO_ya.out.below hb); clear HO_ya; have HO_ya := HO_ya'; clear HO_ya'
  have HB6 := Lib.hid (HB5.out.trans (hb.mono HB5.out.size)); clear hb HB5
  clear HO_ya
  go_wp2_with fail
  go_ret
  exact ⟨rfl, HB6.out⟩
end Go.Proofs.YteggioppoldaaaaGreatDoor.Wds
