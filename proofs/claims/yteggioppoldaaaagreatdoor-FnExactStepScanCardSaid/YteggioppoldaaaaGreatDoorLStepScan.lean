/-
  The walk of the law of StepScan: the code answers as the model, for all arguments; nothing that was there has changed.
-/
import Derived.Test.YteggioppoldaaaaGreatDoorIStp
namespace Go.Proofs.YteggioppoldaaaaGreatDoor.Wds
open Go.RowKit
set_option linter.unusedVariables false

set_option maxHeartbeats 2000000 in
set_option maxRecDepth 100000 in
theorem law_stepScan (op : Int) (b : Int) (A_a : Option Addr) (n_a c_a : Nat) (zz_a : List Int) (w : World) (w_a : IsRow .i64 w A_a n_a c_a zz_a) (hErr : Err.ErrT w) :
    Calls Tryz.prog 8 #[.int .i64 op, .int .i64 b, .slice A_a n_a c_a] w fun e w' => e = .returned (.bool true) ∧ Below w.heap.size w w' := by
  obtain ⟨z_a, hr_a⟩ : ∃ zs, Rd w w.heap.size A_a n_a zs := ⟨_, Rd.of_row w_a⟩
  have HR_a := Lib.hid hr_a; clear hr_a w_a
  have HE := Lib.hid hErr; clear hErr
  by_cases l_a : n_a ≤ 1048576
  rotate_left
  · have l1 : 1048576 < n_a := by omega
    clear l_a
    go_enter Tryz.func8, Tryz.ntmps8
    go_wp2
    go_ret
    exact ⟨rfl, Below.refl _ _⟩
  have hS : ∀ (W : World) (A_a : Option Addr) (c_a : Nat) (B_a : Nat), Rd W B_a A_a n_a z_a → Calls Tryz.prog 32 #[.int .i64 op, .int .i64 b, .slice A_a n_a c_a] W (Ret1 (Ln.stepScan op b z_a).1 (Ln.stepScan op b z_a).2 W) :=
    fun W A_a c_a B_a r_a => sStepScan_any op b A_a n_a c_a z_a B_a W l_a r_a
  have hI : ∀ (W : World) (A_a : Option Addr) (c_a : Nat) (B_a : Nat), Rd W B_a A_a n_a z_a → Err.ErrT W → Calls Tryz.prog 16 #[.int .i64 op, .int .i64 b, .slice A_a n_a c_a] W (Ret1 (Ln.stepScan op b z_a).1 (Ln.stepScan op b z_a).2 W) :=
    fun W A_a c_a B_a r_a hEE => iStepScan_any op b A_a n_a c_a z_a B_a W l_a r_a hEE
  generalize (Ln.stepScan op b z_a).1 = rz at hS hI
  generalize (Ln.stepScan op b z_a).2 = ok at hS hI
  have HS := Lib.hid hS; clear hS
  have HI := Lib.hid hI; clear hI
  have HB0 : Hid (Below w.heap.size w w) := Below.refl _ _
  go_enter Tryz.func8, Tryz.ntmps8
  go_wp2_with fail
  refine (toS_any A_a n_a c_a z_a w.heap.size _ l_a (HR_a.out.belowB HB0.out (Nat.le_refl _))).mono ?_
  rintro e w1 ⟨g1, rfl, ho, hb⟩
  have hs1 := hb.size
  have HB1 := Lib.hid (HB0.out.trans (hb.mono HB0.out.size)); clear hb HB0
  have HO_ca := Lib.hid ho; clear ho
  go_wp2_with fail
  refine (HS.out _ _ _ _ HO_ca.out.rd).mono ?_
  rintro e w2 ⟨A_w, n_w, c_w, rfl, ho, hn_w, hb⟩
  have hs2 := hb.size
  have HO_ca' := Lib.hid (HO_ca.out.below hb); clear HO_ca; have HO_ca := HO_ca'; clear HO_ca'
  have HB2 := Lib.hid (HB1.out.trans (hb.mono HB1.out.size)); clear hb HB1
  have HO_w := Lib.hid ho; clear ho
  clear HO_ca
  go_wp2_with fail
  refine (toS_any A_a n_a c_a z_a w.heap.size _ l_a (HR_a.out.belowB HB2.out (Nat.le_refl _))).mono ?_
  rintro e w3 ⟨g3, rfl, ho, hb⟩
  have hs3 := hb.size
  have HO_w' := Lib.hid (HO_w.out.below hb); clear HO_w; have HO_w := HO_w'; clear HO_w'
  have HB3 := Lib.hid (HB2.out.trans (hb.mono HB2.out.size)); clear hb HB2
  have HO_xa := Lib.hid ho; clear ho
  go_wp2_with fail
  refine (HI.out _ _ _ _ HO_xa.out.rd (HE.out.below HB3.out HE.out.lt)).mono ?_
  rintro e w4 ⟨A_g, n_g, c_g, rfl, ho, hn_g, hb⟩
  have hs4 := hb.size
  have HO_w' := Lib.hid (HO_w.out.below hb); clear HO_w; have HO_w := HO_w'; clear HO_w'
  have HO_xa' := Lib.hid (HO_xa.out.below hb); clear HO_xa; have HO_xa := HO_xa'; clear HO_xa'
  have HB4 := Lib.hid (HB3.out.trans (hb.mono HB3.out.size)); clear hb HB3
  have HO_g := Lib.hid ho; clear ho
  obtain rfl : n_w = n_g := HO_w.out.len.symm.trans HO_g.out.len
  go_wp2_with fail
  refine (eqS_same _ _ _ _ _ rz _ _ _ hn_w HO_g.out.rd HO_w.out.rd).mono ?_
  rintro e w5 ⟨rfl, hb⟩
  have hs5 := hb.size
  have HO_w' := Lib.hid (HO_w.out.below hb); clear HO_w; have HO_w := HO_w'; clear HO_w'
  have HO_xa' := Lib.hid (HO_xa.out.below hb); clear HO_xa; have HO_xa := HO_xa'; clear HO_xa'
  have HO_g' := Lib.hid (HO_g.out.below hb); clear HO_g; have HO_g := HO_g'; clear HO_g'
  have HB5 := Lib.hid (HB4.out.trans (hb.mono HB4.out.size)); clear hb HB4
  go_wp2_with fail
  refine (toS_any A_a n_a c_a z_a w.heap.size _ l_a (HR_a.out.belowB HB5.out (Nat.le_refl _))).mono ?_
  rintro e w6 ⟨g6, rfl, ho, hb⟩
  have hs6 := hb.size
  have HO_w' := Lib.hid (HO_w.out.below hb); clear HO_w; have HO_w := HO_w'; clear HO_w'
  have HO_xa' := Lib.hid (HO_xa.out.below hb); clear HO_xa; have HO_xa := HO_xa'; clear HO_xa'
  have HO_g' := Lib.hid (HO_g.out.below hb); clear HO_g; have HO_g := HO_g'; clear HO_g'
  have HB6 := Lib.hid (HB5.out.trans (hb.mono HB5.out.size)); clear hb HB5
  have HO_ya := Lib.hid ho; clear ho
  go_wp2_with fail
  refine (eqS_same _ _ _ _ _ z_a _ _ _ l_a HO_xa.out.rd HO_ya.out.rd).mono ?_
  rintro e w7 ⟨rfl, hb⟩
  have hs7 := hb.size
  have HO_w' := Lib.hid (HO_w.out.below hb); clear HO_w; have HO_w := HO_w'; clear HO_w'
  have HO_xa' := Lib.hid (HO_xa.out.below hb); clear HO_xa; have HO_xa := HO_xa'; clear HO_xa'
  have HO_g' := Lib.hid (HO_g.out.below hb); clear HO_g; have HO_g := HO_g'; clear HO_g'
  have HO_ya' := Lib.hid (HO_ya.out.below hb); clear HO_ya; have HO_ya := HO_ya'; clear HO_ya'
  have HB7 := Lib.hid (HB6.out.trans (hb.mono HB6.out.size)); clear hb HB6
  clear HO_ya
  go_wp2_with fail
  refine (markS_any _ _ _ z_a w2.heap.size w3.heap.size _ _ l_a (by omega) (by omega) HO_xa.out).mono ?_
  rintro e w8 ⟨rfl, ho, hc, hq⟩
  have hs8 := hc.size
  have HO_w' := Lib.hid (HO_w.out.ch hc (by omega)); clear HO_w; have HO_w := HO_w'; clear HO_w'
  have HO_g' := Lib.hid (HO_g.out.ch hc (by omega)); clear HO_g; have HO_g := HO_g'; clear HO_g'
  clear HO_xa; have HO_xa := Lib.hid ho; clear ho hq
  have HB8 := Lib.hid (HB7.out.trans (hc.below (B := w.heap.size) (by omega) (by omega))); clear hc HB7
  go_wp2_with fail
  refine (eqS_same _ _ _ _ _ rz _ _ _ hn_w HO_g.out.rd HO_w.out.rd).mono ?_
  rintro e w9 ⟨rfl, hb⟩
  have hs9 := hb.size
  have HO_w' := Lib.hid (HO_w.out.below hb); clear HO_w; have HO_w := HO_w'; clear HO_w'
  have HO_xa' := Lib.hid (HO_xa.out.below hb); clear HO_xa; have HO_xa := HO_xa'; clear HO_xa'
  have HO_g' := Lib.hid (HO_g.out.below hb); clear HO_g; have HO_g := HO_g'; clear HO_g'
  have HB9 := Lib.hid (HB8.out.trans (hb.mono HB8.out.size)); clear hb HB8
  go_wp2_with fail
  refine (markS_any _ _ _ rz w3.heap.size w4.heap.size _ _ hn_w (by omega) (by omega) HO_g.out).mono ?_
  rintro e w10 ⟨rfl, ho, hc, hq⟩
  have hs10 := hc.size
  have HO_w' := Lib.hid (HO_w.out.ch hc (by omega)); clear HO_w; have HO_w := HO_w'; clear HO_w'
  have HO_xa' := Lib.hid (HO_xa.out.ch hc (by omega)); clear HO_xa; have HO_xa := HO_xa'; clear HO_xa'
  clear HO_g; have HO_g := Lib.hid ho; clear ho hq
  have HB10 := Lib.hid (HB9.out.trans (hc.below (B := w.heap.size) (by omega) (by omega))); clear hc HB9
  go_wp2_with fail
  refine (heldS_any _ _ _ _ _ _ hn_w (by omega) (by omega) HO_g.out.rd).mono ?_
  rintro e w11 ⟨rfl, hb⟩
  have hs11 := hb.size
  have HO_w' := Lib.hid (HO_w.out.below hb); clear HO_w; have HO_w := HO_w'; clear HO_w'
  have HO_xa' := Lib.hid (HO_xa.out.below hb); clear HO_xa; have HO_xa := HO_xa'; clear HO_xa'
  have HO_g' := Lib.hid (HO_g.out.below hb); clear HO_g; have HO_g := HO_g'; clear HO_g'
  have HB11 := Lib.hid (HB10.out.trans (hb.mono HB10.out.size)); clear hb HB10
  clear HO_xa
  go_wp2_with fail
  refine (toS_any A_a n_a c_a z_a w.heap.size _ l_a (HR_a.out.belowB HB11.out (Nat.le_refl _))).mono ?_
  rintro e w12 ⟨g12, rfl, ho, hb⟩
  have hs12 := hb.size
  have HO_w' := Lib.hid (HO_w.out.below hb); clear HO_w; have HO_w := HO_w'; clear HO_w'
  have HO_g' := Lib.hid (HO_g.out.below hb); clear HO_g; have HO_g := HO_g'; clear HO_g'
  have HB12 := Lib.hid (HB11.out.trans (hb.mono HB11.out.size)); clear hb HB11
  have HO_va := Lib.hid ho; clear ho
  go_wp2_with fail
  refine (HI.out _ _ _ _ HO_va.out.rd (HE.out.below HB12.out HE.out.lt)).mono ?_
  rintro e w13 ⟨A_h, n_h, c_h, rfl, ho, hn_h, hb⟩
  have hs13 := hb.size
  have HO_w' := Lib.hid (HO_w.out.below hb); clear HO_w; have HO_w := HO_w'; clear HO_w'
  have HO_g' := Lib.hid (HO_g.out.below hb); clear HO_g; have HO_g := HO_g'; clear HO_g'
  have HO_va' := Lib.hid (HO_va.out.below hb); clear HO_va; have HO_va := HO_va'; clear HO_va'
  have HB13 := Lib.hid (HB12.out.trans (hb.mono HB12.out.size)); clear hb HB12
  have HO_h := Lib.hid ho; clear ho
  obtain rfl : n_w = n_h := HO_w.out.len.symm.trans HO_h.out.len
  go_wp2_with fail
  refine (eqS_same _ _ _ _ _ rz _ _ _ hn_w HO_h.out.rd HO_w.out.rd).mono ?_
  rintro e w14 ⟨rfl, hb⟩
  have hs14 := hb.size
  have HO_w' := Lib.hid (HO_w.out.below hb); clear HO_w; have HO_w := HO_w'; clear HO_w'
  have HO_g' := Lib.hid (HO_g.out.below hb); clear HO_g; have HO_g := HO_g'; clear HO_g'
  have HO_va' := Lib.hid (HO_va.out.below hb); clear HO_va; have HO_va := HO_va'; clear HO_va'
  have HO_h' := Lib.hid (HO_h.out.below hb); clear HO_h; have HO_h := HO_h'; clear HO_h'
  have HB14 := Lib.hid (HB13.out.trans (hb.mono HB13.out.size)); clear hb HB13
  go_wp2_with fail
  refine (heldS_any _ _ _ _ _ _ hn_w (by omega) (by omega) HO_g.out.rd).mono ?_
  rintro e w15 ⟨rfl, hb⟩
  have hs15 := hb.size
  have HO_w' := Lib.hid (HO_w.out.below hb); clear HO_w; have HO_w := HO_w'; clear HO_w'
  have HO_g' := Lib.hid (HO_g.out.below hb); clear HO_g; have HO_g := HO_g'; clear HO_g'
  have HO_va' := Lib.hid (HO_va.out.below hb); clear HO_va; have HO_va := HO_va'; clear HO_va'
  have HO_h' := Lib.hid (HO_h.out.below hb); clear HO_h; have HO_h := HO_h'; clear HO_h'
  have HB15 := Lib.hid (HB14.out.trans (hb.mono HB14.out.size)); clear hb HB14
  go_wp2_with fail
  go_ret
  exact ⟨rfl, HB15.out⟩
end Go.Proofs.YteggioppoldaaaaGreatDoor.Wds
