/-
  The walk of the law of WidenLanes: the code answers as the model, for all arguments; nothing that was there has changed.
-/
import Derived.Test.YteggioppoldaaaaWid
namespace Go.Proofs.Yteggioppoldaaaa.Wds
open Go.RowKit
set_option linter.unusedVariables false

set_option maxHeartbeats 2000000 in
set_option maxRecDepth 100000 in
theorem law_widenLanes (b : Int) (A_a : Option Addr) (n_a c_a : Nat) (zz_a : List Int) (s : Bool) (w : World) (w_a : IsRow .i64 w A_a n_a c_a zz_a) :
    Calls Try.prog 5 #[.int .i64 b, .slice A_a n_a c_a, .bool s] w fun e w' => e = .returned (.bool true) ∧ Below w.heap.size w w' := by
  obtain ⟨z_a, hr_a⟩ : ∃ zs, Rd w w.heap.size A_a n_a zs := ⟨_, Rd.of_row w_a⟩
  have HR_a := Lib.hid hr_a; clear hr_a w_a
  by_cases l_a : n_a ≤ 1048576
  rotate_left
  · have l1 : 1048576 < n_a := by omega
    clear l_a
    go_enter Try.func5, Try.ntmps5
    go_wp2
    go_ret
    exact ⟨rfl, Below.refl _ _⟩
  have hS : ∀ (W : World) (A_a : Option Addr) (c_a : Nat) (B_a : Nat), n_a ≤ c_a → Rd W B_a A_a n_a z_a → Calls Try.prog 20 #[.int .i64 b, .slice A_a n_a c_a, .bool s] W (Ret2 (Ln.widen b z_a s).1 (Ln.widen b z_a s).2.1 (Ln.widen b z_a s).2.2 W) :=
    fun W A_a c_a B_a cc_a r_a => sWidenLanes_any b A_a n_a c_a z_a B_a s W l_a cc_a r_a
  have hI : ∀ (W : World) (A_a : Option Addr) (c_a : Nat) (B_a : Nat), n_a ≤ c_a → Rd W B_a A_a n_a z_a → Calls Try.prog 21 #[.int .i64 b, .slice A_a n_a c_a, .bool s] W (Ret2 (Ln.widen b z_a s).1 (Ln.widen b z_a s).2.1 (Ln.widen b z_a s).2.2 W) :=
    fun W A_a c_a B_a cc_a r_a => iWidenLanes_any b A_a n_a c_a z_a B_a s W l_a cc_a r_a
  generalize (Ln.widen b z_a s).1 = rz at hS hI
  generalize (Ln.widen b z_a s).2.1 = ry at hS hI
  generalize (Ln.widen b z_a s).2.2 = ok at hS hI
  have HS := Lib.hid hS; clear hS
  have HI := Lib.hid hI; clear hI
  have HB0 : Hid (Below w.heap.size w w) := Below.refl _ _
  go_enter Try.func5, Try.ntmps5
  go_wp2_with fail
  refine (toS_any A_a n_a c_a z_a w.heap.size _ l_a (HR_a.out.belowB HB0.out (Nat.le_refl _))).mono ?_
  rintro e w1 ⟨g1, rfl, ho, hb⟩
  have hs1 := hb.size
  have HB1 := Lib.hid (HB0.out.trans (hb.mono HB0.out.size)); clear hb HB0
  have HO_ca := Lib.hid ho; clear ho
  go_wp2_with fail
  refine (HS.out _ _ _ _ (Nat.le_refl _) HO_ca.out.rd).mono ?_
  rintro e w2 ⟨A_w0, n_w0, c_w0, A_w1, n_w1, c_w1, rfl, ho, ho1, hap, hn_w0, hn_w1, hb⟩
  have hs2 := hb.size
  have HO_ca' := Lib.hid (HO_ca.out.below hb); clear HO_ca; have HO_ca := HO_ca'; clear HO_ca'
  have HB2 := Lib.hid (HB1.out.trans (hb.mono HB1.out.size)); clear hb HB1
  have HO_w0 := Lib.hid ho; clear ho
  have HO_w1 := Lib.hid ho1; clear ho1
  have HP_w := Lib.hid hap; clear hap
  clear HO_ca
  go_wp2_with fail
  refine (toS_any A_a n_a c_a z_a w.heap.size _ l_a (HR_a.out.belowB HB2.out (Nat.le_refl _))).mono ?_
  rintro e w3 ⟨g3, rfl, ho, hb⟩
  have hs3 := hb.size
  have HO_w0' := Lib.hid (HO_w0.out.below hb); clear HO_w0; have HO_w0 := HO_w0'; clear HO_w0'
  have HO_w1' := Lib.hid (HO_w1.out.below hb); clear HO_w1; have HO_w1 := HO_w1'; clear HO_w1'
  have HB3 := Lib.hid (HB2.out.trans (hb.mono HB2.out.size)); clear hb HB2
  have HO_xa := Lib.hid ho; clear ho
  go_wp2_with fail
  refine (HI.out _ _ _ _ (Nat.le_refl _) HO_xa.out.rd).mono ?_
  rintro e w4 ⟨A_g0, n_g0, c_g0, A_g1, n_g1, c_g1, rfl, ho, ho1, hap, hn_g0, hn_g1, hb⟩
  have hs4 := hb.size
  have HO_w0' := Lib.hid (HO_w0.out.below hb); clear HO_w0; have HO_w0 := HO_w0'; clear HO_w0'
  have HO_w1' := Lib.hid (HO_w1.out.below hb); clear HO_w1; have HO_w1 := HO_w1'; clear HO_w1'
  have HO_xa' := Lib.hid (HO_xa.out.below hb); clear HO_xa; have HO_xa := HO_xa'; clear HO_xa'
  have HB4 := Lib.hid (HB3.out.trans (hb.mono HB3.out.size)); clear hb HB3
  have HO_g0 := Lib.hid ho; clear ho
  have HO_g1 := Lib.hid ho1; clear ho1
  have HP_g := Lib.hid hap; clear hap
  obtain rfl : n_w0 = n_g0 := HO_w0.out.len.symm.trans HO_g0.out.len
  obtain rfl : n_w1 = n_g1 := HO_w1.out.len.symm.trans HO_g1.out.len
  go_wp2_with fail
  refine (eqS_same _ _ _ _ _ rz _ _ _ hn_w0 HO_g0.out.rd HO_w0.out.rd).mono ?_
  rintro e w5 ⟨rfl, hb⟩
  have hs5 := hb.size
  have HO_w0' := Lib.hid (HO_w0.out.below hb); clear HO_w0; have HO_w0 := HO_w0'; clear HO_w0'
  have HO_w1' := Lib.hid (HO_w1.out.below hb); clear HO_w1; have HO_w1 := HO_w1'; clear HO_w1'
  have HO_xa' := Lib.hid (HO_xa.out.below hb); clear HO_xa; have HO_xa := HO_xa'; clear HO_xa'
  have HO_g0' := Lib.hid (HO_g0.out.below hb); clear HO_g0; have HO_g0 := HO_g0'; clear HO_g0'
  have HO_g1' := Lib.hid (HO_g1.out.below hb); clear HO_g1; have HO_g1 := HO_g1'; clear HO_g1'
  have HB5 := Lib.hid (HB4.out.trans (hb.mono HB4.out.size)); clear hb HB4
  go_wp2_with fail
  refine (eqS_same _ _ _ _ _ ry _ _ _ hn_w1 HO_g1.out.rd HO_w1.out.rd).mono ?_
  rintro e w6 ⟨rfl, hb⟩
  have hs6 := hb.size
  have HO_w0' := Lib.hid (HO_w0.out.below hb); clear HO_w0; have HO_w0 := HO_w0'; clear HO_w0'
  have HO_w1' := Lib.hid (HO_w1.out.below hb); clear HO_w1; have HO_w1 := HO_w1'; clear HO_w1'
  have HO_xa' := Lib.hid (HO_xa.out.below hb); clear HO_xa; have HO_xa := HO_xa'; clear HO_xa'
  have HO_g0' := Lib.hid (HO_g0.out.below hb); clear HO_g0; have HO_g0 := HO_g0'; clear HO_g0'
  have HO_g1' := Lib.hid (HO_g1.out.below hb); clear HO_g1; have HO_g1 := HO_g1'; clear HO_g1'
  have HB6 := Lib.hid (HB5.out.trans (hb.mono HB5.out.size)); clear hb HB5
  go_wp2_with fail
  refine (toS_any A_a n_a c_a z_a w.heap.size _ l_a (HR_a.out.belowB HB6.out (Nat.le_refl _))).mono ?_
  rintro e w7 ⟨g7, rfl, ho, hb⟩
  have hs7 := hb.size
  have HO_w0' := Lib.hid (HO_w0.out.below hb); clear HO_w0; have HO_w0 := HO_w0'; clear HO_w0'
  have HO_w1' := Lib.hid (HO_w1.out.below hb); clear HO_w1; have HO_w1 := HO_w1'; clear HO_w1'
  have HO_xa' := Lib.hid (HO_xa.out.below hb); clear HO_xa; have HO_xa := HO_xa'; clear HO_xa'
  have HO_g0' := Lib.hid (HO_g0.out.below hb); clear HO_g0; have HO_g0 := HO_g0'; clear HO_g0'
  have HO_g1' := Lib.hid (HO_g1.out.below hb); clear HO_g1; have HO_g1 := HO_g1'; clear HO_g1'
  have HB7 := Lib.hid (HB6.out.trans (hb.mono HB6.out.size)); clear hb HB6
  have HO_ya := Lib.hid ho; clear ho
  go_wp2_with fail
  refine (eqS_same _ _ _ _ _ z_a _ _ _ l_a HO_xa.out.rd HO_ya.out.rd).mono ?_
  rintro e w8 ⟨rfl, hb⟩
  have hs8 := hb.size
  have HO_w0' := Lib.hid (HO_w0.out.below hb); clear HO_w0; have HO_w0 := HO_w0'; clear HO_w0'
  have HO_w1' := Lib.hid (HO_w1.out.below hb); clear HO_w1; have HO_w1 := HO_w1'; clear HO_w1'
  have HO_xa' := Lib.hid (HO_xa.out.below hb); clear HO_xa; have HO_xa := HO_xa'; clear HO_xa'
  have HO_g0' := Lib.hid (HO_g0.out.below hb); clear HO_g0; have HO_g0 := HO_g0'; clear HO_g0'
  have HO_g1' := Lib.hid (HO_g1.out.below hb); clear HO_g1; have HO_g1 := HO_g1'; clear HO_g1'
  have HO_ya' := Lib.hid (HO_ya.out.below hb); clear HO_ya; have HO_ya := HO_ya'; clear HO_ya'
  have HB8 := Lib.hid (HB7.out.trans (hb.mono HB7.out.size)); clear hb HB7
  clear HO_ya
  go_wp2_with fail
  refine (markS_any _ _ _ z_a w2.heap.size w3.heap.size _ _ l_a (by omega) (by omega) HO_xa.out).mono ?_
  rintro e w9 ⟨rfl, ho, hc, hq⟩
  have hs9 := hc.size
  have HO_w0' := Lib.hid (HO_w0.out.ch hc (by omega)); clear HO_w0; have HO_w0 := HO_w0'; clear HO_w0'
  have HO_w1' := Lib.hid (HO_w1.out.ch hc (by omega)); clear HO_w1; have HO_w1 := HO_w1'; clear HO_w1'
  have HO_g0' := Lib.hid (HO_g0.out.ch hc (by omega)); clear HO_g0; have HO_g0 := HO_g0'; clear HO_g0'
  have HO_g1' := Lib.hid (HO_g1.out.ch hc (by omega)); clear HO_g1; have HO_g1 := HO_g1'; clear HO_g1'
  clear HO_xa; have HO_xa := Lib.hid ho; clear ho hq
  have HB9 := Lib.hid (HB8.out.trans (hc.below (B := w.heap.size) (by omega) (by omega))); clear hc HB8
  go_wp2_with fail
  refine (eqS_same _ _ _ _ _ rz _ _ _ hn_w0 HO_g0.out.rd HO_w0.out.rd).mono ?_
  rintro e w10 ⟨rfl, hb⟩
  have hs10 := hb.size
  have HO_w0' := Lib.hid (HO_w0.out.below hb); clear HO_w0; have HO_w0 := HO_w0'; clear HO_w0'
  have HO_w1' := Lib.hid (HO_w1.out.below hb); clear HO_w1; have HO_w1 := HO_w1'; clear HO_w1'
  have HO_xa' := Lib.hid (HO_xa.out.below hb); clear HO_xa; have HO_xa := HO_xa'; clear HO_xa'
  have HO_g0' := Lib.hid (HO_g0.out.below hb); clear HO_g0; have HO_g0 := HO_g0'; clear HO_g0'
  have HO_g1' := Lib.hid (HO_g1.out.below hb); clear HO_g1; have HO_g1 := HO_g1'; clear HO_g1'
  have HB10 := Lib.hid (HB9.out.trans (hb.mono HB9.out.size)); clear hb HB9
  go_wp2_with fail
  refine (eqS_same _ _ _ _ _ ry _ _ _ hn_w1 HO_g1.out.rd HO_w1.out.rd).mono ?_
  rintro e w11 ⟨rfl, hb⟩
  have hs11 := hb.size
  have HO_w0' := Lib.hid (HO_w0.out.below hb); clear HO_w0; have HO_w0 := HO_w0'; clear HO_w0'
  have HO_w1' := Lib.hid (HO_w1.out.below hb); clear HO_w1; have HO_w1 := HO_w1'; clear HO_w1'
  have HO_xa' := Lib.hid (HO_xa.out.below hb); clear HO_xa; have HO_xa := HO_xa'; clear HO_xa'
  have HO_g0' := Lib.hid (HO_g0.out.below hb); clear HO_g0; have HO_g0 := HO_g0'; clear HO_g0'
  have HO_g1' := Lib.hid (HO_g1.out.below hb); clear HO_g1; have HO_g1 := HO_g1'; clear HO_g1'
  have HB11 := Lib.hid (HB10.out.trans (hb.mono HB10.out.size)); clear hb HB10
  go_wp2_with fail
  refine (markS_any _ _ _ rz w3.heap.size w4.heap.size _ _ hn_w0 (by omega) (by omega) HO_g0.out).mono ?_
  rintro e w12 ⟨rfl, ho, hc, hq⟩
  have hs12 := hc.size
  have HO_w0' := Lib.hid (HO_w0.out.ch hc (by omega)); clear HO_w0; have HO_w0 := HO_w0'; clear HO_w0'
  have HO_w1' := Lib.hid (HO_w1.out.ch hc (by omega)); clear HO_w1; have HO_w1 := HO_w1'; clear HO_w1'
  have HO_xa' := Lib.hid (HO_xa.out.ch hc (by omega)); clear HO_xa; have HO_xa := HO_xa'; clear HO_xa'
  have HO_g1' := Lib.hid (hq _ _ _ _ _ HP_g.out HO_g1.out); clear HO_g1; have HO_g1 := HO_g1'; clear HO_g1'
  clear HO_g0; have HO_g0 := Lib.hid ho; clear ho hq
  have HB12 := Lib.hid (HB11.out.trans (hc.below (B := w.heap.size) (by omega) (by omega))); clear hc HB11
  go_wp2_with fail
  refine (markS_any _ _ _ ry w3.heap.size w4.heap.size _ _ hn_w1 (by omega) (by omega) HO_g1.out).mono ?_
  rintro e w13 ⟨rfl, ho, hc, hq⟩
  have hs13 := hc.size
  have HO_w0' := Lib.hid (HO_w0.out.ch hc (by omega)); clear HO_w0; have HO_w0 := HO_w0'; clear HO_w0'
  have HO_w1' := Lib.hid (HO_w1.out.ch hc (by omega)); clear HO_w1; have HO_w1 := HO_w1'; clear HO_w1'
  have HO_xa' := Lib.hid (HO_xa.out.ch hc (by omega)); clear HO_xa; have HO_xa := HO_xa'; clear HO_xa'
  have HO_g0' := Lib.hid (hq _ _ _ _ _ HP_g.out.symm HO_g0.out); clear HO_g0; have HO_g0 := HO_g0'; clear HO_g0'
  clear HO_g1; have HO_g1 := Lib.hid ho; clear ho hq
  have HB13 := Lib.hid (HB12.out.trans (hc.below (B := w.heap.size) (by omega) (by omega))); clear hc HB12
  go_wp2_with fail
  refine (heldS_any _ _ _ _ _ _ hn_w0 (by omega) (by omega) HO_g0.out.rd).mono ?_
  rintro e w14 ⟨rfl, hb⟩
  have hs14 := hb.size
  have HO_w0' := Lib.hid (HO_w0.out.below hb); clear HO_w0; have HO_w0 := HO_w0'; clear HO_w0'
  have HO_w1' := Lib.hid (HO_w1.out.below hb); clear HO_w1; have HO_w1 := HO_w1'; clear HO_w1'
  have HO_xa' := Lib.hid (HO_xa.out.below hb); clear HO_xa; have HO_xa := HO_xa'; clear HO_xa'
  have HO_g0' := Lib.hid (HO_g0.out.below hb); clear HO_g0; have HO_g0 := HO_g0'; clear HO_g0'
  have HO_g1' := Lib.hid (HO_g1.out.below hb); clear HO_g1; have HO_g1 := HO_g1'; clear HO_g1'
  have HB14 := Lib.hid (HB13.out.trans (hb.mono HB13.out.size)); clear hb HB13
  go_wp2_with fail
  refine (heldS_any _ _ _ _ _ _ hn_w1 (by omega) (by omega) HO_g1.out.rd).mono ?_
  rintro e w15 ⟨rfl, hb⟩
  have hs15 := hb.size
  have HO_w0' := Lib.hid (HO_w0.out.below hb); clear HO_w0; have HO_w0 := HO_w0'; clear HO_w0'
  have HO_w1' := Lib.hid (HO_w1.out.below hb); clear HO_w1; have HO_w1 := HO_w1'; clear HO_w1'
  have HO_xa' := Lib.hid (HO_xa.out.below hb); clear HO_xa; have HO_xa := HO_xa'; clear HO_xa'
  have HO_g0' := Lib.hid (HO_g0.out.below hb); clear HO_g0; have HO_g0 := HO_g0'; clear HO_g0'
  have HO_g1' := Lib.hid (HO_g1.out.below hb); clear HO_g1; have HO_g1 := HO_g1'; clear HO_g1'
  have HB15 := Lib.hid (HB14.out.trans (hb.mono HB14.out.size)); clear hb HB14
  clear HO_xa
  go_wp2_with fail
  refine (toS_any A_a n_a c_a z_a w.heap.size _ l_a (HR_a.out.belowB HB15.out (Nat.le_refl _))).mono ?_
  rintro e w16 ⟨g16, rfl, ho, hb⟩
  have hs16 := hb.size
  have HO_w0' := Lib.hid (HO_w0.out.below hb); clear HO_w0; have HO_w0 := HO_w0'; clear HO_w0'
  have HO_w1' := Lib.hid (HO_w1.out.below hb); clear HO_w1; have HO_w1 := HO_w1'; clear HO_w1'
  have HO_g0' := Lib.hid (HO_g0.out.below hb); clear HO_g0; have HO_g0 := HO_g0'; clear HO_g0'
  have HO_g1' := Lib.hid (HO_g1.out.below hb); clear HO_g1; have HO_g1 := HO_g1'; clear HO_g1'
  have HB16 := Lib.hid (HB15.out.trans (hb.mono HB15.out.size)); clear hb HB15
  have HO_va := Lib.hid ho; clear ho
  go_wp2_with fail
  refine (HI.out _ _ _ _ (Nat.le_refl _) HO_va.out.rd).mono ?_
  rintro e w17 ⟨A_h0, n_h0, c_h0, A_h1, n_h1, c_h1, rfl, ho, ho1, hap, hn_h0, hn_h1, hb⟩
  have hs17 := hb.size
  have HO_w0' := Lib.hid (HO_w0.out.below hb); clear HO_w0; have HO_w0 := HO_w0'; clear HO_w0'
  have HO_w1' := Lib.hid (HO_w1.out.below hb); clear HO_w1; have HO_w1 := HO_w1'; clear HO_w1'
  have HO_g0' := Lib.hid (HO_g0.out.below hb); clear HO_g0; have HO_g0 := HO_g0'; clear HO_g0'
  have HO_g1' := Lib.hid (HO_g1.out.below hb); clear HO_g1; have HO_g1 := HO_g1'; clear HO_g1'
  have HO_va' := Lib.hid (HO_va.out.below hb); clear HO_va; have HO_va := HO_va'; clear HO_va'
  have HB17 := Lib.hid (HB16.out.trans (hb.mono HB16.out.size)); clear hb HB16
  have HO_h0 := Lib.hid ho; clear ho
  have HO_h1 := Lib.hid ho1; clear ho1
  have HP_h := Lib.hid hap; clear hap
  obtain rfl : n_w0 = n_h0 := HO_w0.out.len.symm.trans HO_h0.out.len
  obtain rfl : n_w1 = n_h1 := HO_w1.out.len.symm.trans HO_h1.out.len
  go_wp2_with fail
  refine (eqS_same _ _ _ _ _ rz _ _ _ hn_w0 HO_h0.out.rd HO_w0.out.rd).mono ?_
  rintro e w18 ⟨rfl, hb⟩
  have hs18 := hb.size
  have HO_w0' := Lib.hid (HO_w0.out.below hb); clear HO_w0; have HO_w0 := HO_w0'; clear HO_w0'
  have HO_w1' := Lib.hid (HO_w1.out.below hb); clear HO_w1; have HO_w1 := HO_w1'; clear HO_w1'
  have HO_g0' := Lib.hid (HO_g0.out.below hb); clear HO_g0; have HO_g0 := HO_g0'; clear HO_g0'
  have HO_g1' := Lib.hid (HO_g1.out.below hb); clear HO_g1; have HO_g1 := HO_g1'; clear HO_g1'
  have HO_va' := Lib.hid (HO_va.out.below hb); clear HO_va; have HO_va := HO_va'; clear HO_va'
  have HO_h0' := Lib.hid (HO_h0.out.below hb); clear HO_h0; have HO_h0 := HO_h0'; clear HO_h0'
  have HO_h1' := Lib.hid (HO_h1.out.below hb); clear HO_h1; have HO_h1 := HO_h1'; clear HO_h1'
  have HB18 := Lib.hid (HB17.out.trans (hb.mono HB17.out.size)); clear hb HB17
  go_wp2_with fail
  refine (eqS_same _ _ _ _ _ ry _ _ _ hn_w1 HO_h1.out.rd HO_w1.out.rd).mono ?_
  rintro e w19 ⟨rfl, hb⟩
  have hs19 := hb.size
  have HO_w0' := Lib.hid (HO_w0.out.below hb); clear HO_w0; have HO_w0 := HO_w0'; clear HO_w0'
  have HO_w1' := Lib.hid (HO_w1.out.below hb); clear HO_w1; have HO_w1 := HO_w1'; clear HO_w1'
  have HO_g0' := Lib.hid (HO_g0.out.below hb); clear HO_g0; have HO_g0 := HO_g0'; clear HO_g0'
  have HO_g1' := Lib.hid (HO_g1.out.below hb); clear HO_g1; have HO_g1 := HO_g1'; clear HO_g1'
  have HO_va' := Lib.hid (HO_va.out.below hb); clear HO_va; have HO_va := HO_va'; clear HO_va'
  have HO_h0' := Lib.hid (HO_h0.out.below hb); clear HO_h0; have HO_h0 := HO_h0'; clear HO_h0'
  have HO_h1' := Lib.hid (HO_h1.out.below hb); clear HO_h1; have HO_h1 := HO_h1'; clear HO_h1'
  have HB19 := Lib.hid (HB18.out.trans (hb.mono HB18.out.size)); clear hb HB18
  go_wp2_with fail
  refine (heldS_any _ _ _ _ _ _ hn_w0 (by omega) (by omega) HO_g0.out.rd).mono ?_
  rintro e w20 ⟨rfl, hb⟩
  have hs20 := hb.size
  have HO_w0' := Lib.hid (HO_w0.out.below hb); clear HO_w0; have HO_w0 := HO_w0'; clear HO_w0'
  have HO_w1' := Lib.hid (HO_w1.out.below hb); clear HO_w1; have HO_w1 := HO_w1'; clear HO_w1'
  have HO_g0' := Lib.hid (HO_g0.out.below hb); clear HO_g0; have HO_g0 := HO_g0'; clear HO_g0'
  have HO_g1' := Lib.hid (HO_g1.out.below hb); clear HO_g1; have HO_g1 := HO_g1'; clear HO_g1'
  have HO_va' := Lib.hid (HO_va.out.below hb); clear HO_va; have HO_va := HO_va'; clear HO_va'
  have HO_h0' := Lib.hid (HO_h0.out.below hb); clear HO_h0; have HO_h0 := HO_h0'; clear HO_h0'
  have HO_h1' := Lib.hid (HO_h1.out.below hb); clear HO_h1; have HO_h1 := HO_h1'; clear HO_h1'
  have HB20 := Lib.hid (HB19.out.trans (hb.mono HB19.out.size)); clear hb HB19
  go_wp2_with fail
  refine (heldS_any _ _ _ _ _ _ hn_w1 (by omega) (by omega) HO_g1.out.rd).mono ?_
  rintro e w21 ⟨rfl, hb⟩
  have hs21 := hb.size
  have HO_w0' := Lib.hid (HO_w0.out.below hb); clear HO_w0; have HO_w0 := HO_w0'; clear HO_w0'
  have HO_w1' := Lib.hid (HO_w1.out.below hb); clear HO_w1; have HO_w1 := HO_w1'; clear HO_w1'
  have HO_g0' := Lib.hid (HO_g0.out.below hb); clear HO_g0; have HO_g0 := HO_g0'; clear HO_g0'
  have HO_g1' := Lib.hid (HO_g1.out.below hb); clear HO_g1; have HO_g1 := HO_g1'; clear HO_g1'
  have HO_va' := Lib.hid (HO_va.out.below hb); clear HO_va; have HO_va := HO_va'; clear HO_va'
  have HO_h0' := Lib.hid (HO_h0.out.below hb); clear HO_h0; have HO_h0 := HO_h0'; clear HO_h0'
  have HO_h1' := Lib.hid (HO_h1.out.below hb); clear HO_h1; have HO_h1 := HO_h1'; clear HO_h1'
  have HB21 := Lib.hid (HB20.out.trans (hb.mono HB20.out.size)); clear hb HB20
  go_wp2_with fail
  go_ret
  exact ⟨rfl, HB21.out⟩
end Go.Proofs.Yteggioppoldaaaa.Wds
