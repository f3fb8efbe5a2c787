/-
  The walk of the law of LaneWise: the code answers as the model, for all arguments; nothing that was there has changed.
-/
import Derived.Test.YteggioppoldaaaaGreatDoorLWise
namespace Go.Proofs.YteggioppoldaaaaGreatDoor.Wds
open Go.RowKit
set_option linter.unusedVariables false

set_option maxHeartbeats 2000000 in
set_option maxRecDepth 100000 in
theorem law_laneWise (op : Int) (b : Int) (A_a : Option Addr) (n_a c_a : Nat) (zz_a : List Int) (A_d : Option Addr) (n_d c_d : Nat) (zz_d : List Int) (w : World) (w_a : IsRow .i64 w A_a n_a c_a zz_a) (w_d : IsRow .i64 w A_d n_d c_d zz_d) (hErr : Err.ErrT w) :
    Calls Tryz.prog 4 #[.int .i64 op, .int .i64 b, .slice A_a n_a c_a, .slice A_d n_d c_d] w fun e w' => e = .returned (.bool true) ∧ Below w.heap.size w w' := by
  obtain ⟨z_a, hr_a⟩ : ∃ zs, Rd w w.heap.size A_a n_a zs := ⟨_, Rd.of_row w_a⟩
  have HR_a := Lib.hid hr_a; clear hr_a w_a
  obtain ⟨z_d, hr_d⟩ : ∃ zs, Rd w w.heap.size A_d n_d zs := ⟨_, Rd.of_row w_d⟩
  have HR_d := Lib.hid hr_d; clear hr_d w_d
  have HE := Lib.hid hErr; clear hErr
  by_cases l_a : n_a ≤ 1048576
  rotate_left
  · have l1 : 1048576 < n_a := by omega
    clear l_a
    go_enter Tryz.func4, Tryz.ntmps4
    go_wp2
    go_ret
    exact ⟨rfl, Below.refl _ _⟩
  by_cases l_d : n_d ≤ 1048576
  rotate_left
  · have l1 : 1048576 < n_d := by omega
    clear l_d
    go_enter Tryz.func4, Tryz.ntmps4
    go_wp2
    go_ret
    exact ⟨rfl, Below.refl _ _⟩
  have hS : ∀ (W : World) (A_a : Option Addr) (c_a : Nat) (B_a : Nat) (A_d : Option Addr) (c_d : Nat) (B_d : Nat), Rd W B_a A_a n_a z_a → Rd W B_d A_d n_d z_d → Calls Tryz.prog 22 #[.int .i64 op, .int .i64 b, .slice A_a n_a c_a, .slice A_d n_d c_d] W (Ret1 (Ln.laneWise op b z_a z_d).1 (Ln.laneWise op b z_a z_d).2 W) :=
    fun W A_a c_a B_a A_d c_d B_d r_a r_d => sLaneWise_any op b A_a n_a c_a z_a B_a A_d n_d c_d z_d B_d W l_a l_d r_a r_d
  have hI : ∀ (W : World) (A_a : Option Addr) (c_a : Nat) (B_a : Nat) (A_d : Option Addr) (c_d : Nat) (B_d : Nat), Rd W B_a A_a n_a z_a → Rd W B_d A_d n_d z_d → Err.ErrT W → Calls Tryz.prog 24 #[.int .i64 op, .int .i64 b, .slice A_a n_a c_a, .slice A_d n_d c_d] W (Ret1 (Ln.laneWise op b z_a z_d).1 (Ln.laneWise op b z_a z_d).2 W) :=
    fun W A_a c_a B_a A_d c_d B_d r_a r_d hEE => iLaneWise_any op b A_a n_a c_a z_a B_a A_d n_d c_d z_d B_d W l_a l_d r_a r_d hEE
  generalize (Ln.laneWise op b z_a z_d).1 = rz at hS hI
  generalize (Ln.laneWise op b z_a z_d).2 = ok at hS hI
  have HS := Lib.hid hS; clear hS
  have HI := Lib.hid hI; clear hI
  have HB0 : Hid (Below w.heap.size w w) := Below.refl _ _
  go_enter Tryz.func4, Tryz.ntmps4
  go_wp2_with fail
  refine (toS_any A_a n_a c_a z_a w.heap.size _ l_a (HR_a.out.belowB HB0.out (Nat.le_refl _))).mono ?_
  rintro e w1 ⟨g1, rfl, ho, hb⟩
  have hs1 := hb.size
  have HB1 := Lib.hid (HB0.out.trans (hb.mono HB0.out.size)); clear hb HB0
  have HO_ca := Lib.hid ho; clear ho
  go_wp2_with fail
  refine (toS_any A_d n_d c_d z_d w.heap.size _ l_d (HR_d.out.belowB HB1.out (Nat.le_refl _))).mono ?_
  rintro e w2 ⟨g2, rfl, ho, hb⟩
  have hs2 := hb.size
  have HO_ca' := Lib.hid (HO_ca.out.below hb); clear HO_ca; have HO_ca := HO_ca'; clear HO_ca'
  have HB2 := Lib.hid (HB1.out.trans (hb.mono HB1.out.size)); clear hb HB1
  have HO_cd := Lib.hid ho; clear ho
  go_wp2_with fail
  refine (HS.out _ _ _ _ _ _ _ HO_ca.out.rd HO_cd.out.rd).mono ?_
  rintro e w3 ⟨A_w, n_w, c_w, rfl, ho, hn_w, hb⟩
  have hs3 := hb.size
  have HO_ca' := Lib.hid (HO_ca.out.below hb); clear HO_ca; have HO_ca := HO_ca'; clear HO_ca'
  have HO_cd' := Lib.hid (HO_cd.out.below hb); clear HO_cd; have HO_cd := HO_cd'; clear HO_cd'
  have HB3 := Lib.hid (HB2.out.trans (hb.mono HB2.out.size)); clear hb HB2
  have HO_w := Lib.hid ho; clear ho
  clear HO_ca
  clear HO_cd
  go_wp2_with fail
  refine (toS_any A_a n_a c_a z_a w.heap.size _ l_a (HR_a.out.belowB HB3.out (Nat.le_refl _))).mono ?_
  rintro e w4 ⟨g4, rfl, ho, hb⟩
  have hs4 := hb.size
  have HO_w' := Lib.hid (HO_w.out.below hb); clear HO_w; have HO_w := HO_w'; clear HO_w'
  have HB4 := Lib.hid (HB3.out.trans (hb.mono HB3.out.size)); clear hb HB3
  have HO_xa := Lib.hid ho; clear ho
  go_wp2_with fail
  refine (toS_any A_d n_d c_d z_d w.heap.size _ l_d (HR_d.out.belowB HB4.out (Nat.le_refl _))).mono ?_
  rintro e w5 ⟨g5, rfl, ho, hb⟩
  have hs5 := hb.size
  have HO_w' := Lib.hid (HO_w.out.below hb); clear HO_w; have HO_w := HO_w'; clear HO_w'
  have HO_xa' := Lib.hid (HO_xa.out.below hb); clear HO_xa; have HO_xa := HO_xa'; clear HO_xa'
  have HB5 := Lib.hid (HB4.out.trans (hb.mono HB4.out.size)); clear hb HB4
  have HO_xd := Lib.hid ho; clear ho
  go_wp2_with fail
  refine (HI.out _ _ _ _ _ _ _ HO_xa.out.rd HO_xd.out.rd (HE.out.below HB5.out HE.out.lt)).mono ?_
  rintro e w6 ⟨A_g, n_g, c_g, rfl, ho, hn_g, hb⟩
  have hs6 := hb.size
  have HO_w' := Lib.hid (HO_w.out.below hb); clear HO_w; have HO_w := HO_w'; clear HO_w'
  have HO_xa' := Lib.hid (HO_xa.out.below hb); clear HO_xa; have HO_xa := HO_xa'; clear HO_xa'
  have HO_xd' := Lib.hid (HO_xd.out.below hb); clear HO_xd; have HO_xd := HO_xd'; clear HO_xd'
  have HB6 := Lib.hid (HB5.out.trans (hb.mono HB5.out.size)); clear hb HB5
  have HO_g := Lib.hid ho; clear ho
  obtain rfl : n_w = n_g := HO_w.out.len.symm.trans HO_g.out.len
  go_wp2_with fail
  refine (eqS_same _ _ _ _ _ rz _ _ _ hn_w HO_g.out.rd HO_w.out.rd).mono ?_
  rintro e w7 ⟨rfl, hb⟩
  have hs7 := hb.size
  have HO_w' := Lib.hid (HO_w.out.below hb); clear HO_w; have HO_w := HO_w'; clear HO_w'
  have HO_xa' := Lib.hid (HO_xa.out.below hb); clear HO_xa; have HO_xa := HO_xa'; clear HO_xa'
  have HO_xd' := Lib.hid (HO_xd.out.below hb); clear HO_xd; have HO_xd := HO_xd'; clear HO_xd'
  have HO_g' := Lib.hid (HO_g.out.below hb); clear HO_g; have HO_g := HO_g'; clear HO_g'
  have HB7 := Lib.hid (HB6.out.trans (hb.mono HB6.out.size)); clear hb HB6
  go_wp2_with fail
  refine (toS_any A_a n_a c_a z_a w.heap.size _ l_a (HR_a.out.belowB HB7.out (Nat.le_refl _))).mono ?_
  rintro e w8 ⟨g8, rfl, ho, hb⟩
  have hs8 := hb.size
  have HO_w' := Lib.hid (HO_w.out.below hb); clear HO_w; have HO_w := HO_w'; clear HO_w'
  have HO_xa' := Lib.hid (HO_xa.out.below hb); clear HO_xa; have HO_xa := HO_xa'; clear HO_xa'
  have HO_xd' := Lib.hid (HO_xd.out.below hb); clear HO_xd; have HO_xd := HO_xd'; clear HO_xd'
  have HO_g' := Lib.hid (HO_g.out.below hb); clear HO_g; have HO_g := HO_g'; clear HO_g'
  have HB8 := Lib.hid (HB7.out.trans (hb.mono HB7.out.size)); clear hb HB7
  have HO_ya := Lib.hid ho; clear ho
  go_wp2_with fail
  refine (eqS_same _ _ _ _ _ z_a _ _ _ l_a HO_xa.out.rd HO_ya.out.rd).mono ?_
  rintro e w9 ⟨rfl, hb⟩
  have hs9 := hb.size
  have HO_w' := Lib.hid (HO_w.out.below hb); clear HO_w; have HO_w := HO_w'; clear HO_w'
  have HO_xa' := Lib.hid (HO_xa.out.below hb); clear HO_xa; have HO_xa := HO_xa'; clear HO_xa'
  have HO_xd' := Lib.hid (HO_xd.out.below hb); clear HO_xd; have HO_xd := HO_xd'; clear HO_xd'
  have HO_g' := Lib.hid (HO_g.out.below hb); clear HO_g; have HO_g := HO_g'; clear HO_g'
  have HO_ya' := Lib.hid (HO_ya.out.below hb); clear HO_ya; have HO_ya := HO_ya'; clear HO_ya'
  have HB9 := Lib.hid (HB8.out.trans (hb.mono HB8.out.size)); clear hb HB8
  clear HO_ya
  go_wp2_with fail
  refine (toS_any A_d n_d c_d z_d w.heap.size _ l_d (HR_d.out.belowB HB9.out (Nat.le_refl _))).mono ?_
  rintro e w10 ⟨g10, rfl, ho, hb⟩
  have hs10 := hb.size
  have HO_w' := Lib.hid (HO_w.out.below hb); clear HO_w; have HO_w := HO_w'; clear HO_w'
  have HO_xa' := Lib.hid (HO_xa.out.below hb); clear HO_xa; have HO_xa := HO_xa'; clear HO_xa'
  have HO_xd' := Lib.hid (HO_xd.out.below hb); clear HO_xd; have HO_xd := HO_xd'; clear HO_xd'
  have HO_g' := Lib.hid (HO_g.out.below hb); clear HO_g; have HO_g := HO_g'; clear HO_g'
  have HB10 := Lib.hid (HB9.out.trans (hb.mono HB9.out.size)); clear hb HB9
  have HO_yd := Lib.hid ho; clear ho
  go_wp2_with fail
  refine (eqS_same _ _ _ _ _ z_d _ _ _ l_d HO_xd.out.rd HO_yd.out.rd).mono ?_
  rintro e w11 ⟨rfl, hb⟩
  have hs11 := hb.size
  have HO_w' := Lib.hid (HO_w.out.below hb); clear HO_w; have HO_w := HO_w'; clear HO_w'
  have HO_xa' := Lib.hid (HO_xa.out.below hb); clear HO_xa; have HO_xa := HO_xa'; clear HO_xa'
  have HO_xd' := Lib.hid (HO_xd.out.below hb); clear HO_xd; have HO_xd := HO_xd'; clear HO_xd'
  have HO_g' := Lib.hid (HO_g.out.below hb); clear HO_g; have HO_g := HO_g'; clear HO_g'
  have HO_yd' := Lib.hid (HO_yd.out.below hb); clear HO_yd; have HO_yd := HO_yd'; clear HO_yd'
  have HB11 := Lib.hid (HB10.out.trans (hb.mono HB10.out.size)); clear hb HB10
  clear HO_yd
  go_wp2_with fail
  refine (markS_any _ _ _ z_a w3.heap.size w4.heap.size _ _ l_a (by omega) (by omega) HO_xa.out).mono ?_
  rintro e w12 ⟨rfl, ho, hc, hq⟩
  have hs12 := hc.size
  have HO_w' := Lib.hid (HO_w.out.ch hc (by omega)); clear HO_w; have HO_w := HO_w'; clear HO_w'
  have HO_xd' := Lib.hid (HO_xd.out.ch hc (by omega)); clear HO_xd; have HO_xd := HO_xd'; clear HO_xd'
  have HO_g' := Lib.hid (HO_g.out.ch hc (by omega)); clear HO_g; have HO_g := HO_g'; clear HO_g'
  clear HO_xa; have HO_xa := Lib.hid ho; clear ho hq
  have HB12 := Lib.hid (HB11.out.trans (hc.below (B := w.heap.size) (by omega) (by omega))); clear hc HB11
  go_wp2_with fail
  refine (markS_any _ _ _ z_d w4.heap.size w5.heap.size _ _ l_d (by omega) (by omega) HO_xd.out).mono ?_
  rintro e w13 ⟨rfl, ho, hc, hq⟩
  have hs13 := hc.size
  have HO_w' := Lib.hid (HO_w.out.ch hc (by omega)); clear HO_w; have HO_w := HO_w'; clear HO_w'
  have HO_xa' := Lib.hid (HO_xa.out.ch hc (by omega)); clear HO_xa; have HO_xa := HO_xa'; clear HO_xa'
  have HO_g' := Lib.hid (HO_g.out.ch hc (by omega)); clear HO_g; have HO_g := HO_g'; clear HO_g'
  clear HO_xd; have HO_xd := Lib.hid ho; clear ho hq
  have HB13 := Lib.hid (HB12.out.trans (hc.below (B := w.heap.size) (by omega) (by omega))); clear hc HB12
  go_wp2_with fail
  refine (eqS_same _ _ _ _ _ rz _ _ _ hn_w HO_g.out.rd HO_w.out.rd).mono ?_
  rintro e w14 ⟨rfl, hb⟩
  have hs14 := hb.size
  have HO_w' := Lib.hid (HO_w.out.below hb); clear HO_w; have HO_w := HO_w'; clear HO_w'
  have HO_xa' := Lib.hid (HO_xa.out.below hb); clear HO_xa; have HO_xa := HO_xa'; clear HO_xa'
  have HO_xd' := Lib.hid (HO_xd.out.below hb); clear HO_xd; have HO_xd := HO_xd'; clear HO_xd'
  have HO_g' := Lib.hid (HO_g.out.below hb); clear HO_g; have HO_g := HO_g'; clear HO_g'
  have HB14 := Lib.hid (HB13.out.trans (hb.mono HB13.out.size)); clear hb HB13
  go_wp2_with fail
  refine (markS_any _ _ _ rz w5.heap.size w6.heap.size _ _ hn_w (by omega) (by omega) HO_g.out).mono ?_
  rintro e w15 ⟨rfl, ho, hc, hq⟩
  have hs15 := hc.size
  have HO_w' := Lib.hid (HO_w.out.ch hc (by omega)); clear HO_w; have HO_w := HO_w'; clear HO_w'
  have HO_xa' := Lib.hid (HO_xa.out.ch hc (by omega)); clear HO_xa; have HO_xa := HO_xa'; clear HO_xa'
  have HO_xd' := Lib.hid (HO_xd.out.ch hc (by omega)); clear HO_xd; have HO_xd := HO_xd'; clear HO_xd'
  clear HO_g; have HO_g := Lib.hid ho; clear ho hq
  have HB15 := Lib.hid (HB14.out.trans (hc.below (B := w.heap.size) (by omega) (by omega))); clear hc HB14
  go_wp2_with fail
  refine (heldS_any _ _ _ _ _ _ hn_w (by omega) (by omega) HO_g.out.rd).mono ?_
  rintro e w16 ⟨rfl, hb⟩
  have hs16 := hb.size
  have HO_w' := Lib.hid (HO_w.out.below hb); clear HO_w; have HO_w := HO_w'; clear HO_w'
  have HO_xa' := Lib.hid (HO_xa.out.below hb); clear HO_xa; have HO_xa := HO_xa'; clear HO_xa'
  have HO_xd' := Lib.hid (HO_xd.out.below hb); clear HO_xd; have HO_xd := HO_xd'; clear HO_xd'
  have HO_g' := Lib.hid (HO_g.out.below hb); clear HO_g; have HO_g := HO_g'; clear HO_g'
  have HB16 := Lib.hid (HB15.out.trans (hb.mono HB15.out.size)); clear hb HB15
  clear HO_xa
  clear HO_xd
  go_wp2_with fail
  refine (toS_any A_a n_a c_a z_a w.heap.size _ l_a (HR_a.out.belowB HB16.out (Nat.le_refl _))).mono ?_
  rintro e w17 ⟨g17, rfl, ho, hb⟩
  have hs17 := hb.size
  have HO_w' := Lib.hid (HO_w.out.below hb); clear HO_w; have HO_w := HO_w'; clear HO_w'
  have HO_g' := Lib.hid (HO_g.out.below hb); clear HO_g; have HO_g := HO_g'; clear HO_g'
  have HB17 := Lib.hid (HB16.out.trans (hb.mono HB16.out.size)); clear hb HB16
  have HO_va := Lib.hid ho; clear ho
  go_wp2_with fail
  refine (toS_any A_d n_d c_d z_d w.heap.size _ l_d (HR_d.out.belowB HB17.out (Nat.le_refl _))).mono ?_
  rintro e w18 ⟨g18, rfl, ho, hb⟩
  have hs18 := hb.size
  have HO_w' := Lib.hid (HO_w.out.below hb); clear HO_w; have HO_w := HO_w'; clear HO_w'
  have HO_g' := Lib.hid (HO_g.out.below hb); clear HO_g; have HO_g := HO_g'; clear HO_g'
  have HO_va' := Lib.hid (HO_va.out.below hb); clear HO_va; have HO_va := HO_va'; clear HO_va'
  have HB18 := Lib.hid (HB17.out.trans (hb.mono HB17.out.size)); clear hb HB17
  have HO_vd := Lib.hid ho; clear ho
  go_wp2_with fail
  refine (HI.out _ _ _ _ _ _ _ HO_va.out.rd HO_vd.out.rd (HE.out.below HB18.out HE.out.lt)).mono ?_
  rintro e w19 ⟨A_h, n_h, c_h, rfl, ho, hn_h, hb⟩
  have hs19 := hb.size
  have HO_w' := Lib.hid (HO_w.out.below hb); clear HO_w; have HO_w := HO_w'; clear HO_w'
  have HO_g' := Lib.hid (HO_g.out.below hb); clear HO_g; have HO_g := HO_g'; clear HO_g'
  have HO_va' := Lib.hid (HO_va.out.below hb); clear HO_va; have HO_va := HO_va'; clear HO_va'
  have HO_vd' := Lib.hid (HO_vd.out.below hb); clear HO_vd; have HO_vd := HO_vd'; clear HO_vd'
  have HB19 := Lib.hid (HB18.out.trans (hb.mono HB18.out.size)); clear hb HB18
  have HO_h := Lib.hid ho; clear ho
  obtain rfl : n_w = n_h := HO_w.out.len.symm.trans HO_h.out.len
  go_wp2_with fail
  refine (eqS_same _ _ _ _ _ rz _ _ _ hn_w HO_h.out.rd HO_w.out.rd).mono ?_
  rintro e w20 ⟨rfl, hb⟩
  have hs20 := hb.size
  have HO_w' := Lib.hid (HO_w.out.below hb); clear HO_w; have HO_w := HO_w'; clear HO_w'
  have HO_g' := Lib.hid (HO_g.out.below hb); clear HO_g; have HO_g := HO_g'; clear HO_g'
  have HO_va' := Lib.hid (HO_va.out.below hb); clear HO_va; have HO_va := HO_va'; clear HO_va'
  have HO_vd' := Lib.hid (HO_vd.out.below hb); clear HO_vd; have HO_vd := HO_vd'; clear HO_vd'
  have HO_h' := Lib.hid (HO_h.out.below hb); clear HO_h; have HO_h := HO_h'; clear HO_h'
  have HB20 := Lib.hid (HB19.out.trans (hb.mono HB19.out.size)); clear hb HB19
  go_wp2_with fail
  refine (heldS_any _ _ _ _ _ _ hn_w (by omega) (by omega) HO_g.out.rd).mono ?_
  rintro e w21 ⟨rfl, hb⟩
  have hs21 := hb.size
  have HO_w' := Lib.hid (HO_w.out.below hb); clear HO_w; have HO_w := HO_w'; clear HO_w'
  have HO_g' := Lib.hid (HO_g.out.below hb); clear HO_g; have HO_g := HO_g'; clear HO_g'
  have HO_va' := Lib.hid (HO_va.out.below hb); clear HO_va; have HO_va := HO_va'; clear HO_va'
  have HO_vd' := Lib.hid (HO_vd.out.below hb); clear HO_vd; have HO_vd := HO_vd'; clear HO_vd'
  have HO_h' := Lib.hid (HO_h.out.below hb); clear HO_h; have HO_h := HO_h'; clear HO_h'
  have HB21 := Lib.hid (HB20.out.trans (hb.mono HB20.out.size)); clear hb HB20
  go_wp2_with fail
  go_ret
  exact ⟨rfl, HB21.out⟩
end Go.Proofs.YteggioppoldaaaaGreatDoor.Wds
