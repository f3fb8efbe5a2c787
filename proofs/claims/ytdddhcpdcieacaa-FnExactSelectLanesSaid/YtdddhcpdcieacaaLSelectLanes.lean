/-
  The walk of the law of SelectLanes: the code answers as the model, for all arguments; nothing that was there has changed.
-/
import Derived.Test.YtdddhcpdcieacaaSel
namespace Go.Proofs.Ytdddhcpdcieacaa.Wds
open Go.RowKit
set_option linter.unusedVariables false

set_option maxHeartbeats 2000000 in
set_option maxRecDepth 100000 in
theorem law_selectLanes (b : Int) (A_mask : Option Addr) (n_mask c_mask : Nat) (zz_mask : List Int) (A_a : Option Addr) (n_a c_a : Nat) (zz_a : List Int) (A_d : Option Addr) (n_d c_d : Nat) (zz_d : List Int) (w : World) (w_mask : IsRow .i64 w A_mask n_mask c_mask zz_mask) (w_a : IsRow .i64 w A_a n_a c_a zz_a) (w_d : IsRow .i64 w A_d n_d c_d zz_d) :
    Calls Try.prog 5 #[.int .i64 b, .slice A_mask n_mask c_mask, .slice A_a n_a c_a, .slice A_d n_d c_d] w fun e w' => e = .returned (.bool true) ∧ Below w.heap.size w w' := by
  obtain ⟨z_mask, hr_mask⟩ : ∃ zs, Rd w w.heap.size A_mask n_mask zs := ⟨_, Rd.of_row w_mask⟩
  have HR_mask := Lib.hid hr_mask; clear hr_mask w_mask
  obtain ⟨z_a, hr_a⟩ : ∃ zs, Rd w w.heap.size A_a n_a zs := ⟨_, Rd.of_row w_a⟩
  have HR_a := Lib.hid hr_a; clear hr_a w_a
  obtain ⟨z_d, hr_d⟩ : ∃ zs, Rd w w.heap.size A_d n_d zs := ⟨_, Rd.of_row w_d⟩
  have HR_d := Lib.hid hr_d; clear hr_d w_d
  by_cases l_mask : n_mask ≤ 1048576
  rotate_left
  · have l1 : 1048576 < n_mask := by omega
    clear l_mask
    go_enter Try.func5, Try.ntmps5
    go_wp2
    go_ret
    exact ⟨rfl, Below.refl _ _⟩
  by_cases l_a : n_a ≤ 1048576
  rotate_left
  · have l1 : 1048576 < n_a := by omega
    clear l_a
    go_enter Try.func5, Try.ntmps5
    go_wp2
    go_ret
    exact ⟨rfl, Below.refl _ _⟩
  by_cases l_d : n_d ≤ 1048576
  rotate_left
  · have l1 : 1048576 < n_d := by omega
    clear l_d
    go_enter Try.func5, Try.ntmps5
    go_wp2
    go_ret
    exact ⟨rfl, Below.refl _ _⟩
  have hS : ∀ (W : World) (A_mask : Option Addr) (c_mask : Nat) (B_mask : Nat) (A_a : Option Addr) (c_a : Nat) (B_a : Nat) (A_d : Option Addr) (c_d : Nat) (B_d : Nat), Rd W B_mask A_mask n_mask z_mask → Rd W B_a A_a n_a z_a → Rd W B_d A_d n_d z_d → Calls Try.prog 17 #[.int .i64 b, .slice A_mask n_mask c_mask, .slice A_a n_a c_a, .slice A_d n_d c_d] W (Ret1 (Ln.select b z_mask z_a z_d).1 (Ln.select b z_mask z_a z_d).2 W) :=
    fun W A_mask c_mask B_mask A_a c_a B_a A_d c_d B_d r_mask r_a r_d => sSelectLanes_any b A_mask n_mask c_mask z_mask B_mask A_a n_a c_a z_a B_a A_d n_d c_d z_d B_d W l_mask l_a l_d r_mask r_a r_d
  have hI : ∀ (W : World) (A_mask : Option Addr) (c_mask : Nat) (B_mask : Nat) (A_a : Option Addr) (c_a : Nat) (B_a : Nat) (A_d : Option Addr) (c_d : Nat) (B_d : Nat), Rd W B_mask A_mask n_mask z_mask → Rd W B_a A_a n_a z_a → Rd W B_d A_d n_d z_d → Calls Try.prog 18 #[.int .i64 b, .slice A_mask n_mask c_mask, .slice A_a n_a c_a, .slice A_d n_d c_d] W (Ret1 (Ln.select b z_mask z_a z_d).1 (Ln.select b z_mask z_a z_d).2 W) :=
    fun W A_mask c_mask B_mask A_a c_a B_a A_d c_d B_d r_mask r_a r_d => iSelectLanes_any b A_mask n_mask c_mask z_mask B_mask A_a n_a c_a z_a B_a A_d n_d c_d z_d B_d W l_mask l_a l_d r_mask r_a r_d
  generalize (Ln.select b z_mask z_a z_d).1 = rz at hS hI
  generalize (Ln.select b z_mask z_a z_d).2 = ok at hS hI
  have HS := Lib.hid hS; clear hS
  have HI := Lib.hid hI; clear hI
  have HB0 : Hid (Below w.heap.size w w) := Below.refl _ _
  go_enter Try.func5, Try.ntmps5
  go_wp2_with fail
  refine (toS_any A_mask n_mask c_mask z_mask w.heap.size _ l_mask (HR_mask.out.belowB HB0.out (Nat.le_refl _))).mono ?_
  rintro e w1 ⟨g1, rfl, ho, hb⟩
  have hs1 := hb.size
  have HB1 := Lib.hid (HB0.out.trans (hb.mono HB0.out.size)); clear hb HB0
  have HO_cmask := Lib.hid ho; clear ho
  go_wp2_with fail
  refine (toS_any A_a n_a c_a z_a w.heap.size _ l_a (HR_a.out.belowB HB1.out (Nat.le_refl _))).mono ?_
  rintro e w2 ⟨g2, rfl, ho, hb⟩
  have hs2 := hb.size
  have HO_cmask' := Lib.hid (HO_cmask.out.below hb); clear HO_cmask; have HO_cmask := HO_cmask'; clear HO_cmask'
  have HB2 := Lib.hid (HB1.out.trans (hb.mono HB1.out.size)); clear hb HB1
  have HO_ca := Lib.hid ho; clear ho
  go_wp2_with fail
  refine (toS_any A_d n_d c_d z_d w.heap.size _ l_d (HR_d.out.belowB HB2.out (Nat.le_refl _))).mono ?_
  rintro e w3 ⟨g3, rfl, ho, hb⟩
  have hs3 := hb.size
  have HO_cmask' := Lib.hid (HO_cmask.out.below hb); clear HO_cmask; have HO_cmask := HO_cmask'; clear HO_cmask'
  have HO_ca' := Lib.hid (HO_ca.out.below hb); clear HO_ca; have HO_ca := HO_ca'; clear HO_ca'
  have HB3 := Lib.hid (HB2.out.trans (hb.mono HB2.out.size)); clear hb HB2
  have HO_cd := Lib.hid ho; clear ho
  go_wp2_with fail
  refine (HS.out _ _ _ _ _ _ _ _ _ _ HO_cmask.out.rd HO_ca.out.rd HO_cd.out.rd).mono ?_
  rintro e w4 ⟨A_w, n_w, c_w, rfl, ho, hn_w, hb⟩
  have hs4 := hb.size
  have HO_cmask' := Lib.hid (HO_cmask.out.below hb); clear HO_cmask; have HO_cmask := HO_cmask'; clear HO_cmask'
  have HO_ca' := Lib.hid (HO_ca.out.below hb); clear HO_ca; have HO_ca := HO_ca'; clear HO_ca'
  have HO_cd' := Lib.hid (HO_cd.out.below hb); clear HO_cd; have HO_cd := HO_cd'; clear HO_cd'
  have HB4 := Lib.hid (HB3.out.trans (hb.mono HB3.out.size)); clear hb HB3
  have HO_w := Lib.hid ho; clear ho
  clear HO_cmask
  clear HO_ca
  clear HO_cd
  go_wp2_with fail
  refine (toS_any A_mask n_mask c_mask z_mask w.heap.size _ l_mask (HR_mask.out.belowB HB4.out (Nat.le_refl _))).mono ?_
  rintro e w5 ⟨g5, rfl, ho, hb⟩
  have hs5 := hb.size
  have HO_w' := Lib.hid (HO_w.out.below hb); clear HO_w; have HO_w := HO_w'; clear HO_w'
  have HB5 := Lib.hid (HB4.out.trans (hb.mono HB4.out.size)); clear hb HB4
  have HO_xmask := Lib.hid ho; clear ho
  go_wp2_with fail
  refine (toS_any A_a n_a c_a z_a w.heap.size _ l_a (HR_a.out.belowB HB5.out (Nat.le_refl _))).mono ?_
  rintro e w6 ⟨g6, rfl, ho, hb⟩
  have hs6 := hb.size
  have HO_w' := Lib.hid (HO_w.out.below hb); clear HO_w; have HO_w := HO_w'; clear HO_w'
  have HO_xmask' := Lib.hid (HO_xmask.out.below hb); clear HO_xmask; have HO_xmask := HO_xmask'; clear HO_xmask'
  have HB6 := Lib.hid (HB5.out.trans (hb.mono HB5.out.size)); clear hb HB5
  have HO_xa := Lib.hid ho; clear ho
  go_wp2_with fail
  refine (toS_any A_d n_d c_d z_d w.heap.size _ l_d (HR_d.out.belowB HB6.out (Nat.le_refl _))).mono ?_
  rintro e w7 ⟨g7, rfl, ho, hb⟩
  have hs7 := hb.size
  have HO_w' := Lib.hid (HO_w.out.below hb); clear HO_w; have HO_w := HO_w'; clear HO_w'
  have HO_xmask' := Lib.hid (HO_xmask.out.below hb); clear HO_xmask; have HO_xmask := HO_xmask'; clear HO_xmask'
  have HO_xa' := Lib.hid (HO_xa.out.below hb); clear HO_xa; have HO_xa := HO_xa'; clear HO_xa'
  have HB7 := Lib.hid (HB6.out.trans (hb.mono HB6.out.size)); clear hb HB6
  have HO_xd := Lib.hid ho; clear ho
  go_wp2_with fail
  refine (HI.out _ _ _ _ _ _ _ _ _ _ HO_xmask.out.rd HO_xa.out.rd HO_xd.out.rd).mono ?_
  rintro e w8 ⟨A_g, n_g, c_g, rfl, ho, hn_g, hb⟩
  have hs8 := hb.size
  have HO_w' := Lib.hid (HO_w.out.below hb); clear HO_w; have HO_w := HO_w'; clear HO_w'
  have HO_xmask' := Lib.hid (HO_xmask.out.below hb); clear HO_xmask; have HO_xmask := HO_xmask'; clear HO_xmask'
  have HO_xa' := Lib.hid (HO_xa.out.below hb); clear HO_xa; have HO_xa := HO_xa'; clear HO_xa'
  have HO_xd' := Lib.hid (HO_xd.out.below hb); clear HO_xd; have HO_xd := HO_xd'; clear HO_xd'
  have HB8 := Lib.hid (HB7.out.trans (hb.mono HB7.out.size)); clear hb HB7
  have HO_g := Lib.hid ho; clear ho
  obtain rfl : n_w = n_g := HO_w.out.len.symm.trans HO_g.out.len
  go_wp2_with fail
  refine (eqS_same _ _ _ _ _ rz _ _ _ hn_w HO_g.out.rd HO_w.out.rd).mono ?_
  rintro e w9 ⟨rfl, hb⟩
  have hs9 := hb.size
  have HO_w' := Lib.hid (HO_w.out.below hb); clear HO_w; have HO_w := HO_w'; clear HO_w'
  have HO_xmask' := Lib.hid (HO_xmask.out.below hb); clear HO_xmask; have HO_xmask := HO_xmask'; clear HO_xmask'
  have HO_xa' := Lib.hid (HO_xa.out.below hb); clear HO_xa; have HO_xa := HO_xa'; clear HO_xa'
  have HO_xd' := Lib.hid (HO_xd.out.below hb); clear HO_xd; have HO_xd := HO_xd'; clear HO_xd'
  have HO_g' := Lib.hid (HO_g.out.below hb); clear HO_g; have HO_g := HO_g'; clear HO_g'
  have HB9 := Lib.hid (HB8.out.trans (hb.mono HB8.out.size)); clear hb HB8
  go_wp2_with fail
  refine (toS_any A_mask n_mask c_mask z_mask w.heap.size _ l_mask (HR_mask.out.belowB HB9.out (Nat.le_refl _))).mono ?_
  rintro e w10 ⟨g10, rfl, ho, hb⟩
  have hs10 := hb.size
  have HO_w' := Lib.hid (HO_w.out.below hb); clear HO_w; have HO_w := HO_w'; clear HO_w'
  have HO_xmask' := Lib.hid (HO_xmask.out.below hb); clear HO_xmask; have HO_xmask := HO_xmask'; clear HO_xmask'
  have HO_xa' := Lib.hid (HO_xa.out.below hb); clear HO_xa; have HO_xa := HO_xa'; clear HO_xa'
  have HO_xd' := Lib.hid (HO_xd.out.below hb); clear HO_xd; have HO_xd := HO_xd'; clear HO_xd'
  have HO_g' := Lib.hid (HO_g.out.below hb); clear HO_g; have HO_g := HO_g'; clear HO_g'
  have HB10 := Lib.hid (HB9.out.trans (hb.mono HB9.out.size)); clear hb HB9
  have HO_ymask := Lib.hid ho; clear ho
  go_wp2_with fail
  refine (eqS_same _ _ _ _ _ z_mask _ _ _ l_mask HO_xmask.out.rd HO_ymask.out.rd).mono ?_
  rintro e w11 ⟨rfl, hb⟩
  have hs11 := hb.size
  have HO_w' := Lib.hid (HO_w.out.below hb); clear HO_w; have HO_w := HO_w'; clear HO_w'
  have HO_xmask' := Lib.hid (HO_xmask.out.below hb); clear HO_xmask; have HO_xmask := HO_xmask'; clear HO_xmask'
  have HO_xa' := Lib.hid (HO_xa.out.below hb); clear HO_xa; have HO_xa := HO_xa'; clear HO_xa'
  have HO_xd' := Lib.hid (HO_xd.out.below hb); clear HO_xd; have HO_xd := HO_xd'; clear HO_xd'
  have HO_g' := Lib.hid (HO_g.out.below hb); clear HO_g; have HO_g := HO_g'; clear HO_g'
  have HO_ymask' := Lib.hid (HO_ymask.out.below hb); clear HO_ymask; have HO_ymask := HO_ymask'; clear HO_ymask'
  have HB11 := Lib.hid (HB10.out.trans (hb.mono HB10.out.size)); clear hb HB10
  clear HO_ymask
  go_wp2_with fail
  refine (toS_any A_a n_a c_a z_a w.heap.size _ l_a (HR_a.out.belowB HB11.out (Nat.le_refl _))).mono ?_
  rintro e w12 ⟨g12, rfl, ho, hb⟩
  have hs12 := hb.size
  have HO_w' := Lib.hid (HO_w.out.below hb); clear HO_w; have HO_w := HO_w'; clear HO_w'
  have HO_xmask' := Lib.hid (HO_xmask.out.below hb); clear HO_xmask; have HO_xmask := HO_xmask'; clear HO_xmask'
  have HO_xa' := Lib.hid (HO_xa.out.below hb); clear HO_xa; have HO_xa := HO_xa'; clear HO_xa'
  have HO_xd' := Lib.hid (HO_xd.out.below hb); clear HO_xd; have HO_xd := HO_xd'; clear HO_xd'
  have HO_g' := Lib.hid (HO_g.out.below hb); clear HO_g; have HO_g := HO_g'; clear HO_g'
  have HB12 := Lib.hid (HB11.out.trans (hb.mono HB11.out.size)); clear hb HB11
  have HO_ya := Lib.hid ho; clear ho
  go_wp2_with fail
  refine (eqS_same _ _ _ _ _ z_a _ _ _ l_a HO_xa.out.rd HO_ya.out.rd).mono ?_
  rintro e w13 ⟨rfl, hb⟩
  have hs13 := hb.size
  have HO_w' := Lib.hid (HO_w.out.below hb); clear HO_w; have HO_w := HO_w'; clear HO_w'
  have HO_xmask' := Lib.hid (HO_xmask.out.below hb); clear HO_xmask; have HO_xmask := HO_xmask'; clear HO_xmask'
  have HO_xa' := Lib.hid (HO_xa.out.below hb); clear HO_xa; have HO_xa := HO_xa'; clear HO_xa'
  have HO_xd' := Lib.hid (HO_xd.out.below hb); clear HO_xd; have HO_xd := HO_xd'; clear HO_xd'
  have HO_g' := Lib.hid (HO_g.out.below hb); clear HO_g; have HO_g := HO_g'; clear HO_g'
  have HO_ya' := Lib.hid (HO_ya.out.below hb); clear HO_ya; have HO_ya := HO_ya'; clear HO_ya'
  have HB13 := Lib.hid (HB12.out.trans (hb.mono HB12.out.size)); clear hb HB12
  clear HO_ya
  go_wp2_with fail
  refine (toS_any A_d n_d c_d z_d w.heap.size _ l_d (HR_d.out.belowB HB13.out (Nat.le_refl _))).mono ?_
  rintro e w14 ⟨g14, rfl, ho, hb⟩
  have hs14 := hb.size
  have HO_w' := Lib.hid (HO_w.out.below hb); clear HO_w; have HO_w := HO_w'; clear HO_w'
  have HO_xmask' := Lib.hid (HO_xmask.out.below hb); clear HO_xmask; have HO_xmask := HO_xmask'; clear HO_xmask'
  have HO_xa' := Lib.hid (HO_xa.out.below hb); clear HO_xa; have HO_xa := HO_xa'; clear HO_xa'
  have HO_xd' := Lib.hid (HO_xd.out.below hb); clear HO_xd; have HO_xd := HO_xd'; clear HO_xd'
  have HO_g' := Lib.hid (HO_g.out.below hb); clear HO_g; have HO_g := HO_g'; clear HO_g'
  have HB14 := Lib.hid (HB13.out.trans (hb.mono HB13.out.size)); clear hb HB13
  have HO_yd := Lib.hid ho; clear ho
  go_wp2_with fail
  refine (eqS_same _ _ _ _ _ z_d _ _ _ l_d HO_xd.out.rd HO_yd.out.rd).mono ?_
  rintro e w15 ⟨rfl, hb⟩
  have hs15 := hb.size
  have HO_w' := Lib.hid (HO_w.out.below hb); clear HO_w; have HO_w := HO_w'; clear HO_w'
  have HO_xmask' := Lib.hid (HO_xmask.out.below hb); clear HO_xmask; have HO_xmask := HO_xmask'; clear HO_xmask'
  have HO_xa' := Lib.hid (HO_xa.out.below hb); clear HO_xa; have HO_xa := HO_xa'; clear HO_xa'
  have HO_xd' := Lib.hid (HO_xd.out.below hb); clear HO_xd; have HO_xd := HO_xd'; clear HO_xd'
  have HO_g' := Lib.hid (HO_g.out.below hb); clear HO_g; have HO_g := HO_g'; clear HO_g'
  have HO_yd' := Lib.hid (HO_yd.out.below hb); clear HO_yd; have HO_yd := HO_yd'; clear HO_yd'
  have HB15 := Lib.hid (HB14.out.trans (hb.mono HB14.out.size)); clear hb HB14
  clear HO_yd
  go_wp2_with fail
  refine (markS_any _ _ _ z_mask w4.heap.size w5.heap.size _ _ l_mask (by omega) (by omega) HO_xmask.out).mono ?_
  rintro e w16 ⟨rfl, ho, hc, hq⟩
  have hs16 := hc.size
  have HO_w' := Lib.hid (HO_w.out.ch hc (by omega)); clear HO_w; have HO_w := HO_w'; clear HO_w'
  have HO_xa' := Lib.hid (HO_xa.out.ch hc (by omega)); clear HO_xa; have HO_xa := HO_xa'; clear HO_xa'
  have HO_xd' := Lib.hid (HO_xd.out.ch hc (by omega)); clear HO_xd; have HO_xd := HO_xd'; clear HO_xd'
  have HO_g' := Lib.hid (HO_g.out.ch hc (by omega)); clear HO_g; have HO_g := HO_g'; clear HO_g'
  clear HO_xmask; have HO_xmask := Lib.hid ho; clear ho hq
  have HB16 := Lib.hid (HB15.out.trans (hc.below (B := w.heap.size) (by omega) (by omega))); clear hc HB15
  go_wp2_with fail
  refine (markS_any _ _ _ z_a w5.heap.size w6.heap.size _ _ l_a (by omega) (by omega) HO_xa.out).mono ?_
  rintro e w17 ⟨rfl, ho, hc, hq⟩
  have hs17 := hc.size
  have HO_w' := Lib.hid (HO_w.out.ch hc (by omega)); clear HO_w; have HO_w := HO_w'; clear HO_w'
  have HO_xmask' := Lib.hid (HO_xmask.out.ch hc (by omega)); clear HO_xmask; have HO_xmask := HO_xmask'; clear HO_xmask'
  have HO_xd' := Lib.hid (HO_xd.out.ch hc (by omega)); clear HO_xd; have HO_xd := HO_xd'; clear HO_xd'
  have HO_g' := Lib.hid (HO_g.out.ch hc (by omega)); clear HO_g; have HO_g := HO_g'; clear HO_g'
  clear HO_xa; have HO_xa := Lib.hid ho; clear ho hq
  have HB17 := Lib.hid (HB16.out.trans (hc.below (B := w.heap.size) (by omega) (by omega))); clear hc HB16
  go_wp2_with fail
  refine (markS_any _ _ _ z_d w6.heap.size w7.heap.size _ _ l_d (by omega) (by omega) HO_xd.out).mono ?_
  rintro e w18 ⟨rfl, ho, hc, hq⟩
  have hs18 := hc.size
  have HO_w' := Lib.hid (HO_w.out.ch hc (by omega)); clear HO_w; have HO_w := HO_w'; clear HO_w'
  have HO_xmask' := Lib.hid (HO_xmask.out.ch hc (by omega)); clear HO_xmask; have HO_xmask := HO_xmask'; clear HO_xmask'
  have HO_xa' := Lib.hid (HO_xa.out.ch hc (by omega)); clear HO_xa; have HO_xa := HO_xa'; clear HO_xa'
  have HO_g' := Lib.hid (HO_g.out.ch hc (by omega)); clear HO_g; have HO_g := HO_g'; clear HO_g'
  clear HO_xd; have HO_xd := Lib.hid ho; clear ho hq
  have HB18 := Lib.hid (HB17.out.trans (hc.below (B := w.heap.size) (by omega) (by omega))); clear hc HB17
  go_wp2_with fail
  refine (eqS_same _ _ _ _ _ rz _ _ _ hn_w HO_g.out.rd HO_w.out.rd).mono ?_
  rintro e w19 ⟨rfl, hb⟩
  have hs19 := hb.size
  have HO_w' := Lib.hid (HO_w.out.below hb); clear HO_w; have HO_w := HO_w'; clear HO_w'
  have HO_xmask' := Lib.hid (HO_xmask.out.below hb); clear HO_xmask; have HO_xmask := HO_xmask'; clear HO_xmask'
  have HO_xa' := Lib.hid (HO_xa.out.below hb); clear HO_xa; have HO_xa := HO_xa'; clear HO_xa'
  have HO_xd' := Lib.hid (HO_xd.out.below hb); clear HO_xd; have HO_xd := HO_xd'; clear HO_xd'
  have HO_g' := Lib.hid (HO_g.out.below hb); clear HO_g; have HO_g := HO_g'; clear HO_g'
  have HB19 := Lib.hid (HB18.out.trans (hb.mono HB18.out.size)); clear hb HB18
  go_wp2_with fail
  refine (markS_any _ _ _ rz w7.heap.size w8.heap.size _ _ hn_w (by omega) (by omega) HO_g.out).mono ?_
  rintro e w20 ⟨rfl, ho, hc, hq⟩
  have hs20 := hc.size
  have HO_w' := Lib.hid (HO_w.out.ch hc (by omega)); clear HO_w; have HO_w := HO_w'; clear HO_w'
  have HO_xmask' := Lib.hid (HO_xmask.out.ch hc (by omega)); clear HO_xmask; have HO_xmask := HO_xmask'; clear HO_xmask'
  have HO_xa' := Lib.hid (HO_xa.out.ch hc (by omega)); clear HO_xa; have HO_xa := HO_xa'; clear HO_xa'
  have HO_xd' := Lib.hid (HO_xd.out.ch hc (by omega)); clear HO_xd; have HO_xd := HO_xd'; clear HO_xd'
  clear HO_g; have HO_g := Lib.hid ho; clear ho hq
  have HB20 := Lib.hid (HB19.out.trans (hc.below (B := w.heap.size) (by omega) (by omega))); clear hc HB19
  go_wp2_with fail
  refine (heldS_any _ _ _ _ _ _ hn_w (by omega) (by omega) HO_g.out.rd).mono ?_
  rintro e w21 ⟨rfl, hb⟩
  have hs21 := hb.size
  have HO_w' := Lib.hid (HO_w.out.below hb); clear HO_w; have HO_w := HO_w'; clear HO_w'
  have HO_xmask' := Lib.hid (HO_xmask.out.below hb); clear HO_xmask; have HO_xmask := HO_xmask'; clear HO_xmask'
  have HO_xa' := Lib.hid (HO_xa.out.below hb); clear HO_xa; have HO_xa := HO_xa'; clear HO_xa'
  have HO_xd' := Lib.hid (HO_xd.out.below hb); clear HO_xd; have HO_xd := HO_xd'; clear HO_xd'
  have HO_g' := Lib.hid (HO_g.out.below hb); clear HO_g; have HO_g := HO_g'; clear HO_g'
  have HB21 := Lib.hid (HB20.out.trans (hb.mono HB20.out.size)); clear hb HB20
  clear HO_xmask
  clear HO_xa
  clear HO_xd
  go_wp2_with fail
  refine (toS_any A_mask n_mask c_mask z_mask w.heap.size _ l_mask (HR_mask.out.belowB HB21.out (Nat.le_refl _))).mono ?_
  rintro e w22 ⟨g22, rfl, ho, hb⟩
  have hs22 := hb.size
  have HO_w' := Lib.hid (HO_w.out.below hb); clear HO_w; have HO_w := HO_w'; clear HO_w'
  have HO_g' := Lib.hid (HO_g.out.below hb); clear HO_g; have HO_g := HO_g'; clear HO_g'
  have HB22 := Lib.hid (HB21.out.trans (hb.mono HB21.out.size)); clear hb HB21
  have HO_vmask := Lib.hid ho; clear ho
  go_wp2_with fail
  refine (toS_any A_a n_a c_a z_a w.heap.size _ l_a (HR_a.out.belowB HB22.out (Nat.le_refl _))).mono ?_
  rintro e w23 ⟨g23, rfl, ho, hb⟩
  have hs23 := hb.size
  have HO_w' := Lib.hid (HO_w.out.below hb); clear HO_w; have HO_w := HO_w'; clear HO_w'
  have HO_g' := Lib.hid (HO_g.out.below hb); clear HO_g; have HO_g := HO_g'; clear HO_g'
  have HO_vmask' := Lib.hid (HO_vmask.out.below hb); clear HO_vmask; have HO_vmask := HO_vmask'; clear HO_vmask'
  have HB23 := Lib.hid (HB22.out.trans (hb.mono HB22.out.size)); clear hb HB22
  have HO_va := Lib.hid ho; clear ho
  go_wp2_with fail
  refine (toS_any A_d n_d c_d z_d w.heap.size _ l_d (HR_d.out.belowB HB23.out (Nat.le_refl _))).mono ?_
  rintro e w24 ⟨g24, rfl, ho, hb⟩
  have hs24 := hb.size
  have HO_w' := Lib.hid (HO_w.out.below hb); clear HO_w; have HO_w := HO_w'; clear HO_w'
  have HO_g' := Lib.hid (HO_g.out.below hb); clear HO_g; have HO_g := HO_g'; clear HO_g'
  have HO_vmask' := Lib.hid (HO_vmask.out.below hb); clear HO_vmask; have HO_vmask := HO_vmask'; clear HO_vmask'
  have HO_va' := Lib.hid (HO_va.out.below hb); clear HO_va; have HO_va := HO_va'; clear HO_va'
  have HB24 := Lib.hid (HB23.out.trans (hb.mono HB23.out.size)); clear hb HB23
  have HO_vd := Lib.hid ho; clear ho
  go_wp2_with fail
  refine (HI.out _ _ _ _ _ _ _ _ _ _ HO_vmask.out.rd HO_va.out.rd HO_vd.out.rd).mono ?_
  rintro e w25 ⟨A_h, n_h, c_h, rfl, ho, hn_h, hb⟩
  have hs25 := hb.size
  have HO_w' := Lib.hid (HO_w.out.below hb); clear HO_w; have HO_w := HO_w'; clear HO_w'
  have HO_g' := Lib.hid (HO_g.out.below hb); clear HO_g; have HO_g := HO_g'; clear HO_g'
  have HO_vmask' := Lib.hid (HO_vmask.out.below hb); clear HO_vmask; have HO_vmask := HO_vmask'; clear HO_vmask'
  have HO_va' := Lib.hid (HO_va.out.below hb); clear HO_va; have HO_va := HO_va'; clear HO_va'
  have HO_vd' := Lib.hid (HO_vd.out.below hb); clear HO_vd; have HO_vd := HO_vd'; clear HO_vd'
  have HB25 := Lib.hid (HB24.out.trans (hb.mono HB24.out.size)); clear hb HB24
  have HO_h := Lib.hid ho; clear ho
  obtain rfl : n_w = n_h := HO_w.out.len.symm.trans HO_h.out.len
  go_wp2_with fail
  refine (eqS_same _ _ _ _ _ rz _ _ _ hn_w HO_h.out.rd HO_w.out.rd).mono ?_
  rintro e w26 ⟨rfl, hb⟩
  have hs26 := hb.size
  have HO_w' := Lib.hid (HO_w.out.below hb); clear HO_w; have HO_w := HO_w'; clear HO_w'
  have HO_g' := Lib.hid (HO_g.out.below hb); clear HO_g; have HO_g := HO_g'; clear HO_g'
  have HO_vmask' := Lib.hid (HO_vmask.out.below hb); clear HO_vmask; have HO_vmask := HO_vmask'; clear HO_vmask'
  have HO_va' := Lib.hid (HO_va.out.below hb); clear HO_va; have HO_va := HO_va'; clear HO_va'
  have HO_vd' := Lib.hid (HO_vd.out.below hb); clear HO_vd; have HO_vd := HO_vd'; clear HO_vd'
  have HO_h' := Lib.hid (HO_h.out.below hb); clear HO_h; have HO_h := HO_h'; clear HO_h'
  have HB26 := Lib.hid (HB25.out.trans (hb.mono HB25.out.size)); clear hb HB25
  go_wp2_with fail
  refine (heldS_any _ _ _ _ _ _ hn_w (by omega) (by omega) HO_g.out.rd).mono ?_
  rintro e w27 ⟨rfl, hb⟩
  have hs27 := hb.size
  have HO_w' := Lib.hid (HO_w.out.below hb); clear HO_w; have HO_w := HO_w'; clear HO_w'
  have HO_g' := Lib.hid (HO_g.out.below hb); clear HO_g; have HO_g := HO_g'; clear HO_g'
  have HO_vmask' := Lib.hid (HO_vmask.out.below hb); clear HO_vmask; have HO_vmask := HO_vmask'; clear HO_vmask'
  have HO_va' := Lib.hid (HO_va.out.below hb); clear HO_va; have HO_va := HO_va'; clear HO_va'
  have HO_vd' := Lib.hid (HO_vd.out.below hb); clear HO_vd; have HO_vd := HO_vd'; clear HO_vd'
  have HO_h' := Lib.hid (HO_h.out.below hb); clear HO_h; have HO_h := HO_h'; clear HO_h'
  have HB27 := Lib.hid (HB26.out.trans (hb.mono HB26.out.size)); clear hb HB26
  go_wp2_with fail
  go_ret
  exact ⟨rfl, HB27.out⟩
end Go.Proofs.Ytdddhcpdcieacaa.Wds
