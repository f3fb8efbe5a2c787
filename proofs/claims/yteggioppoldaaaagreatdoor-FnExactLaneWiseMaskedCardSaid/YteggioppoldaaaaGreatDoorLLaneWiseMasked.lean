/-
  The walk of the law of LaneWiseMasked: the code answers as the model, for all arguments; nothing that was there has changed.
-/
import Derived.Test.YteggioppoldaaaaGreatDoorLWM
namespace Go.Proofs.YteggioppoldaaaaGreatDoor.Wds
open Go.RowKit
set_option linter.unusedVariables false

set_option maxHeartbeats 2000000 in
set_option maxRecDepth 100000 in
theorem law_laneWiseMasked (op : Int) (b : Int) (A_mask : Option Addr) (n_mask c_mask : Nat) (zz_mask : List Int) (A_old : Option Addr) (n_old c_old : Nat) (zz_old : List Int) (A_a : Option Addr) (n_a c_a : Nat) (zz_a : List Int) (A_d : Option Addr) (n_d c_d : Nat) (zz_d : List Int) (w : World) (w_mask : IsRow .i64 w A_mask n_mask c_mask zz_mask) (w_old : IsRow .i64 w A_old n_old c_old zz_old) (w_a : IsRow .i64 w A_a n_a c_a zz_a) (w_d : IsRow .i64 w A_d n_d c_d zz_d) (hErr : Err.ErrT w) :
    Calls Tryz.prog 5 #[.int .i64 op, .int .i64 b, .slice A_mask n_mask c_mask, .slice A_old n_old c_old, .slice A_a n_a c_a, .slice A_d n_d c_d] w fun e w' => e = .returned (.bool true) ∧ Below w.heap.size w w' := by
  obtain ⟨z_mask, hr_mask⟩ : ∃ zs, Rd w w.heap.size A_mask n_mask zs := ⟨_, Rd.of_row w_mask⟩
  have HR_mask := Lib.hid hr_mask; clear hr_mask w_mask
  obtain ⟨z_old, hr_old⟩ : ∃ zs, Rd w w.heap.size A_old n_old zs := ⟨_, Rd.of_row w_old⟩
  have HR_old := Lib.hid hr_old; clear hr_old w_old
  obtain ⟨z_a, hr_a⟩ : ∃ zs, Rd w w.heap.size A_a n_a zs := ⟨_, Rd.of_row w_a⟩
  have HR_a := Lib.hid hr_a; clear hr_a w_a
  obtain ⟨z_d, hr_d⟩ : ∃ zs, Rd w w.heap.size A_d n_d zs := ⟨_, Rd.of_row w_d⟩
  have HR_d := Lib.hid hr_d; clear hr_d w_d
  have HE := Lib.hid hErr; clear hErr
  by_cases l_mask : n_mask ≤ 1048576
  rotate_left
  · have l1 : 1048576 < n_mask := by omega
    clear l_mask
    go_enter Tryz.func5, Tryz.ntmps5
    go_wp2
    go_ret
    exact ⟨rfl, Below.refl _ _⟩
  by_cases l_old : n_old ≤ 1048576
  rotate_left
  · have l1 : 1048576 < n_old := by omega
    clear l_old
    go_enter Tryz.func5, Tryz.ntmps5
    go_wp2
    go_ret
    exact ⟨rfl, Below.refl _ _⟩
  by_cases l_a : n_a ≤ 1048576
  rotate_left
  · have l1 : 1048576 < n_a := by omega
    clear l_a
    go_enter Tryz.func5, Tryz.ntmps5
    go_wp2
    go_ret
    exact ⟨rfl, Below.refl _ _⟩
  by_cases l_d : n_d ≤ 1048576
  rotate_left
  · have l1 : 1048576 < n_d := by omega
    clear l_d
    go_enter Tryz.func5, Tryz.ntmps5
    go_wp2
    go_ret
    exact ⟨rfl, Below.refl _ _⟩
  have hS : ∀ (W : World) (A_mask : Option Addr) (c_mask : Nat) (B_mask : Nat) (A_old : Option Addr) (c_old : Nat) (B_old : Nat) (A_a : Option Addr) (c_a : Nat) (B_a : Nat) (A_d : Option Addr) (c_d : Nat) (B_d : Nat), Rd W B_mask A_mask n_mask z_mask → Rd W B_old A_old n_old z_old → Rd W B_a A_a n_a z_a → Rd W B_d A_d n_d z_d → Calls Tryz.prog 28 #[.int .i64 op, .int .i64 b, .slice A_mask n_mask c_mask, .slice A_old n_old c_old, .slice A_a n_a c_a, .slice A_d n_d c_d] W (Ret1 (Ln.laneWiseMasked op b z_mask z_old z_a z_d).1 (Ln.laneWiseMasked op b z_mask z_old z_a z_d).2 W) :=
    fun W A_mask c_mask B_mask A_old c_old B_old A_a c_a B_a A_d c_d B_d r_mask r_old r_a r_d => sLaneWiseMasked_any op b A_mask n_mask c_mask z_mask B_mask A_old n_old c_old z_old B_old A_a n_a c_a z_a B_a A_d n_d c_d z_d B_d W l_mask l_old l_a l_d r_mask r_old r_a r_d
  have hI : ∀ (W : World) (A_mask : Option Addr) (c_mask : Nat) (B_mask : Nat) (A_old : Option Addr) (c_old : Nat) (B_old : Nat) (A_a : Option Addr) (c_a : Nat) (B_a : Nat) (A_d : Option Addr) (c_d : Nat) (B_d : Nat), Rd W B_mask A_mask n_mask z_mask → Rd W B_old A_old n_old z_old → Rd W B_a A_a n_a z_a → Rd W B_d A_d n_d z_d → Err.ErrT W → Calls Tryz.prog 29 #[.int .i64 op, .int .i64 b, .slice A_mask n_mask c_mask, .slice A_old n_old c_old, .slice A_a n_a c_a, .slice A_d n_d c_d] W (Ret1 (Ln.laneWiseMasked op b z_mask z_old z_a z_d).1 (Ln.laneWiseMasked op b z_mask z_old z_a z_d).2 W) :=
    fun W A_mask c_mask B_mask A_old c_old B_old A_a c_a B_a A_d c_d B_d r_mask r_old r_a r_d hEE => iLaneWiseMasked_any op b A_mask n_mask c_mask z_mask B_mask A_old n_old c_old z_old B_old A_a n_a c_a z_a B_a A_d n_d c_d z_d B_d W l_mask l_old l_a l_d r_mask r_old r_a r_d hEE
  generalize (Ln.laneWiseMasked op b z_mask z_old z_a z_d).1 = rz at hS hI
  generalize (Ln.laneWiseMasked op b z_mask z_old z_a z_d).2 = ok at hS hI
  have HS := Lib.hid hS; clear hS
  have HI := Lib.hid hI; clear hI
  have HB0 : Hid (Below w.heap.size w w) := Below.refl _ _
  go_enter Tryz.func5, Tryz.ntmps5
  go_wp2_with fail
  refine (toS_any A_mask n_mask c_mask z_mask w.heap.size _ l_mask (HR_mask.out.belowB HB0.out (Nat.le_refl _))).mono ?_
  rintro e w1 ⟨g1, rfl, ho, hb⟩
  have hs1 := hb.size
  have HB1 := Lib.hid (HB0.out.trans (hb.mono HB0.out.size)); clear hb HB0
  have HO_cmask := Lib.hid ho; clear ho
  go_wp2_with fail
  refine (toS_any A_old n_old c_old z_old w.heap.size _ l_old (HR_old.out.belowB HB1.out (Nat.le_refl _))).mono ?_
  rintro e w2 ⟨g2, rfl, ho, hb⟩
  have hs2 := hb.size
  have HO_cmask' := Lib.hid (HO_cmask.out.below hb); clear HO_cmask; have HO_cmask := HO_cmask'; clear HO_cmask'
  have HB2 := Lib.hid (HB1.out.trans (hb.mono HB1.out.size)); clear hb HB1
  have HO_cold := Lib.hid ho; clear ho
  go_wp2_with fail
  refine (toS_any A_a n_a c_a z_a w.heap.size _ l_a (HR_a.out.belowB HB2.out (Nat.le_refl _))).mono ?_
  rintro e w3 ⟨g3, rfl, ho, hb⟩
  have hs3 := hb.size
  have HO_cmask' := Lib.hid (HO_cmask.out.below hb); clear HO_cmask; have HO_cmask := HO_cmask'; clear HO_cmask'
  have HO_cold' := Lib.hid (HO_cold.out.below hb); clear HO_cold; have HO_cold := HO_cold'; clear HO_cold'
  have HB3 := Lib.hid (HB2.out.trans (hb.mono HB2.out.size)); clear hb HB2
  have HO_ca := Lib.hid ho; clear ho
  go_wp2_with fail
  refine (toS_any A_d n_d c_d z_d w.heap.size _ l_d (HR_d.out.belowB HB3.out (Nat.le_refl _))).mono ?_
  rintro e w4 ⟨g4, rfl, ho, hb⟩
  have hs4 := hb.size
  have HO_cmask' := Lib.hid (HO_cmask.out.below hb); clear HO_cmask; have HO_cmask := HO_cmask'; clear HO_cmask'
  have HO_cold' := Lib.hid (HO_cold.out.below hb); clear HO_cold; have HO_cold := HO_cold'; clear HO_cold'
  have HO_ca' := Lib.hid (HO_ca.out.below hb); clear HO_ca; have HO_ca := HO_ca'; clear HO_ca'
  have HB4 := Lib.hid (HB3.out.trans (hb.mono HB3.out.size)); clear hb HB3
  have HO_cd := Lib.hid ho; clear ho
  go_wp2_with fail
  refine (HS.out _ _ _ _ _ _ _ _ _ _ _ _ _ HO_cmask.out.rd HO_cold.out.rd HO_ca.out.rd HO_cd.out.rd).mono ?_
  rintro e w5 ⟨A_w, n_w, c_w, rfl, ho, hn_w, hb⟩
  have hs5 := hb.size
  have HO_cmask' := Lib.hid (HO_cmask.out.below hb); clear HO_cmask; have HO_cmask := HO_cmask'; clear HO_cmask'
  have HO_cold' := Lib.hid (HO_cold.out.below hb); clear HO_cold; have HO_cold := HO_cold'; clear HO_cold'
  have HO_ca' := Lib.hid (HO_ca.out.below hb); clear HO_ca; have HO_ca := HO_ca'; clear HO_ca'
  have HO_cd' := Lib.hid (HO_cd.out.below hb); clear HO_cd; have HO_cd := HO_cd'; clear HO_cd'
  have HB5 := Lib.hid (HB4.out.trans (hb.mono HB4.out.size)); clear hb HB4
  have HO_w := Lib.hid ho; clear ho
  clear HO_cmask
  clear HO_cold
  clear HO_ca
  clear HO_cd
  go_wp2_with fail
  refine (toS_any A_mask n_mask c_mask z_mask w.heap.size _ l_mask (HR_mask.out.belowB HB5.out (Nat.le_refl _))).mono ?_
  rintro e w6 ⟨g6, rfl, ho, hb⟩
  have hs6 := hb.size
  have HO_w' := Lib.hid (HO_w.out.below hb); clear HO_w; have HO_w := HO_w'; clear HO_w'
  have HB6 := Lib.hid (HB5.out.trans (hb.mono HB5.out.size)); clear hb HB5
  have HO_xmask := Lib.hid ho; clear ho
  go_wp2_with fail
  refine (toS_any A_old n_old c_old z_old w.heap.size _ l_old (HR_old.out.belowB HB6.out (Nat.le_refl _))).mono ?_
  rintro e w7 ⟨g7, rfl, ho, hb⟩
  have hs7 := hb.size
  have HO_w' := Lib.hid (HO_w.out.below hb); clear HO_w; have HO_w := HO_w'; clear HO_w'
  have HO_xmask' := Lib.hid (HO_xmask.out.below hb); clear HO_xmask; have HO_xmask := HO_xmask'; clear HO_xmask'
  have HB7 := Lib.hid (HB6.out.trans (hb.mono HB6.out.size)); clear hb HB6
  have HO_xold := Lib.hid ho; clear ho
  go_wp2_with fail
  refine (toS_any A_a n_a c_a z_a w.heap.size _ l_a (HR_a.out.belowB HB7.out (Nat.le_refl _))).mono ?_
  rintro e w8 ⟨g8, rfl, ho, hb⟩
  have hs8 := hb.size
  have HO_w' := Lib.hid (HO_w.out.below hb); clear HO_w; have HO_w := HO_w'; clear HO_w'
  have HO_xmask' := Lib.hid (HO_xmask.out.below hb); clear HO_xmask; have HO_xmask := HO_xmask'; clear HO_xmask'
  have HO_xold' := Lib.hid (HO_xold.out.below hb); clear HO_xold; have HO_xold := HO_xold'; clear HO_xold'
  have HB8 := Lib.hid (HB7.out.trans (hb.mono HB7.out.size)); clear hb HB7
  have HO_xa := Lib.hid ho; clear ho
  go_wp2_with fail
  refine (toS_any A_d n_d c_d z_d w.heap.size _ l_d (HR_d.out.belowB HB8.out (Nat.le_refl _))).mono ?_
  rintro e w9 ⟨g9, rfl, ho, hb⟩
  have hs9 := hb.size
  have HO_w' := Lib.hid (HO_w.out.below hb); clear HO_w; have HO_w := HO_w'; clear HO_w'
  have HO_xmask' := Lib.hid (HO_xmask.out.below hb); clear HO_xmask; have HO_xmask := HO_xmask'; clear HO_xmask'
  have HO_xold' := Lib.hid (HO_xold.out.below hb); clear HO_xold; have HO_xold := HO_xold'; clear HO_xold'
  have HO_xa' := Lib.hid (HO_xa.out.below hb); clear HO_xa; have HO_xa := HO_xa'; clear HO_xa'
  have HB9 := Lib.hid (HB8.out.trans (hb.mono HB8.out.size)); clear hb HB8
  have HO_xd := Lib.hid ho; clear ho
  go_wp2_with fail
  refine (HI.out _ _ _ _ _ _ _ _ _ _ _ _ _ HO_xmask.out.rd HO_xold.out.rd HO_xa.out.rd HO_xd.out.rd (HE.out.below HB9.out HE.out.lt)).mono ?_
  rintro e w10 ⟨A_g, n_g, c_g, rfl, ho, hn_g, hb⟩
  have hs10 := hb.size
  have HO_w' := Lib.hid (HO_w.out.below hb); clear HO_w; have HO_w := HO_w'; clear HO_w'
  have HO_xmask' := Lib.hid (HO_xmask.out.below hb); clear HO_xmask; have HO_xmask := HO_xmask'; clear HO_xmask'
  have HO_xold' := Lib.hid (HO_xold.out.below hb); clear HO_xold; have HO_xold := HO_xold'; clear HO_xold'
  have HO_xa' := Lib.hid (HO_xa.out.below hb); clear HO_xa; have HO_xa := HO_xa'; clear HO_xa'
  have HO_xd' := Lib.hid (HO_xd.out.below hb); clear HO_xd; have HO_xd := HO_xd'; clear HO_xd'
  have HB10 := Lib.hid (HB9.out.trans (hb.mono HB9.out.size)); clear hb HB9
  have HO_g := Lib.hid ho; clear ho
  obtain rfl : n_w = n_g := HO_w.out.len.symm.trans HO_g.out.len
  go_wp2_with fail
  refine (eqS_same _ _ _ _ _ rz _ _ _ hn_w HO_g.out.rd HO_w.out.rd).mono ?_
  rintro e w11 ⟨rfl, hb⟩
  have hs11 := hb.size
  have HO_w' := Lib.hid (HO_w.out.below hb); clear HO_w; have HO_w := HO_w'; clear HO_w'
  have HO_xmask' := Lib.hid (HO_xmask.out.below hb); clear HO_xmask; have HO_xmask := HO_xmask'; clear HO_xmask'
  have HO_xold' := Lib.hid (HO_xold.out.below hb); clear HO_xold; have HO_xold := HO_xold'; clear HO_xold'
  have HO_xa' := Lib.hid (HO_xa.out.below hb); clear HO_xa; have HO_xa := HO_xa'; clear HO_xa'
  have HO_xd' := Lib.hid (HO_xd.out.below hb); clear HO_xd; have HO_xd := HO_xd'; clear HO_xd'
  have HO_g' := Lib.hid (HO_g.out.below hb); clear HO_g; have HO_g := HO_g'; clear HO_g'
  have HB11 := Lib.hid (HB10.out.trans (hb.mono HB10.out.size)); clear hb HB10
  go_wp2_with fail
  refine (toS_any A_mask n_mask c_mask z_mask w.heap.size _ l_mask (HR_mask.out.belowB HB11.out (Nat.le_refl _))).mono ?_
  rintro e w12 ⟨g12, rfl, ho, hb⟩
  have hs12 := hb.size
  have HO_w' := Lib.hid (HO_w.out.below hb); clear HO_w; have HO_w := HO_w'; clear HO_w'
  have HO_xmask' := Lib.hid (HO_xmask.out.below hb); clear HO_xmask; have HO_xmask := HO_xmask'; clear HO_xmask'
  have HO_xold' := Lib.hid (HO_xold.out.below hb); clear HO_xold; have HO_xold := HO_xold'; clear HO_xold'
  have HO_xa' := Lib.hid (HO_xa.out.below hb); clear HO_xa; have HO_xa := HO_xa'; clear HO_xa'
  have HO_xd' := Lib.hid (HO_xd.out.below hb); clear HO_xd; have HO_xd := HO_xd'; clear HO_xd'
  have HO_g' := Lib.hid (HO_g.out.below hb); clear HO_g; have HO_g := HO_g'; clear HO_g'
  have HB12 := Lib.hid (HB11.out.trans (hb.mono HB11.out.size)); clear hb HB11
  have HO_ymask := Lib.hid ho; clear ho
  go_wp2_with fail
  refine (eqS_same _ _ _ _ _ z_mask _ _ _ l_mask HO_xmask.out.rd HO_ymask.out.rd).mono ?_
  rintro e w13 ⟨rfl, hb⟩
  have hs13 := hb.size
  have HO_w' := Lib.hid (HO_w.out.below hb); clear HO_w; have HO_w := HO_w'; clear HO_w'
  have HO_xmask' := Lib.hid (HO_xmask.out.below hb); clear HO_xmask; have HO_xmask := HO_xmask'; clear HO_xmask'
  have HO_xold' := Lib.hid (HO_xold.out.below hb); clear HO_xold; have HO_xold := HO_xold'; clear HO_xold'
  have HO_xa' := Lib.hid (HO_xa.out.below hb); clear HO_xa; have HO_xa := HO_xa'; clear HO_xa'
  have HO_xd' := Lib.hid (HO_xd.out.below hb); clear HO_xd; have HO_xd := HO_xd'; clear HO_xd'
  have HO_g' := Lib.hid (HO_g.out.below hb); clear HO_g; have HO_g := HO_g'; clear HO_g'
  have HO_ymask' := Lib.hid (HO_ymask.out.below hb); clear HO_ymask; have HO_ymask := HO_ymask'; clear HO_ymask'
  have HB13 := Lib.hid (HB12.out.trans (hb.mono HB12.out.size)); clear hb HB12
  clear HO_ymask
  go_wp2_with fail
  refine (toS_any A_old n_old c_old z_old w.heap.size _ l_old (HR_old.out.belowB HB13.out (Nat.le_refl _))).mono ?_
  rintro e w14 ⟨g14, rfl, ho, hb⟩
  have hs14 := hb.size
  have HO_w' := Lib.hid (HO_w.out.below hb); clear HO_w; have HO_w := HO_w'; clear HO_w'
  have HO_xmask' := Lib.hid (HO_xmask.out.below hb); clear HO_xmask; have HO_xmask := HO_xmask'; clear HO_xmask'
  have HO_xold' := Lib.hid (HO_xold.out.below hb); clear HO_xold; have HO_xold := HO_xold'; clear HO_xold'
  have HO_xa' := Lib.hid (HO_xa.out.below hb); clear HO_xa; have HO_xa := HO_xa'; clear HO_xa'
  have HO_xd' := Lib.hid (HO_xd.out.below hb); clear HO_xd; have HO_xd := HO_xd'; clear HO_xd'
  have HO_g' := Lib.hid (HO_g.out.below hb); clear HO_g; have HO_g := HO_g'; clear HO_g'
  have HB14 := Lib.hid (HB13.out.trans (hb.mono HB13.out.size)); clear hb HB13
  have HO_yold := Lib.hid ho; clear ho
  go_wp2_with fail
  refine (eqS_same _ _ _ _ _ z_old _ _ _ l_old HO_xold.out.rd HO_yold.out.rd).mono ?_
  rintro e w15 ⟨rfl, hb⟩
  have hs15 := hb.size
  have HO_w' := Lib.hid (HO_w.out.below hb); clear HO_w; have HO_w := HO_w'; clear HO_w'
  have HO_xmask' := Lib.hid (HO_xmask.out.below hb); clear HO_xmask; have HO_xmask := HO_xmask'; clear HO_xmask'
  have HO_xold' := Lib.hid (HO_xold.out.below hb); clear HO_xold; have HO_xold := HO_xold'; clear HO_xold'
  have HO_xa' := Lib.hid (HO_xa.out.below hb); clear HO_xa; have HO_xa := HO_xa'; clear HO_xa'
  have HO_xd' := Lib.hid (HO_xd.out.below hb); clear HO_xd; have HO_xd := HO_xd'; clear HO_xd'
  have HO_g' := Lib.hid (HO_g.out.below hb); clear HO_g; have HO_g := HO_g'; clear HO_g'
  have HO_yold' := Lib.hid (HO_yold.out.below hb); clear HO_yold; have HO_yold := HO_yold'; clear HO_yold'
  have HB15 := Lib.hid (HB14.out.trans (hb.mono HB14.out.size)); clear hb HB14
  clear HO_yold
  go_wp2_with fail
  refine (toS_any A_a n_a c_a z_a w.heap.size _ l_a (HR_a.out.belowB HB15.out (Nat.le_refl _))).mono ?_
  rintro e w16 ⟨g16, rfl, ho, hb⟩
  have hs16 := hb.size
  have HO_w' := Lib.hid (HO_w.out.below hb); clear HO_w; have HO_w := HO_w'; clear HO_w'
  have HO_xmask' := Lib.hid (HO_xmask.out.below hb); clear HO_xmask; have HO_xmask := HO_xmask'; clear HO_xmask'
  have HO_xold' := Lib.hid (HO_xold.out.below hb); clear HO_xold; have HO_xold := HO_xold'; clear HO_xold'
  have HO_xa' := Lib.hid (HO_xa.out.below hb); clear HO_xa; have HO_xa := HO_xa'; clear HO_xa'
  have HO_xd' := Lib.hid (HO_xd.out.below hb); clear HO_xd; have HO_xd := HO_xd'; clear HO_xd'
  have HO_g' := Lib.hid (HO_g.out.below hb); clear HO_g; have HO_g := HO_g'; clear HO_g'
  have HB16 := Lib.hid (HB15.out.trans (hb.mono HB15.out.size)); clear hb HB15
  have HO_ya := Lib.hid ho; clear ho
  go_wp2_with fail
  refine (eqS_same _ _ _ _ _ z_a _ _ _ l_a HO_xa.out.rd HO_ya.out.rd).mono ?_
  rintro e w17 ⟨rfl, hb⟩
  have hs17 := hb.size
  have HO_w' := Lib.hid (HO_w.out.below hb); clear HO_w; have HO_w := HO_w'; clear HO_w'
  have HO_xmask' := Lib.hid (HO_xmask.out.below hb); clear HO_xmask; have HO_xmask := HO_xmask'; clear HO_xmask'
  have HO_xold' := Lib.hid (HO_xold.out.below hb); clear HO_xold; have HO_xold := HO_xold'; clear HO_xold'
  have HO_xa' := Lib.hid (HO_xa.out.below hb); clear HO_xa; have HO_xa := HO_xa'; clear HO_xa'
  have HO_xd' := Lib.hid (HO_xd.out.below hb); clear HO_xd; have HO_xd := HO_xd'; clear HO_xd'
  have HO_g' := Lib.hid (HO_g.out.below hb); clear HO_g; have HO_g := HO_g'; clear HO_g'
  have HO_ya' := Lib.hid (HO_ya.out.below hb); clear HO_ya; have HO_ya := HO_ya'; clear HO_ya'
  have HB17 := Lib.hid (HB16.out.trans (hb.mono HB16.out.size)); clear hb HB16
  clear HO_ya
  go_wp2_with fail
  refine (toS_any A_d n_d c_d z_d w.heap.size _ l_d (HR_d.out.belowB HB17.out (Nat.le_refl _))).mono ?_
  rintro e w18 ⟨g18, rfl, ho, hb⟩
  have hs18 := hb.size
  have HO_w' := Lib.hid (HO_w.out.below hb); clear HO_w; have HO_w := HO_w'; clear HO_w'
  have HO_xmask' := Lib.hid (HO_xmask.out.below hb); clear HO_xmask; have HO_xmask := HO_xmask'; clear HO_xmask'
  have HO_xold' := Lib.hid (HO_xold.out.below hb); clear HO_xold; have HO_xold := HO_xold'; clear HO_xold'
  have HO_xa' := Lib.hid (HO_xa.out.below hb); clear HO_xa; have HO_xa := HO_xa'; clear HO_xa'
  have HO_xd' := Lib.hid (HO_xd.out.below hb); clear HO_xd; have HO_xd := HO_xd'; clear HO_xd'
  have HO_g' := Lib.hid (HO_g.out.below hb); clear HO_g; have HO_g := HO_g'; clear HO_g'
  have HB18 := Lib.hid (HB17.out.trans (hb.mono HB17.out.size)); clear hb HB17
  have HO_yd := Lib.hid ho; clear ho
  go_wp2_with fail
  refine (eqS_same _ _ _ _ _ z_d _ _ _ l_d HO_xd.out.rd HO_yd.out.rd).mono ?_
  rintro e w19 ⟨rfl, hb⟩
  have hs19 := hb.size
  have HO_w' := Lib.hid (HO_w.out.below hb); clear HO_w; have HO_w := HO_w'; clear HO_w'
  have HO_xmask' := Lib.hid (HO_xmask.out.below hb); clear HO_xmask; have HO_xmask := HO_xmask'; clear HO_xmask'
  have HO_xold' := Lib.hid (HO_xold.out.below hb); clear HO_xold; have HO_xold := HO_xold'; clear HO_xold'
  have HO_xa' := Lib.hid (HO_xa.out.below hb); clear HO_xa; have HO_xa := HO_xa'; clear HO_xa'
  have HO_xd' := Lib.hid (HO_xd.out.below hb); clear HO_xd; have HO_xd := HO_xd'; clear HO_xd'
  have HO_g' := Lib.hid (HO_g.out.below hb); clear HO_g; have HO_g := HO_g'; clear HO_g'
  have HO_yd' := Lib.hid (HO_yd.out.below hb); clear HO_yd; have HO_yd := HO_yd'; clear HO_yd'
  have HB19 := Lib.hid (HB18.out.trans (hb.mono HB18.out.size)); clear hb HB18
  clear HO_yd
  go_wp2_with fail
  refine (markS_any _ _ _ z_mask w5.heap.size w6.heap.size _ _ l_mask (by omega) (by omega) HO_xmask.out).mono ?_
  rintro e w20 ⟨rfl, ho, hc, hq⟩
  have hs20 := hc.size
  have HO_w' := Lib.hid (HO_w.out.ch hc (by omega)); clear HO_w; have HO_w := HO_w'; clear HO_w'
  have HO_xold' := Lib.hid (HO_xold.out.ch hc (by omega)); clear HO_xold; have HO_xold := HO_xold'; clear HO_xold'
  have HO_xa' := Lib.hid (HO_xa.out.ch hc (by omega)); clear HO_xa; have HO_xa := HO_xa'; clear HO_xa'
  have HO_xd' := Lib.hid (HO_xd.out.ch hc (by omega)); clear HO_xd; have HO_xd := HO_xd'; clear HO_xd'
  have HO_g' := Lib.hid (HO_g.out.ch hc (by omega)); clear HO_g; have HO_g := HO_g'; clear HO_g'
  clear HO_xmask; have HO_xmask := Lib.hid ho; clear ho hq
  have HB20 := Lib.hid (HB19.out.trans (hc.below (B := w.heap.size) (by omega) (by omega))); clear hc HB19
  go_wp2_with fail
  refine (markS_any _ _ _ z_old w6.heap.size w7.heap.size _ _ l_old (by omega) (by omega) HO_xold.out).mono ?_
  rintro e w21 ⟨rfl, ho, hc, hq⟩
  have hs21 := hc.size
  have HO_w' := Lib.hid (HO_w.out.ch hc (by omega)); clear HO_w; have HO_w := HO_w'; clear HO_w'
  have HO_xmask' := Lib.hid (HO_xmask.out.ch hc (by omega)); clear HO_xmask; have HO_xmask := HO_xmask'; clear HO_xmask'
  have HO_xa' := Lib.hid (HO_xa.out.ch hc (by omega)); clear HO_xa; have HO_xa := HO_xa'; clear HO_xa'
  have HO_xd' := Lib.hid (HO_xd.out.ch hc (by omega)); clear HO_xd; have HO_xd := HO_xd'; clear HO_xd'
  have HO_g' := Lib.hid (HO_g.out.ch hc (by omega)); clear HO_g; have HO_g := HO_g'; clear HO_g'
  clear HO_xold; have HO_xold := Lib.hid ho; clear ho hq
  have HB21 := Lib.hid (HB20.out.trans (hc.below (B := w.heap.size) (by omega) (by omega))); clear hc HB20
  go_wp2_with fail
  refine (markS_any _ _ _ z_a w7.heap.size w8.heap.size _ _ l_a (by omega) (by omega) HO_xa.out).mono ?_
  rintro e w22 ⟨rfl, ho, hc, hq⟩
  have hs22 := hc.size
  have HO_w' := Lib.hid (HO_w.out.ch hc (by omega)); clear HO_w; have HO_w := HO_w'; clear HO_w'
  have HO_xmask' := Lib.hid (HO_xmask.out.ch hc (by omega)); clear HO_xmask; have HO_xmask := HO_xmask'; clear HO_xmask'
  have HO_xold' := Lib.hid (HO_xold.out.ch hc (by omega)); clear HO_xold; have HO_xold := HO_xold'; clear HO_xold'
  have HO_xd' := Lib.hid (HO_xd.out.ch hc (by omega)); clear HO_xd; have HO_xd := HO_xd'; clear HO_xd'
  have HO_g' := Lib.hid (HO_g.out.ch hc (by omega)); clear HO_g; have HO_g := HO_g'; clear HO_g'
  clear HO_xa; have HO_xa := Lib.hid ho; clear ho hq
  have HB22 := Lib.hid (HB21.out.trans (hc.below (B := w.heap.size) (by omega) (by omega))); clear hc HB21
  go_wp2_with fail
  refine (markS_any _ _ _ z_d w8.heap.size w9.heap.size _ _ l_d (by omega) (by omega) HO_xd.out).mono ?_
  rintro e w23 ⟨rfl, ho, hc, hq⟩
  have hs23 := hc.size
  have HO_w' := Lib.hid (HO_w.out.ch hc (by omega)); clear HO_w; have HO_w := HO_w'; clear HO_w'
  have HO_xmask' := Lib.hid (HO_xmask.out.ch hc (by omega)); clear HO_xmask; have HO_xmask := HO_xmask'; clear HO_xmask'
  have HO_xold' := Lib.hid (HO_xold.out.ch hc (by omega)); clear HO_xold; have HO_xold := HO_xold'; clear HO_xold'
  have HO_xa' := Lib.hid (HO_xa.out.ch hc (by omega)); clear HO_xa; have HO_xa := HO_xa'; clear HO_xa'
  have HO_g' := Lib.hid (HO_g.out.ch hc (by omega)); clear HO_g; have HO_g := HO_g'; clear HO_g'
  clear HO_xd; have HO_xd := Lib.hid ho; clear ho hq
  have HB23 := Lib.hid (HB22.out.trans (hc.below (B := w.heap.size) (by omega) (by omega))); clear hc HB22
  go_wp2_with fail
  refine (eqS_same _ _ _ _ _ rz _ _ _ hn_w HO_g.out.rd HO_w.out.rd).mono ?_
  rintro e w24 ⟨rfl, hb⟩
  have hs24 := hb.size
  have HO_w' := Lib.hid (HO_w.out.below hb); clear HO_w; have HO_w := HO_w'; clear HO_w'
  have HO_xmask' := Lib.hid (HO_xmask.out.below hb); clear HO_xmask; have HO_xmask := HO_xmask'; clear HO_xmask'
  have HO_xold' := Lib.hid (HO_xold.out.below hb); clear HO_xold; have HO_xold := HO_xold'; clear HO_xold'
  have HO_xa' := Lib.hid (HO_xa.out.below hb); clear HO_xa; have HO_xa := HO_xa'; clear HO_xa'
  have HO_xd' := Lib.hid (HO_xd.out.below hb); clear HO_xd; have HO_xd := HO_xd'; clear HO_xd'
  have HO_g' := Lib.hid (HO_g.out.below hb); clear HO_g; have HO_g := HO_g'; clear HO_g'
  have HB24 := Lib.hid (HB23.out.trans (hb.mono HB23.out.size)); clear hb HB23
  go_wp2_with fail
  refine (markS_any _ _ _ rz w9.heap.size w10.heap.size _ _ hn_w (by omega) (by omega) HO_g.out).mono ?_
  rintro e w25 ⟨rfl, ho, hc, hq⟩
  have hs25 := hc.size
  have HO_w' := Lib.hid (HO_w.out.ch hc (by omega)); clear HO_w; have HO_w := HO_w'; clear HO_w'
  have HO_xmask' := Lib.hid (HO_xmask.out.ch hc (by omega)); clear HO_xmask; have HO_xmask := HO_xmask'; clear HO_xmask'
  have HO_xold' := Lib.hid (HO_xold.out.ch hc (by omega)); clear HO_xold; have HO_xold := HO_xold'; clear HO_xold'
  have HO_xa' := Lib.hid (HO_xa.out.ch hc (by omega)); clear HO_xa; have HO_xa := HO_xa'; clear HO_xa'
  have HO_xd' := Lib.hid (HO_xd.out.ch hc (by omega)); clear HO_xd; have HO_xd := HO_xd'; clear HO_xd'
  clear HO_g; have HO_g := Lib.hid ho; clear ho hq
  have HB25 := Lib.hid (HB24.out.trans (hc.below (B := w.heap.size) (by omega) (by omega))); clear hc HB24
  go_wp2_with fail
  refine (heldS_any _ _ _ _ _ _ hn_w (by omega) (by omega) HO_g.out.rd).mono ?_
  rintro e w26 ⟨rfl, hb⟩
  have hs26 := hb.size
  have HO_w' := Lib.hid (HO_w.out.below hb); clear HO_w; have HO_w := HO_w'; clear HO_w'
  have HO_xmask' := Lib.hid (HO_xmask.out.below hb); clear HO_xmask; have HO_xmask := HO_xmask'; clear HO_xmask'
  have HO_xold' := Lib.hid (HO_xold.out.below hb); clear HO_xold; have HO_xold := HO_xold'; clear HO_xold'
  have HO_xa' := Lib.hid (HO_xa.out.below hb); clear HO_xa; have HO_xa := HO_xa'; clear HO_xa'
  have HO_xd' := Lib.hid (HO_xd.out.below hb); clear HO_xd; have HO_xd := HO_xd'; clear HO_xd'
  have HO_g' := Lib.hid (HO_g.out.below hb); clear HO_g; have HO_g := HO_g'; clear HO_g'
  have HB26 := Lib.hid (HB25.out.trans (hb.mono HB25.out.size)); clear hb HB25
  clear HO_xmask
  clear HO_xold
  clear HO_xa
  clear HO_xd
  go_wp2_with fail
  refine (toS_any A_mask n_mask c_mask z_mask w.heap.size _ l_mask (HR_mask.out.belowB HB26.out (Nat.le_refl _))).mono ?_
  rintro e w27 ⟨g27, rfl, ho, hb⟩
  have hs27 := hb.size
  have HO_w' := Lib.hid (HO_w.out.below hb); clear HO_w; have HO_w := HO_w'; clear HO_w'
  have HO_g' := Lib.hid (HO_g.out.below hb); clear HO_g; have HO_g := HO_g'; clear HO_g'
  have HB27 := Lib.hid (HB26.out.trans (hb.mono HB26.out.size)); clear hb HB26
  have HO_vmask := Lib.hid ho; clear ho
  go_wp2_with fail
  refine (toS_any A_old n_old c_old z_old w.heap.size _ l_old (HR_old.out.belowB HB27.out (Nat.le_refl _))).mono ?_
  rintro e w28 ⟨g28, rfl, ho, hb⟩
  have hs28 := hb.size
  have HO_w' := Lib.hid (HO_w.out.below hb); clear HO_w; have HO_w := HO_w'; clear HO_w'
  have HO_g' := Lib.hid (HO_g.out.below hb); clear HO_g; have HO_g := HO_g'; clear HO_g'
  have HO_vmask' := Lib.hid (HO_vmask.out.below hb); clear HO_vmask; have HO_vmask := HO_vmask'; clear HO_vmask'
  have HB28 := Lib.hid (HB27.out.trans (hb.mono HB27.out.size)); clear hb HB27
  have HO_vold := Lib.hid ho; clear ho
  go_wp2_with fail
  refine (toS_any A_a n_a c_a z_a w.heap.size _ l_a (HR_a.out.belowB HB28.out (Nat.le_refl _))).mono ?_
  rintro e w29 ⟨g29, rfl, ho, hb⟩
  have hs29 := hb.size
  have HO_w' := Lib.hid (HO_w.out.below hb); clear HO_w; have HO_w := HO_w'; clear HO_w'
  have HO_g' := Lib.hid (HO_g.out.below hb); clear HO_g; have HO_g := HO_g'; clear HO_g'
  have HO_vmask' := Lib.hid (HO_vmask.out.below hb); clear HO_vmask; have HO_vmask := HO_vmask'; clear HO_vmask'
  have HO_vold' := Lib.hid (HO_vold.out.below hb); clear HO_vold; have HO_vold := HO_vold'; clear HO_vold'
  have HB29 := Lib.hid (HB28.out.trans (hb.mono HB28.out.size)); clear hb HB28
  have HO_va := Lib.hid ho; clear ho
  go_wp2_with fail
  refine (toS_any A_d n_d c_d z_d w.heap.size _ l_d (HR_d.out.belowB HB29.out (Nat.le_refl _))).mono ?_
  rintro e w30 ⟨g30, rfl, ho, hb⟩
  have hs30 := hb.size
  have HO_w' := Lib.hid (HO_w.out.below hb); clear HO_w; have HO_w := HO_w'; clear HO_w'
  have HO_g' := Lib.hid (HO_g.out.below hb); clear HO_g; have HO_g := HO_g'; clear HO_g'
  have HO_vmask' := Lib.hid (HO_vmask.out.below hb); clear HO_vmask; have HO_vmask := HO_vmask'; clear HO_vmask'
  have HO_vold' := Lib.hid (HO_vold.out.below hb); clear HO_vold; have HO_vold := HO_vold'; clear HO_vold'
  have HO_va' := Lib.hid (HO_va.out.below hb); clear HO_va; have HO_va := HO_va'; clear HO_va'
  have HB30 := Lib.hid (HB29.out.trans (hb.mono HB29.out.size)); clear hb HB29
  have HO_vd := Lib.hid ho; clear ho
  go_wp2_with fail
  refine (HI.out _ _ _ _ _ _ _ _ _ _ _ _ _ HO_vmask.out.rd HO_vold.out.rd HO_va.out.rd HO_vd.out.rd (HE.out.below HB30.out HE.out.lt)).mono ?_
  rintro e w31 ⟨A_h, n_h, c_h, rfl, ho, hn_h, hb⟩
  have hs31 := hb.size
  have HO_w' := Lib.hid (HO_w.out.below hb); clear HO_w; have HO_w := HO_w'; clear HO_w'
  have HO_g' := Lib.hid (HO_g.out.below hb); clear HO_g; have HO_g := HO_g'; clear HO_g'
  have HO_vmask' := Lib.hid (HO_vmask.out.below hb); clear HO_vmask; have HO_vmask := HO_vmask'; clear HO_vmask'
  have HO_vold' := Lib.hid (HO_vold.out.below hb); clear HO_vold; have HO_vold := HO_vold'; clear HO_vold'
  have HO_va' := Lib.hid (HO_va.out.below hb); clear HO_va; have HO_va := HO_va'; clear HO_va'
  have HO_vd' := Lib.hid (HO_vd.out.below hb); clear HO_vd; have HO_vd := HO_vd'; clear HO_vd'
  have HB31 := Lib.hid (HB30.out.trans (hb.mono HB30.out.size)); clear hb HB30
  have HO_h := Lib.hid ho; clear ho
  obtain rfl : n_w = n_h := HO_w.out.len.symm.trans HO_h.out.len
  go_wp2_with fail
  refine (eqS_same _ _ _ _ _ rz _ _ _ hn_w HO_h.out.rd HO_w.out.rd).mono ?_
  rintro e w32 ⟨rfl, hb⟩
  have hs32 := hb.size
  have HO_w' := Lib.hid (HO_w.out.below hb); clear HO_w; have HO_w := HO_w'; clear HO_w'
  have HO_g' := Lib.hid (HO_g.out.below hb); clear HO_g; have HO_g := HO_g'; clear HO_g'
  have HO_vmask' := Lib.hid (HO_vmask.out.below hb); clear HO_vmask; have HO_vmask := HO_vmask'; clear HO_vmask'
  have HO_vold' := Lib.hid (HO_vold.out.below hb); clear HO_vold; have HO_vold := HO_vold'; clear HO_vold'
  have HO_va' := Lib.hid (HO_va.out.below hb); clear HO_va; have HO_va := HO_va'; clear HO_va'
  have HO_vd' := Lib.hid (HO_vd.out.below hb); clear HO_vd; have HO_vd := HO_vd'; clear HO_vd'
  have HO_h' := Lib.hid (HO_h.out.below hb); clear HO_h; have HO_h := HO_h'; clear HO_h'
  have HB32 := Lib.hid (HB31.out.trans (hb.mono HB31.out.size)); clear hb HB31
  go_wp2_with fail
  refine (heldS_any _ _ _ _ _ _ hn_w (by omega) (by omega) HO_g.out.rd).mono ?_
  rintro e w33 ⟨rfl, hb⟩
  have hs33 := hb.size
  have HO_w' := Lib.hid (HO_w.out.below hb); clear HO_w; have HO_w := HO_w'; clear HO_w'
  have HO_g' := Lib.hid (HO_g.out.below hb); clear HO_g; have HO_g := HO_g'; clear HO_g'
  have HO_vmask' := Lib.hid (HO_vmask.out.below hb); clear HO_vmask; have HO_vmask := HO_vmask'; clear HO_vmask'
  have HO_vold' := Lib.hid (HO_vold.out.below hb); clear HO_vold; have HO_vold := HO_vold'; clear HO_vold'
  have HO_va' := Lib.hid (HO_va.out.below hb); clear HO_va; have HO_va := HO_va'; clear HO_va'
  have HO_vd' := Lib.hid (HO_vd.out.below hb); clear HO_vd; have HO_vd := HO_vd'; clear HO_vd'
  have HO_h' := Lib.hid (HO_h.out.below hb); clear HO_h; have HO_h := HO_h'; clear HO_h'
  have HB33 := Lib.hid (HB32.out.trans (hb.mono HB32.out.size)); clear hb HB32
  go_wp2_with fail
  go_ret
  exact ⟨rfl, HB33.out⟩
end Go.Proofs.YteggioppoldaaaaGreatDoor.Wds
