/-
  The walk of the law of NeededFor: the code answers as the model, for all arguments; nothing that was there has changed.
-/
import Derived.Test.YtnbcobhcemjbnaaDoorSNd
import Derived.Test.YtnbcobhcemjbnaaDoorINd
import Derived.Test.YtnbcobhcemjbnaaDoorOpenS
namespace Go.Proofs.YtnbcobhcemjbnaaDoor.Wds
open Go.RowKit
set_option linter.unusedVariables false

set_option maxHeartbeats 2000000 in
set_option maxRecDepth 100000 in
theorem law_neededFor (A_code : Option Addr) (n_code c_code : Nat) (zz_code : List Sc.St) (A_cells : Option Addr) (n_cells c_cells : Nat) (zz_cells : List Int) (w : World) (w_code : RowS w A_code n_code zz_code) (w_cells : IsRow .i64 w A_cells n_cells c_cells zz_cells) (hTab : TabT w) :
    Calls Tryd.prog 5 #[.slice A_code n_code c_code, .slice A_cells n_cells c_cells] w fun e w' => e = .returned (.bool true) ∧ Below w.heap.size w w' := by
  obtain ⟨z_code, hr_code⟩ : ∃ zs, RdS w w.heap.size A_code n_code zs := ⟨_, w_code.1⟩
  have hm_code := w_code.2
  have HR_code := Lib.hid hr_code; clear hr_code w_code
  obtain ⟨z_cells, hr_cells⟩ : ∃ zs, Rd w w.heap.size A_cells n_cells zs := ⟨_, Rd.of_row w_cells⟩
  have HR_cells := Lib.hid hr_cells; clear hr_cells w_cells
  have HT := Lib.hid hTab; clear hTab
  by_cases l_cells : n_cells ≤ 1048576
  rotate_left
  · have l1 : 1048576 < n_cells := by omega
    clear l_cells
    go_enter Tryd.func5, Tryd.ntmps5
    go_wp2
    go_ret
    exact ⟨rfl, Below.refl _ _⟩
  by_cases l_code : n_code ≤ 1048576
  rotate_left
  · have l1 : 1048576 < n_code := by omega
    clear l_code
    go_enter Tryd.func5, Tryd.ntmps5
    go_wp2_with fail
    refine (szS_out _ _ _ _ _ (by omega) (by omega) hm_code).mono ?_
    rintro e w' ⟨rfl, rfl⟩
    go_wp2
    go_ret
    exact ⟨rfl, Below.refl _ _⟩
  have hS : ∀ (W : World) (A_code : Option Addr) (c_code : Nat) (B_code : Nat) (A_cells : Option Addr) (c_cells : Nat) (B_cells : Nat), RdS W B_code A_code n_code z_code → Rd W B_cells A_cells n_cells z_cells → Calls Tryd.prog 17 #[.slice A_code n_code c_code, .slice A_cells n_cells c_cells] W (Ret1 (Sc.neededFor z_code z_cells).1 (Sc.neededFor z_code z_cells).2 W) :=
    fun W A_code c_code B_code A_cells c_cells B_cells r_code r_cells => sNeededFor_any A_code n_code c_code z_code B_code A_cells n_cells c_cells z_cells B_cells W l_code l_cells r_code r_cells
  have hI : ∀ (W : World) (A_code : Option Addr) (c_code : Nat) (B_code : Nat) (A_cells : Option Addr) (c_cells : Nat) (B_cells : Nat), RdS W B_code A_code n_code z_code → Rd W B_cells A_cells n_cells z_cells → TabT W → Calls Tryd.prog 20 #[.slice A_code n_code c_code, .slice A_cells n_cells c_cells] W (Ret1 (Sc.neededFor z_code z_cells).1 (Sc.neededFor z_code z_cells).2 W) :=
    fun W A_code c_code B_code A_cells c_cells B_cells r_code r_cells qtab => iNeededFor_any A_code n_code c_code z_code B_code A_cells n_cells c_cells z_cells B_cells W l_code l_cells r_code r_cells qtab
  generalize (Sc.neededFor z_code z_cells).1 = rz at hS hI
  generalize (Sc.neededFor z_code z_cells).2 = ok at hS hI
  have HS := Lib.hid hS; clear hS
  have HI := Lib.hid hI; clear hI
  have HB0 : Hid (Below w.heap.size w w) := Below.refl _ _
  go_enter Tryd.func5, Tryd.ntmps5
  go_wp2_with fail
  refine (szS_in _ _ _ _ _ (by omega) (by omega)).mono ?_
  rintro e w' ⟨rfl, rfl⟩
  have sz_code : ¬ ((1048576 : Int) - (n_code : Int) < 0) := by omega
  go_wp2_with fail
  refine (toSS_any A_code n_code c_code z_code w.heap.size _ l_code (HR_code.out.belowB HB0.out (Nat.le_refl _))).mono ?_
  rintro e w1 ⟨g1, rfl, ho, hb⟩
  have hs1 := hb.size
  have HB1 := Lib.hid (HB0.out.trans (hb.mono HB0.out.size)); clear hb HB0
  have HO_ccode := Lib.hid ho; clear ho
  go_wp2_with fail
  refine (toS_any A_cells n_cells c_cells z_cells w.heap.size _ l_cells (HR_cells.out.belowB HB1.out (Nat.le_refl _))).mono ?_
  rintro e w2 ⟨g2, rfl, ho, hb⟩
  have hs2 := hb.size
  have HO_ccode' := Lib.hid (HO_ccode.out.below hb); clear HO_ccode; have HO_ccode := HO_ccode'; clear HO_ccode'
  have HB2 := Lib.hid (HB1.out.trans (hb.mono HB1.out.size)); clear hb HB1
  have HO_ccells := Lib.hid ho; clear ho
  go_wp2_with fail
  refine (HS.out _ _ _ _ _ _ _ HO_ccode.out.rd HO_ccells.out.rd).mono ?_
  rintro e w3 ⟨A_w, n_w, c_w, rfl, ho, hn_w, hb⟩
  have hs3 := hb.size
  have HO_ccode' := Lib.hid (HO_ccode.out.below hb); clear HO_ccode; have HO_ccode := HO_ccode'; clear HO_ccode'
  have HO_ccells' := Lib.hid (HO_ccells.out.below hb); clear HO_ccells; have HO_ccells := HO_ccells'; clear HO_ccells'
  have HB3 := Lib.hid (HB2.out.trans (hb.mono HB2.out.size)); clear hb HB2
  have HO_w := Lib.hid ho; clear ho
  clear HO_ccode
  clear HO_ccells
  go_wp2_with fail
  refine (toSS_any A_code n_code c_code z_code w.heap.size _ l_code (HR_code.out.belowB HB3.out (Nat.le_refl _))).mono ?_
  rintro e w4 ⟨g4, rfl, ho, hb⟩
  have hs4 := hb.size
  have HO_w' := Lib.hid (HO_w.out.below hb); clear HO_w; have HO_w := HO_w'; clear HO_w'
  have HB4 := Lib.hid (HB3.out.trans (hb.mono HB3.out.size)); clear hb HB3
  have HO_xcode := Lib.hid ho; clear ho
  go_wp2_with fail
  refine (toS_any A_cells n_cells c_cells z_cells w.heap.size _ l_cells (HR_cells.out.belowB HB4.out (Nat.le_refl _))).mono ?_
  rintro e w5 ⟨g5, rfl, ho, hb⟩
  have hs5 := hb.size
  have HO_w' := Lib.hid (HO_w.out.below hb); clear HO_w; have HO_w := HO_w'; clear HO_w'
  have HO_xcode' := Lib.hid (HO_xcode.out.below hb); clear HO_xcode; have HO_xcode := HO_xcode'; clear HO_xcode'
  have HB5 := Lib.hid (HB4.out.trans (hb.mono HB4.out.size)); clear hb HB4
  have HO_xcells := Lib.hid ho; clear ho
  go_wp2_with fail
  refine (HI.out _ _ _ _ _ _ _ HO_xcode.out.rd HO_xcells.out.rd (HT.out.below HB5.out HT.out.lt)).mono ?_
  rintro e w6 ⟨A_g, n_g, c_g, rfl, ho, hn_g, hb⟩
  have hs6 := hb.size
  have HO_w' := Lib.hid (HO_w.out.below hb); clear HO_w; have HO_w := HO_w'; clear HO_w'
  have HO_xcode' := Lib.hid (HO_xcode.out.below hb); clear HO_xcode; have HO_xcode := HO_xcode'; clear HO_xcode'
  have HO_xcells' := Lib.hid (HO_xcells.out.below hb); clear HO_xcells; have HO_xcells := HO_xcells'; clear HO_xcells'
  have HB6 := Lib.hid (HB5.out.trans (hb.mono HB5.out.size)); clear hb HB5
  have HO_g := Lib.hid ho; clear ho
  obtain rfl : n_w = n_g := HO_w.out.len.symm.trans HO_g.out.len
  go_wp2_with fail
  refine (eqS_same _ _ _ _ _ rz _ _ _ hn_w HO_g.out.rd HO_w.out.rd).mono ?_
  rintro e w7 ⟨rfl, hb⟩
  have hs7 := hb.size
  have HO_w' := Lib.hid (HO_w.out.below hb); clear HO_w; have HO_w := HO_w'; clear HO_w'
  have HO_xcode' := Lib.hid (HO_xcode.out.below hb); clear HO_xcode; have HO_xcode := HO_xcode'; clear HO_xcode'
  have HO_xcells' := Lib.hid (HO_xcells.out.below hb); clear HO_xcells; have HO_xcells := HO_xcells'; clear HO_xcells'
  have HO_g' := Lib.hid (HO_g.out.below hb); clear HO_g; have HO_g := HO_g'; clear HO_g'
  have HB7 := Lib.hid (HB6.out.trans (hb.mono HB6.out.size)); clear hb HB6
  go_wp2_with fail
  refine (toSS_any A_code n_code c_code z_code w.heap.size _ l_code (HR_code.out.belowB HB7.out (Nat.le_refl _))).mono ?_
  rintro e w8 ⟨g8, rfl, ho, hb⟩
  have hs8 := hb.size
  have HO_w' := Lib.hid (HO_w.out.below hb); clear HO_w; have HO_w := HO_w'; clear HO_w'
  have HO_xcode' := Lib.hid (HO_xcode.out.below hb); clear HO_xcode; have HO_xcode := HO_xcode'; clear HO_xcode'
  have HO_xcells' := Lib.hid (HO_xcells.out.below hb); clear HO_xcells; have HO_xcells := HO_xcells'; clear HO_xcells'
  have HO_g' := Lib.hid (HO_g.out.below hb); clear HO_g; have HO_g := HO_g'; clear HO_g'
  have HB8 := Lib.hid (HB7.out.trans (hb.mono HB7.out.size)); clear hb HB7
  have HO_ycode := Lib.hid ho; clear ho
  go_wp2_with fail
  refine (eqSS_same _ _ _ _ _ z_code _ _ _ l_code HO_xcode.out.rd HO_ycode.out.rd).mono ?_
  rintro e w9 ⟨rfl, hb⟩
  have hs9 := hb.size
  have HO_w' := Lib.hid (HO_w.out.below hb); clear HO_w; have HO_w := HO_w'; clear HO_w'
  have HO_xcode' := Lib.hid (HO_xcode.out.below hb); clear HO_xcode; have HO_xcode := HO_xcode'; clear HO_xcode'
  have HO_xcells' := Lib.hid (HO_xcells.out.below hb); clear HO_xcells; have HO_xcells := HO_xcells'; clear HO_xcells'
  have HO_g' := Lib.hid (HO_g.out.below hb); clear HO_g; have HO_g := HO_g'; clear HO_g'
  have HO_ycode' := Lib.hid (HO_ycode.out.below hb); clear HO_ycode; have HO_ycode := HO_ycode'; clear HO_ycode'
  have HB9 := Lib.hid (HB8.out.trans (hb.mono HB8.out.size)); clear hb HB8
  clear HO_ycode
  go_wp2_with fail
  refine (toS_any A_cells n_cells c_cells z_cells w.heap.size _ l_cells (HR_cells.out.belowB HB9.out (Nat.le_refl _))).mono ?_
  rintro e w10 ⟨g10, rfl, ho, hb⟩
  have hs10 := hb.size
  have HO_w' := Lib.hid (HO_w.out.below hb); clear HO_w; have HO_w := HO_w'; clear HO_w'
  have HO_xcode' := Lib.hid (HO_xcode.out.below hb); clear HO_xcode; have HO_xcode := HO_xcode'; clear HO_xcode'
  have HO_xcells' := Lib.hid (HO_xcells.out.below hb); clear HO_xcells; have HO_xcells := HO_xcells'; clear HO_xcells'
  have HO_g' := Lib.hid (HO_g.out.below hb); clear HO_g; have HO_g := HO_g'; clear HO_g'
  have HB10 := Lib.hid (HB9.out.trans (hb.mono HB9.out.size)); clear hb HB9
  have HO_ycells := Lib.hid ho; clear ho
  go_wp2_with fail
  refine (eqS_same _ _ _ _ _ z_cells _ _ _ l_cells HO_xcells.out.rd HO_ycells.out.rd).mono ?_
  rintro e w11 ⟨rfl, hb⟩
  have hs11 := hb.size
  have HO_w' := Lib.hid (HO_w.out.below hb); clear HO_w; have HO_w := HO_w'; clear HO_w'
  have HO_xcode' := Lib.hid (HO_xcode.out.below hb); clear HO_xcode; have HO_xcode := HO_xcode'; clear HO_xcode'
  have HO_xcells' := Lib.hid (HO_xcells.out.below hb); clear HO_xcells; have HO_xcells := HO_xcells'; clear HO_xcells'
  have HO_g' := Lib.hid (HO_g.out.below hb); clear HO_g; have HO_g := HO_g'; clear HO_g'
  have HO_ycells' := Lib.hid (HO_ycells.out.below hb); clear HO_ycells; have HO_ycells := HO_ycells'; clear HO_ycells'
  have HB11 := Lib.hid (HB10.out.trans (hb.mono HB10.out.size)); clear hb HB10
  clear HO_ycells
  go_wp2_with fail
  refine (markSS_any _ _ _ z_code w3.heap.size w4.heap.size _ _ l_code (by omega) (by omega) HO_xcode.out).mono ?_
  rintro e w12 ⟨rfl, ho, hc⟩
  have hs12 := hc.size
  have HO_w' := Lib.hid (HO_w.out.ch hc (by omega)); clear HO_w; have HO_w := HO_w'; clear HO_w'
  have HO_xcells' := Lib.hid (HO_xcells.out.ch hc (by omega)); clear HO_xcells; have HO_xcells := HO_xcells'; clear HO_xcells'
  have HO_g' := Lib.hid (HO_g.out.ch hc (by omega)); clear HO_g; have HO_g := HO_g'; clear HO_g'
  clear HO_xcode; have HO_xcode := Lib.hid ho; clear ho
  have HB12 := Lib.hid (HB11.out.trans (hc.below (B := w.heap.size) (by omega) (by omega))); clear hc HB11
  go_wp2_with fail
  refine (markS_any _ _ _ z_cells w4.heap.size w5.heap.size _ _ l_cells (by omega) (by omega) HO_xcells.out).mono ?_
  rintro e w13 ⟨rfl, ho, hc, hq⟩
  have hs13 := hc.size
  have HO_w' := Lib.hid (HO_w.out.ch hc (by omega)); clear HO_w; have HO_w := HO_w'; clear HO_w'
  have HO_xcode' := Lib.hid (HO_xcode.out.ch hc (by omega)); clear HO_xcode; have HO_xcode := HO_xcode'; clear HO_xcode'
  have HO_g' := Lib.hid (HO_g.out.ch hc (by omega)); clear HO_g; have HO_g := HO_g'; clear HO_g'
  clear HO_xcells; have HO_xcells := Lib.hid ho; clear ho hq
  have HB13 := Lib.hid (HB12.out.trans (hc.below (B := w.heap.size) (by omega) (by omega))); clear hc HB12
  go_wp2_with fail
  refine (eqS_same _ _ _ _ _ rz _ _ _ hn_w HO_g.out.rd HO_w.out.rd).mono ?_
  rintro e w14 ⟨rfl, hb⟩
  have hs14 := hb.size
  have HO_w' := Lib.hid (HO_w.out.below hb); clear HO_w; have HO_w := HO_w'; clear HO_w'
  have HO_xcode' := Lib.hid (HO_xcode.out.below hb); clear HO_xcode; have HO_xcode := HO_xcode'; clear HO_xcode'
  have HO_xcells' := Lib.hid (HO_xcells.out.below hb); clear HO_xcells; have HO_xcells := HO_xcells'; clear HO_xcells'
  have HO_g' := Lib.hid (HO_g.out.below hb); clear HO_g; have HO_g := HO_g'; clear HO_g'
  have HB14 := Lib.hid (HB13.out.trans (hb.mono HB13.out.size)); clear hb HB13
  go_wp2_with fail
  refine (markS_any _ _ _ rz w5.heap.size w6.heap.size _ _ hn_w (by omega) (by omega) HO_g.out).mono ?_
  rintro e w15 ⟨rfl, ho, hc, hq⟩
  have hs15 := hc.size
  have HO_w' := Lib.hid (HO_w.out.ch hc (by omega)); clear HO_w; have HO_w := HO_w'; clear HO_w'
  have HO_xcode' := Lib.hid (HO_xcode.out.ch hc (by omega)); clear HO_xcode; have HO_xcode := HO_xcode'; clear HO_xcode'
  have HO_xcells' := Lib.hid (HO_xcells.out.ch hc (by omega)); clear HO_xcells; have HO_xcells := HO_xcells'; clear HO_xcells'
  clear HO_g; have HO_g := Lib.hid ho; clear ho hq
  have HB15 := Lib.hid (HB14.out.trans (hc.below (B := w.heap.size) (by omega) (by omega))); clear hc HB14
  go_wp2_with fail
  refine (heldS_any _ _ _ _ _ _ hn_w (by omega) (by omega) HO_g.out.rd).mono ?_
  rintro e w16 ⟨rfl, hb⟩
  have hs16 := hb.size
  have HO_w' := Lib.hid (HO_w.out.below hb); clear HO_w; have HO_w := HO_w'; clear HO_w'
  have HO_xcode' := Lib.hid (HO_xcode.out.below hb); clear HO_xcode; have HO_xcode := HO_xcode'; clear HO_xcode'
  have HO_xcells' := Lib.hid (HO_xcells.out.below hb); clear HO_xcells; have HO_xcells := HO_xcells'; clear HO_xcells'
  have HO_g' := Lib.hid (HO_g.out.below hb); clear HO_g; have HO_g := HO_g'; clear HO_g'
  have HB16 := Lib.hid (HB15.out.trans (hb.mono HB15.out.size)); clear hb HB15
  clear HO_xcode
  clear HO_xcells
  go_wp2_with fail
  refine (toSS_any A_code n_code c_code z_code w.heap.size _ l_code (HR_code.out.belowB HB16.out (Nat.le_refl _))).mono ?_
  rintro e w17 ⟨g17, rfl, ho, hb⟩
  have hs17 := hb.size
  have HO_w' := Lib.hid (HO_w.out.below hb); clear HO_w; have HO_w := HO_w'; clear HO_w'
  have HO_g' := Lib.hid (HO_g.out.below hb); clear HO_g; have HO_g := HO_g'; clear HO_g'
  have HB17 := Lib.hid (HB16.out.trans (hb.mono HB16.out.size)); clear hb HB16
  have HO_vcode := Lib.hid ho; clear ho
  go_wp2_with fail
  refine (toS_any A_cells n_cells c_cells z_cells w.heap.size _ l_cells (HR_cells.out.belowB HB17.out (Nat.le_refl _))).mono ?_
  rintro e w18 ⟨g18, rfl, ho, hb⟩
  have hs18 := hb.size
  have HO_w' := Lib.hid (HO_w.out.below hb); clear HO_w; have HO_w := HO_w'; clear HO_w'
  have HO_g' := Lib.hid (HO_g.out.below hb); clear HO_g; have HO_g := HO_g'; clear HO_g'
  have HO_vcode' := Lib.hid (HO_vcode.out.below hb); clear HO_vcode; have HO_vcode := HO_vcode'; clear HO_vcode'
  have HB18 := Lib.hid (HB17.out.trans (hb.mono HB17.out.size)); clear hb HB17
  have HO_vcells := Lib.hid ho; clear ho
  go_wp2_with fail
  refine (HI.out _ _ _ _ _ _ _ HO_vcode.out.rd HO_vcells.out.rd (HT.out.below HB18.out HT.out.lt)).mono ?_
  rintro e w19 ⟨A_h, n_h, c_h, rfl, ho, hn_h, hb⟩
  have hs19 := hb.size
  have HO_w' := Lib.hid (HO_w.out.below hb); clear HO_w; have HO_w := HO_w'; clear HO_w'
  have HO_g' := Lib.hid (HO_g.out.below hb); clear HO_g; have HO_g := HO_g'; clear HO_g'
  have HO_vcode' := Lib.hid (HO_vcode.out.below hb); clear HO_vcode; have HO_vcode := HO_vcode'; clear HO_vcode'
  have HO_vcells' := Lib.hid (HO_vcells.out.below hb); clear HO_vcells; have HO_vcells := HO_vcells'; clear HO_vcells'
  have HB19 := Lib.hid (HB18.out.trans (hb.mono HB18.out.size)); clear hb HB18
  have HO_h := Lib.hid ho; clear ho
  obtain rfl : n_w = n_h := HO_w.out.len.symm.trans HO_h.out.len
  go_wp2_with fail
  refine (eqS_same _ _ _ _ _ rz _ _ _ hn_w HO_h.out.rd HO_w.out.rd).mono ?_
  rintro e w20 ⟨rfl, hb⟩
  have hs20 := hb.size
  have HO_w' := Lib.hid (HO_w.out.below hb); clear HO_w; have HO_w := HO_w'; clear HO_w'
  have HO_g' := Lib.hid (HO_g.out.below hb); clear HO_g; have HO_g := HO_g'; clear HO_g'
  have HO_vcode' := Lib.hid (HO_vcode.out.below hb); clear HO_vcode; have HO_vcode := HO_vcode'; clear HO_vcode'
  have HO_vcells' := Lib.hid (HO_vcells.out.below hb); clear HO_vcells; have HO_vcells := HO_vcells'; clear HO_vcells'
  have HO_h' := Lib.hid (HO_h.out.below hb); clear HO_h; have HO_h := HO_h'; clear HO_h'
  have HB20 := Lib.hid (HB19.out.trans (hb.mono HB19.out.size)); clear hb HB19
  go_wp2_with fail
  refine (heldS_any _ _ _ _ _ _ hn_w (by omega) (by omega) HO_g.out.rd).mono ?_
  rintro e w21 ⟨rfl, hb⟩
  have hs21 := hb.size
  have HO_w' := Lib.hid (HO_w.out.below hb); clear HO_w; have HO_w := HO_w'; clear HO_w'
  have HO_g' := Lib.hid (HO_g.out.below hb); clear HO_g; have HO_g := HO_g'; clear HO_g'
  have HO_vcode' := Lib.hid (HO_vcode.out.below hb); clear HO_vcode; have HO_vcode := HO_vcode'; clear HO_vcode'
  have HO_vcells' := Lib.hid (HO_vcells.out.below hb); clear HO_vcells; have HO_vcells := HO_vcells'; clear HO_vcells'
  have HO_h' := Lib.hid (HO_h.out.below hb); clear HO_h; have HO_h := HO_h'; clear HO_h'
  have HB21 := Lib.hid (HB20.out.trans (hb.mono HB20.out.size)); clear hb HB20
  go_wp2_with fail
  go_ret
  exact ⟨rfl, HB21.out⟩
end Go.Proofs.YtnbcobhcemjbnaaDoor.Wds
