/-
  The walk of the law of InputsOf: the code answers as the model, for all arguments; nothing that was there has changed.
-/
import Derived.Test.YtbaiaahdjkjjoaaDoorInps
import Derived.Test.YtbaiaahdjkjjoaaDoorOpenS
namespace Go.Proofs.YtbaiaahdjkjjoaaDoor.Wds
open Go.RowKit
set_option linter.unusedVariables false

set_option maxHeartbeats 2000000 in
set_option maxRecDepth 100000 in
theorem law_inputsOf (A_code : Option Addr) (n_code c_code : Nat) (zz_code : List Sc.St) (w : World) (w_code : RowS w A_code n_code zz_code) (hTab : TabT w) :
    Calls Tryd.prog 4 #[.slice A_code n_code c_code] w fun e w' => e = .returned (.bool true) ∧ Below w.heap.size w w' := by
  obtain ⟨z_code, hr_code⟩ : ∃ zs, RdS w w.heap.size A_code n_code zs := ⟨_, w_code.1⟩
  have hm_code := w_code.2
  have HR_code := Lib.hid hr_code; clear hr_code w_code
  have HT := Lib.hid hTab; clear hTab
  by_cases l_code : n_code ≤ 1048576
  rotate_left
  · have l1 : 1048576 < n_code := by omega
    clear l_code
    go_enter Tryd.func4, Tryd.ntmps4
    go_wp2_with fail
    refine (szS_out _ _ _ _ _ (by omega) (by omega) hm_code).mono ?_
    rintro e w' ⟨rfl, rfl⟩
    go_wp2
    go_ret
    exact ⟨rfl, Below.refl _ _⟩
  have hS : ∀ (W : World) (A_code : Option Addr) (c_code : Nat) (B_code : Nat), RdS W B_code A_code n_code z_code → Calls Tryd.prog 15 #[.slice A_code n_code c_code] W (Ret1 (ins2 z_code).1 (ins2 z_code).2 W) :=
    fun W A_code c_code B_code r_code => sInputsOf_any A_code n_code c_code z_code B_code W l_code r_code
  have hI : ∀ (W : World) (A_code : Option Addr) (c_code : Nat) (B_code : Nat), RdS W B_code A_code n_code z_code → TabT W → Calls Tryd.prog 16 #[.slice A_code n_code c_code] W (Ret1 (ins2 z_code).1 (ins2 z_code).2 W) :=
    fun W A_code c_code B_code r_code qtab => iInputsOf_any A_code n_code c_code z_code B_code W l_code r_code qtab
  generalize (ins2 z_code).1 = rz at hS hI
  generalize (ins2 z_code).2 = ok at hS hI
  have HS := Lib.hid hS; clear hS
  have HI := Lib.hid hI; clear hI
  have HB0 : Hid (Below w.heap.size w w) := Below.refl _ _
  go_enter Tryd.func4, Tryd.ntmps4
  go_wp2_with fail
  refine (szS_in _ _ _ _ _ (by omega) (by omega)).mono ?_
  rintro e w' ⟨rfl, rfl⟩
  have sz_code : ¬ ((1048576 : Int) - (n_code : Int) < 0) := by omega
  go_wp2_with fail
  refine (toSS_any A_code n_code c_code z_code w.heap.size _ l_code (HR_code.out.belowB HB0.out (Nat.le_refl _))).mono ?_
  rintro e w1 ⟨g1, rfl, ho, hb⟩
  have hs1 := hb.size
  have HB1 := Lib.hid (HB0.out.trans (hb.mono HB0.out.size)); clear hb HB0
  have HO_ccode := Lib.hid ho; clear ho
  go_wp2_with fail
  refine (HS.out _ _ _ _ HO_ccode.out.rd).mono ?_
  rintro e w2 ⟨A_w, n_w, c_w, rfl, ho, hn_w, hb⟩
  have hs2 := hb.size
  have HO_ccode' := Lib.hid (HO_ccode.out.below hb); clear HO_ccode; have HO_ccode := HO_ccode'; clear HO_ccode'
  have HB2 := Lib.hid (HB1.out.trans (hb.mono HB1.out.size)); clear hb HB1
  have HO_w := Lib.hid ho; clear ho
  clear HO_ccode
  go_wp2_with fail
  refine (toSS_any A_code n_code c_code z_code w.heap.size _ l_code (HR_code.out.belowB HB2.out (Nat.le_refl _))).mono ?_
  rintro e w3 ⟨g3, rfl, ho, hb⟩
  have hs3 := hb.size
  have HO_w' := Lib.hid (HO_w.out.below hb); clear HO_w; have HO_w := HO_w'; clear HO_w'
  have HB3 := Lib.hid (HB2.out.trans (hb.mono HB2.out.size)); clear hb HB2
  have HO_xcode := Lib.hid ho; clear ho
  go_wp2_with fail
  refine (HI.out _ _ _ _ HO_xcode.out.rd (HT.out.below HB3.out HT.out.lt)).mono ?_
  rintro e w4 ⟨A_g, n_g, c_g, rfl, ho, hn_g, hb⟩
  have hs4 := hb.size
  have HO_w' := Lib.hid (HO_w.out.below hb); clear HO_w; have HO_w := HO_w'; clear HO_w'
  have HO_xcode' := Lib.hid (HO_xcode.out.below hb); clear HO_xcode; have HO_xcode := HO_xcode'; clear HO_xcode'
  have HB4 := Lib.hid (HB3.out.trans (hb.mono HB3.out.size)); clear hb HB3
  have HO_g := Lib.hid ho; clear ho
  obtain rfl : n_w = n_g := HO_w.out.len.symm.trans HO_g.out.len
  go_wp2_with fail
  refine (eqS_same _ _ _ _ _ rz _ _ _ hn_w HO_g.out.rd HO_w.out.rd).mono ?_
  rintro e w5 ⟨rfl, hb⟩
  have hs5 := hb.size
  have HO_w' := Lib.hid (HO_w.out.below hb); clear HO_w; have HO_w := HO_w'; clear HO_w'
  have HO_xcode' := Lib.hid (HO_xcode.out.below hb); clear HO_xcode; have HO_xcode := HO_xcode'; clear HO_xcode'
  have HO_g' := Lib.hid (HO_g.out.below hb); clear HO_g; have HO_g := HO_g'; clear HO_g'
  have HB5 := Lib.hid (HB4.out.trans (hb.mono HB4.out.size)); clear hb HB4
  go_wp2_with fail
  refine (toSS_any A_code n_code c_code z_code w.heap.size _ l_code (HR_code.out.belowB HB5.out (Nat.le_refl _))).mono ?_
  rintro e w6 ⟨g6, rfl, ho, hb⟩
  have hs6 := hb.size
  have HO_w' := Lib.hid (HO_w.out.below hb); clear HO_w; have HO_w := HO_w'; clear HO_w'
  have HO_xcode' := Lib.hid (HO_xcode.out.below hb); clear HO_xcode; have HO_xcode := HO_xcode'; clear HO_xcode'
  have HO_g' := Lib.hid (HO_g.out.below hb); clear HO_g; have HO_g := HO_g'; clear HO_g'
  have HB6 := Lib.hid (HB5.out.trans (hb.mono HB5.out.size)); clear hb HB5
  have HO_ycode := Lib.hid ho; clear ho
  go_wp2_with fail
  refine (eqSS_same _ _ _ _ _ z_code _ _ _ l_code HO_xcode.out.rd HO_ycode.out.rd).mono ?_
  rintro e w7 ⟨rfl, hb⟩
  have hs7 := hb.size
  have HO_w' := Lib.hid (HO_w.out.below hb); clear HO_w; have HO_w := HO_w'; clear HO_w'
  have HO_xcode' := Lib.hid (HO_xcode.out.below hb); clear HO_xcode; have HO_xcode := HO_xcode'; clear HO_xcode'
  have HO_g' := Lib.hid (HO_g.out.below hb); clear HO_g; have HO_g := HO_g'; clear HO_g'
  have HO_ycode' := Lib.hid (HO_ycode.out.below hb); clear HO_ycode; have HO_ycode := HO_ycode'; clear HO_ycode'
  have HB7 := Lib.hid (HB6.out.trans (hb.mono HB6.out.size)); clear hb HB6
  clear HO_ycode
  go_wp2_with fail
  refine (markSS_any _ _ _ z_code w2.heap.size w3.heap.size _ _ l_code (by omega) (by omega) HO_xcode.out).mono ?_
  rintro e w8 ⟨rfl, ho, hc⟩
  have hs8 := hc.size
  have HO_w' := Lib.hid (HO_w.out.ch hc (by omega)); clear HO_w; have HO_w := HO_w'; clear HO_w'
  have HO_g' := Lib.hid (HO_g.out.ch hc (by omega)); clear HO_g; have HO_g := HO_g'; clear HO_g'
  clear HO_xcode; have HO_xcode := Lib.hid ho; clear ho
  have HB8 := Lib.hid (HB7.out.trans (hc.below (B := w.heap.size) (by omega) (by omega))); clear hc HB7
  go_wp2_with fail
  refine (eqS_same _ _ _ _ _ rz _ _ _ hn_w HO_g.out.rd HO_w.out.rd).mono ?_
  rintro e w9 ⟨rfl, hb⟩
  have hs9 := hb.size
  have HO_w' := Lib.hid (HO_w.out.below hb); clear HO_w; have HO_w := HO_w'; clear HO_w'
  have HO_xcode' := Lib.hid (HO_xcode.out.below hb); clear HO_xcode; have HO_xcode := HO_xcode'; clear HO_xcode'
  have HO_g' := Lib.hid (HO_g.out.below hb); clear HO_g; have HO_g := HO_g'; clear HO_g'
  have HB9 := Lib.hid (HB8.out.trans (hb.mono HB8.out.size)); clear hb HB8
  go_wp2_with fail
  refine (markS_any _ _ _ rz w3.heap.size w4.heap.size _ _ hn_w (by omega) (by omega) HO_g.out).mono ?_
  rintro e w10 ⟨rfl, ho, hc, hq⟩
  have hs10 := hc.size
  have HO_w' := Lib.hid (HO_w.out.ch hc (by omega)); clear HO_w; have HO_w := HO_w'; clear HO_w'
  have HO_xcode' := Lib.hid (HO_xcode.out.ch hc (by omega)); clear HO_xcode; have HO_xcode := HO_xcode'; clear HO_xcode'
  clear HO_g; have HO_g := Lib.hid ho; clear ho hq
  have HB10 := Lib.hid (HB9.out.trans (hc.below (B := w.heap.size) (by omega) (by omega))); clear hc HB9
  go_wp2_with fail
  refine (heldS_any _ _ _ _ _ _ hn_w (by omega) (by omega) HO_g.out.rd).mono ?_
  rintro e w11 ⟨rfl, hb⟩
  have hs11 := hb.size
  have HO_w' := Lib.hid (HO_w.out.below hb); clear HO_w; have HO_w := HO_w'; clear HO_w'
  have HO_xcode' := Lib.hid (HO_xcode.out.below hb); clear HO_xcode; have HO_xcode := HO_xcode'; clear HO_xcode'
  have HO_g' := Lib.hid (HO_g.out.below hb); clear HO_g; have HO_g := HO_g'; clear HO_g'
  have HB11 := Lib.hid (HB10.out.trans (hb.mono HB10.out.size)); clear hb HB10
  clear HO_xcode
  go_wp2_with fail
  refine (toSS_any A_code n_code c_code z_code w.heap.size _ l_code (HR_code.out.belowB HB11.out (Nat.le_refl _))).mono ?_
  rintro e w12 ⟨g12, rfl, ho, hb⟩
  have hs12 := hb.size
  have HO_w' := Lib.hid (HO_w.out.below hb); clear HO_w; have HO_w := HO_w'; clear HO_w'
  have HO_g' := Lib.hid (HO_g.out.below hb); clear HO_g; have HO_g := HO_g'; clear HO_g'
  have HB12 := Lib.hid (HB11.out.trans (hb.mono HB11.out.size)); clear hb HB11
  have HO_vcode := Lib.hid ho; clear ho
  go_wp2_with fail
  refine (HI.out _ _ _ _ HO_vcode.out.rd (HT.out.below HB12.out HT.out.lt)).mono ?_
  rintro e w13 ⟨A_h, n_h, c_h, rfl, ho, hn_h, hb⟩
  have hs13 := hb.size
  have HO_w' := Lib.hid (HO_w.out.below hb); clear HO_w; have HO_w := HO_w'; clear HO_w'
  have HO_g' := Lib.hid (HO_g.out.below hb); clear HO_g; have HO_g := HO_g'; clear HO_g'
  have HO_vcode' := Lib.hid (HO_vcode.out.below hb); clear HO_vcode; have HO_vcode := HO_vcode'; clear HO_vcode'
  have HB13 := Lib.hid (HB12.out.trans (hb.mono HB12.out.size)); clear hb HB12
  have HO_h := Lib.hid ho; clear ho
  obtain rfl : n_w = n_h := HO_w.out.len.symm.trans HO_h.out.len
  go_wp2_with fail
  refine (eqS_same _ _ _ _ _ rz _ _ _ hn_w HO_h.out.rd HO_w.out.rd).mono ?_
  rintro e w14 ⟨rfl, hb⟩
  have hs14 := hb.size
  have HO_w' := Lib.hid (HO_w.out.below hb); clear HO_w; have HO_w := HO_w'; clear HO_w'
  have HO_g' := Lib.hid (HO_g.out.below hb); clear HO_g; have HO_g := HO_g'; clear HO_g'
  have HO_vcode' := Lib.hid (HO_vcode.out.below hb); clear HO_vcode; have HO_vcode := HO_vcode'; clear HO_vcode'
  have HO_h' := Lib.hid (HO_h.out.below hb); clear HO_h; have HO_h := HO_h'; clear HO_h'
  have HB14 := Lib.hid (HB13.out.trans (hb.mono HB13.out.size)); clear hb HB13
  go_wp2_with fail
  refine (heldS_any _ _ _ _ _ _ hn_w (by omega) (by omega) HO_g.out.rd).mono ?_
  rintro e w15 ⟨rfl, hb⟩
  have hs15 := hb.size
  have HO_w' := Lib.hid (HO_w.out.below hb); clear HO_w; have HO_w := HO_w'; clear HO_w'
  have HO_g' := Lib.hid (HO_g.out.below hb); clear HO_g; have HO_g := HO_g'; clear HO_g'
  have HO_vcode' := Lib.hid (HO_vcode.out.below hb); clear HO_vcode; have HO_vcode := HO_vcode'; clear HO_vcode'
  have HO_h' := Lib.hid (HO_h.out.below hb); clear HO_h; have HO_h := HO_h'; clear HO_h'
  have HB15 := Lib.hid (HB14.out.trans (hb.mono HB14.out.size)); clear hb HB14
  go_wp2_with fail
  go_ret
  exact ⟨rfl, HB15.out⟩
end Go.Proofs.YtbaiaahdjkjjoaaDoor.Wds
