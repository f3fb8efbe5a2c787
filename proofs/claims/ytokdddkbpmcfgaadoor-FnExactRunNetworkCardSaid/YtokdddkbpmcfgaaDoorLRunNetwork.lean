/-
  The walk of the law of RunNetwork: the code answers as the model, for all arguments; nothing that was there has changed.
-/
import Derived.Test.YtokdddkbpmcfgaaDoorOpenR
import Derived.Test.YtokdddkbpmcfgaaDoorSRunNet
namespace Go.Proofs.YtokdddkbpmcfgaaDoor.Wds
open Go.RowKit
set_option linter.unusedVariables false

set_option maxHeartbeats 4000000 in
set_option maxRecDepth 100000 in
theorem law_runNetwork (b : Int) (A_sw : Option Addr) (n_sw c_sw : Nat) (zz_sw : List (List Int)) (A_a : Option Addr) (n_a c_a : Nat) (zz_a : List Int) (w : World) (w_sw : IsRows w A_sw n_sw c_sw zz_sw) (w_a : IsRow .i64 w A_a n_a c_a zz_a) (hPREM : TabT64 w) :
    Calls Tryd.prog 5 #[.int .i64 b, .slice A_sw n_sw c_sw, .slice A_a n_a c_a] w fun e w' => e = .returned (.bool true) ∧ Below w.heap.size w w' := by
  obtain ⟨z_sw, hr_sw, hx_sw, hy_sw⟩ : ∃ zs, RdR w w.heap.size A_sw n_sw zs ∧ n_sw ≤ 9223372036854775807 ∧ ∀ k, k < n_sw → (zs.getD k []).length ≤ 9223372036854775807 := ⟨zz_sw, w_sw.1, w_sw.2.1, w_sw.2.2⟩
  have HY_sw := Lib.hid hy_sw; clear hy_sw
  have HR_sw := Lib.hid hr_sw; clear hr_sw w_sw
  obtain ⟨z_a, hr_a⟩ : ∃ zs, Rd w w.heap.size A_a n_a zs := ⟨_, Rd.of_row w_a⟩
  have HR_a := Lib.hid hr_a; clear hr_a w_a
  have HPREM := Lib.hid hPREM; clear hPREM
  by_cases l_a : n_a ≤ 1048576
  rotate_left
  · have l1 : 1048576 < n_a := by omega
    clear l_a
    go_enter Tryd.func5, Tryd.ntmps5
    go_wp2
    go_ret
    exact ⟨rfl, Below.refl _ _⟩
  have hsz := szR_any A_sw n_sw c_sw z_sw w.heap.size w 1048576 (by omega) (by omega) hx_sw HY_sw.out HR_sw.out
  by_cases l_sw : Ln.totL z_sw ≤ 1048576
  rotate_left
  · rw [leftR_out (by omega)] at hsz
    have HSZ := Lib.hid hsz; clear hsz
    go_enter Tryd.func5, Tryd.ntmps5
    go_wp2_with fail
    refine HSZ.out.mono ?_
    rintro e w1 ⟨rfl, hb⟩
    have HB := Lib.hid hb; clear hb
    go_wp2
    go_ret
    exact ⟨rfl, HB.out⟩
  rw [leftR_in (by omega)] at hsz
  obtain ⟨lf_sw, hlf⟩ : ∃ v : Int, v = 1048576 - (Ln.totL z_sw : Int) := ⟨_, rfl⟩
  rw [← hlf] at hsz
  have lf0_sw : 0 ≤ lf_sw := by omega
  have hsl_sw : Ln.sumL z_sw ≤ 1048576 := by unfold Ln.totL at l_sw; omega
  have HSZ_sw := Lib.hid hsz; clear hsz hlf hx_sw
  have hS : ∀ (W : World) (A_sw : Option Addr) (c_sw : Nat) (B_sw : Nat) (A_a : Option Addr) (c_a : Nat) (B_a : Nat), RdR W B_sw A_sw n_sw z_sw → Rd W B_a A_a n_a z_a → Calls Tryd.prog 24 #[.int .i64 b, .slice A_sw n_sw c_sw, .slice A_a n_a c_a] W (Ret1 (Ln.runNet b z_sw z_a).1 (Ln.runNet b z_sw z_a).2 W) :=
    fun W A_sw c_sw B_sw A_a c_a B_a r_sw r_a => sRunNetwork_any b A_sw n_sw c_sw z_sw B_sw A_a n_a c_a z_a B_a W l_sw l_a r_sw r_a
  have hI : ∀ (W : World) (A_sw : Option Addr) (c_sw : Nat) (B_sw : Nat) (A_a : Option Addr) (c_a : Nat) (B_a : Nat), RdR W B_sw A_sw n_sw z_sw → Rd W B_a A_a n_a z_a → TabT64 W → Calls Tryd.prog 13 #[.int .i64 b, .slice A_sw n_sw c_sw, .slice A_a n_a c_a] W (Ret1 (Ln.runNet b z_sw z_a).1 (Ln.runNet b z_sw z_a).2 W) :=
    fun W A_sw c_sw B_sw A_a c_a B_a r_sw r_a hEE => iRunNetwork_any b A_sw n_sw c_sw z_sw B_sw A_a n_a c_a z_a B_a W l_sw l_a r_sw r_a hEE
  generalize (Ln.runNet b z_sw z_a).1 = rz at hS hI
  generalize (Ln.runNet b z_sw z_a).2 = ok at hS hI
  have HS := Lib.hid hS; clear hS
  have HI := Lib.hid hI; clear hI
  have HB0 : Hid (Below w.heap.size w w) := Below.refl _ _
  go_enter Tryd.func5, Tryd.ntmps5
  go_wp2_with fail
  refine HSZ_sw.out.mono ?_
  rintro e w1 ⟨rfl, hb⟩
  have hs1 := hb.size
  have HB1 := Lib.hid (HB0.out.trans (hb.mono HB0.out.size)); clear hb HB0
  go_wp2_with fail
  refine (toR_any A_sw n_sw c_sw z_sw w.heap.size _ l_sw (HR_sw.out.belowB HB1.out (Nat.le_refl _))).mono ?_
  rintro e w2 ⟨g2, rfl, ho, hb⟩
  have hs2 := hb.size
  have HB2 := Lib.hid (HB1.out.trans (hb.mono HB1.out.size)); clear hb HB1
  have HO_csw := Lib.hid ho; clear ho
  go_wp2_with fail
  refine (toS_any A_a n_a c_a z_a w.heap.size _ l_a (HR_a.out.belowB HB2.out (Nat.le_refl _))).mono ?_
  rintro e w3 ⟨g3, rfl, ho, hb⟩
  have hs3 := hb.size
  have HO_csw' := Lib.hid (HO_csw.out.below hb); clear HO_csw; have HO_csw := HO_csw'; clear HO_csw'
  have HB3 := Lib.hid (HB2.out.trans (hb.mono HB2.out.size)); clear hb HB2
  have HO_ca := Lib.hid ho; clear ho
  go_wp2_with fail
  refine (HS.out _ _ _ _ _ _ _ HO_csw.out.rd HO_ca.out.rd).mono ?_
  rintro e w4 ⟨A_w, n_w, c_w, rfl, ho, hn_w, hb⟩
  have hs4 := hb.size
  have HO_csw' := Lib.hid (HO_csw.out.below hb); clear HO_csw; have HO_csw := HO_csw'; clear HO_csw'
  have HO_ca' := Lib.hid (HO_ca.out.below hb); clear HO_ca; have HO_ca := HO_ca'; clear HO_ca'
  have HB4 := Lib.hid (HB3.out.trans (hb.mono HB3.out.size)); clear hb HB3
  have HO_w := Lib.hid ho; clear ho
  clear HO_csw
  clear HO_ca
  go_wp2_with fail
  refine (toR_any A_sw n_sw c_sw z_sw w.heap.size _ l_sw (HR_sw.out.belowB HB4.out (Nat.le_refl _))).mono ?_
  rintro e w5 ⟨g5, rfl, ho, hb⟩
  have hs5 := hb.size
  have HO_w' := Lib.hid (HO_w.out.below hb); clear HO_w; have HO_w := HO_w'; clear HO_w'
  have HB5 := Lib.hid (HB4.out.trans (hb.mono HB4.out.size)); clear hb HB4
  have HO_xsw := Lib.hid ho; clear ho
  go_wp2_with fail
  refine (toS_any A_a n_a c_a z_a w.heap.size _ l_a (HR_a.out.belowB HB5.out (Nat.le_refl _))).mono ?_
  rintro e w6 ⟨g6, rfl, ho, hb⟩
  have hs6 := hb.size
  have HO_w' := Lib.hid (HO_w.out.below hb); clear HO_w; have HO_w := HO_w'; clear HO_w'
  have HO_xsw' := Lib.hid (HO_xsw.out.below hb); clear HO_xsw; have HO_xsw := HO_xsw'; clear HO_xsw'
  have HB6 := Lib.hid (HB5.out.trans (hb.mono HB5.out.size)); clear hb HB5
  have HO_xa := Lib.hid ho; clear ho
  go_wp2_with fail
  refine (HI.out _ _ _ _ _ _ _ HO_xsw.out.rd HO_xa.out.rd (HPREM.out.below HB6.out HPREM.out.lt)).mono ?_
  rintro e w7 ⟨A_g, n_g, c_g, rfl, ho, hn_g, hb⟩
  have hs7 := hb.size
  have HO_w' := Lib.hid (HO_w.out.below hb); clear HO_w; have HO_w := HO_w'; clear HO_w'
  have HO_xsw' := Lib.hid (HO_xsw.out.below hb); clear HO_xsw; have HO_xsw := HO_xsw'; clear HO_xsw'
  have HO_xa' := Lib.hid (HO_xa.out.below hb); clear HO_xa; have HO_xa := HO_xa'; clear HO_xa'
  have HB7 := Lib.hid (HB6.out.trans (hb.mono HB6.out.size)); clear hb HB6
  have HO_g := Lib.hid ho; clear ho
  obtain rfl : n_w = n_g := HO_w.out.len.symm.trans HO_g.out.len
  go_wp2_with fail
  refine (eqS_same _ _ _ _ _ rz _ _ _ hn_w HO_g.out.rd HO_w.out.rd).mono ?_
  rintro e w8 ⟨rfl, hb⟩
  have hs8 := hb.size
  have HO_w' := Lib.hid (HO_w.out.below hb); clear HO_w; have HO_w := HO_w'; clear HO_w'
  have HO_xsw' := Lib.hid (HO_xsw.out.below hb); clear HO_xsw; have HO_xsw := HO_xsw'; clear HO_xsw'
  have HO_xa' := Lib.hid (HO_xa.out.below hb); clear HO_xa; have HO_xa := HO_xa'; clear HO_xa'
  have HO_g' := Lib.hid (HO_g.out.below hb); clear HO_g; have HO_g := HO_g'; clear HO_g'
  have HB8 := Lib.hid (HB7.out.trans (hb.mono HB7.out.size)); clear hb HB7
  go_wp2_with fail
  refine (toR_any A_sw n_sw c_sw z_sw w.heap.size _ l_sw (HR_sw.out.belowB HB8.out (Nat.le_refl _))).mono ?_
  rintro e w9 ⟨g9, rfl, ho, hb⟩
  have hs9 := hb.size
  have HO_w' := Lib.hid (HO_w.out.below hb); clear HO_w; have HO_w := HO_w'; clear HO_w'
  have HO_xsw' := Lib.hid (HO_xsw.out.below hb); clear HO_xsw; have HO_xsw := HO_xsw'; clear HO_xsw'
  have HO_xa' := Lib.hid (HO_xa.out.below hb); clear HO_xa; have HO_xa := HO_xa'; clear HO_xa'
  have HO_g' := Lib.hid (HO_g.out.below hb); clear HO_g; have HO_g := HO_g'; clear HO_g'
  have HB9 := Lib.hid (HB8.out.trans (hb.mono HB8.out.size)); clear hb HB8
  have HO_ysw := Lib.hid ho; clear ho
  go_wp2_with fail
  refine (eqR_same _ _ _ _ _ z_sw _ _ _ l_sw HO_xsw.out.rd HO_ysw.out.rd).mono ?_
  rintro e w10 ⟨rfl, hb⟩
  have hs10 := hb.size
  have HO_w' := Lib.hid (HO_w.out.below hb); clear HO_w; have HO_w := HO_w'; clear HO_w'
  have HO_xsw' := Lib.hid (HO_xsw.out.below hb); clear HO_xsw; have HO_xsw := HO_xsw'; clear HO_xsw'
  have HO_xa' := Lib.hid (HO_xa.out.below hb); clear HO_xa; have HO_xa := HO_xa'; clear HO_xa'
  have HO_g' := Lib.hid (HO_g.out.below hb); clear HO_g; have HO_g := HO_g'; clear HO_g'
  have HO_ysw' := Lib.hid (HO_ysw.out.below hb); clear HO_ysw; have HO_ysw := HO_ysw'; clear HO_ysw'
  have HB10 := Lib.hid (HB9.out.trans (hb.mono HB9.out.size)); clear hb HB9
  clear HO_ysw
  go_wp2_with fail
  refine (toS_any A_a n_a c_a z_a w.heap.size _ l_a (HR_a.out.belowB HB10.out (Nat.le_refl _))).mono ?_
  rintro e w11 ⟨g11, rfl, ho, hb⟩
  have hs11 := hb.size
  have HO_w' := Lib.hid (HO_w.out.below hb); clear HO_w; have HO_w := HO_w'; clear HO_w'
  have HO_xsw' := Lib.hid (HO_xsw.out.below hb); clear HO_xsw; have HO_xsw := HO_xsw'; clear HO_xsw'
  have HO_xa' := Lib.hid (HO_xa.out.below hb); clear HO_xa; have HO_xa := HO_xa'; clear HO_xa'
  have HO_g' := Lib.hid (HO_g.out.below hb); clear HO_g; have HO_g := HO_g'; clear HO_g'
  have HB11 := Lib.hid (HB10.out.trans (hb.mono HB10.out.size)); clear hb HB10
  have HO_ya := Lib.hid ho; clear ho
  go_wp2_with fail
  refine (eqS_same _ _ _ _ _ z_a _ _ _ l_a HO_xa.out.rd HO_ya.out.rd).mono ?_
  rintro e w12 ⟨rfl, hb⟩
  have hs12 := hb.size
  have HO_w' := Lib.hid (HO_w.out.below hb); clear HO_w; have HO_w := HO_w'; clear HO_w'
  have HO_xsw' := Lib.hid (HO_xsw.out.below hb); clear HO_xsw; have HO_xsw := HO_xsw'; clear HO_xsw'
  have HO_xa' := Lib.hid (HO_xa.out.below hb); clear HO_xa; have HO_xa := HO_xa'; clear HO_xa'
  have HO_g' := Lib.hid (HO_g.out.below hb); clear HO_g; have HO_g := HO_g'; clear HO_g'
  have HO_ya' := Lib.hid (HO_ya.out.below hb); clear HO_ya; have HO_ya := HO_ya'; clear HO_ya'
  have HB12 := Lib.hid (HB11.out.trans (hb.mono HB11.out.size)); clear hb HB11
  clear HO_ya
  go_wp2_with fail
  refine (markR_any _ _ _ z_sw w4.heap.size w5.heap.size _ _ l_sw (by omega) (by omega) HO_xsw.out).mono ?_
  rintro e w13 ⟨rfl, ho, hc⟩
  have hs13 := hc.size
  have HO_w' := Lib.hid (HO_w.out.ch hc (by omega)); clear HO_w; have HO_w := HO_w'; clear HO_w'
  have HO_xa' := Lib.hid (HO_xa.out.ch hc (by omega)); clear HO_xa; have HO_xa := HO_xa'; clear HO_xa'
  have HO_g' := Lib.hid (HO_g.out.ch hc (by omega)); clear HO_g; have HO_g := HO_g'; clear HO_g'
  clear HO_xsw; have HO_xsw := Lib.hid ho; clear ho
  have HB13 := Lib.hid (HB12.out.trans (hc.below (B := w.heap.size) (by omega) (by omega))); clear hc HB12
  go_wp2_with fail
  refine (markS_any _ _ _ z_a w5.heap.size w6.heap.size _ _ l_a (by omega) (by omega) HO_xa.out).mono ?_
  rintro e w14 ⟨rfl, ho, hc, hq⟩
  have hs14 := hc.size
  have HO_w' := Lib.hid (HO_w.out.ch hc (by omega)); clear HO_w; have HO_w := HO_w'; clear HO_w'
  have HO_xsw' := Lib.hid (HO_xsw.out.ch hc (by omega)); clear HO_xsw; have HO_xsw := HO_xsw'; clear HO_xsw'
  have HO_g' := Lib.hid (HO_g.out.ch hc (by omega)); clear HO_g; have HO_g := HO_g'; clear HO_g'
  clear HO_xa; have HO_xa := Lib.hid ho; clear ho hq
  have HB14 := Lib.hid (HB13.out.trans (hc.below (B := w.heap.size) (by omega) (by omega))); clear hc HB13
  go_wp2_with fail
  refine (eqS_same _ _ _ _ _ rz _ _ _ hn_w HO_g.out.rd HO_w.out.rd).mono ?_
  rintro e w15 ⟨rfl, hb⟩
  have hs15 := hb.size
  have HO_w' := Lib.hid (HO_w.out.below hb); clear HO_w; have HO_w := HO_w'; clear HO_w'
  have HO_xsw' := Lib.hid (HO_xsw.out.below hb); clear HO_xsw; have HO_xsw := HO_xsw'; clear HO_xsw'
  have HO_xa' := Lib.hid (HO_xa.out.below hb); clear HO_xa; have HO_xa := HO_xa'; clear HO_xa'
  have HO_g' := Lib.hid (HO_g.out.below hb); clear HO_g; have HO_g := HO_g'; clear HO_g'
  have HB15 := Lib.hid (HB14.out.trans (hb.mono HB14.out.size)); clear hb HB14
  go_wp2_with fail
  refine (markS_any _ _ _ rz w6.heap.size w7.heap.size _ _ hn_w (by omega) (by omega) HO_g.out).mono ?_
  rintro e w16 ⟨rfl, ho, hc, hq⟩
  have hs16 := hc.size
  have HO_w' := Lib.hid (HO_w.out.ch hc (by omega)); clear HO_w; have HO_w := HO_w'; clear HO_w'
  have HO_xsw' := Lib.hid (HO_xsw.out.ch hc (by omega)); clear HO_xsw; have HO_xsw := HO_xsw'; clear HO_xsw'
  have HO_xa' := Lib.hid (HO_xa.out.ch hc (by omega)); clear HO_xa; have HO_xa := HO_xa'; clear HO_xa'
  clear HO_g; have HO_g := Lib.hid ho; clear ho hq
  have HB16 := Lib.hid (HB15.out.trans (hc.below (B := w.heap.size) (by omega) (by omega))); clear hc HB15
  go_wp2_with fail
  refine (heldS_any _ _ _ _ _ _ hn_w (by omega) (by omega) HO_g.out.rd).mono ?_
  rintro e w17 ⟨rfl, hb⟩
  have hs17 := hb.size
  have HO_w' := Lib.hid (HO_w.out.below hb); clear HO_w; have HO_w := HO_w'; clear HO_w'
  have HO_xsw' := Lib.hid (HO_xsw.out.below hb); clear HO_xsw; have HO_xsw := HO_xsw'; clear HO_xsw'
  have HO_xa' := Lib.hid (HO_xa.out.below hb); clear HO_xa; have HO_xa := HO_xa'; clear HO_xa'
  have HO_g' := Lib.hid (HO_g.out.below hb); clear HO_g; have HO_g := HO_g'; clear HO_g'
  have HB17 := Lib.hid (HB16.out.trans (hb.mono HB16.out.size)); clear hb HB16
  clear HO_xsw
  clear HO_xa
  go_wp2_with fail
  refine (toR_any A_sw n_sw c_sw z_sw w.heap.size _ l_sw (HR_sw.out.belowB HB17.out (Nat.le_refl _))).mono ?_
  rintro e w18 ⟨g18, rfl, ho, hb⟩
  have hs18 := hb.size
  have HO_w' := Lib.hid (HO_w.out.below hb); clear HO_w; have HO_w := HO_w'; clear HO_w'
  have HO_g' := Lib.hid (HO_g.out.below hb); clear HO_g; have HO_g := HO_g'; clear HO_g'
  have HB18 := Lib.hid (HB17.out.trans (hb.mono HB17.out.size)); clear hb HB17
  have HO_vsw := Lib.hid ho; clear ho
  go_wp2_with fail
  refine (toS_any A_a n_a c_a z_a w.heap.size _ l_a (HR_a.out.belowB HB18.out (Nat.le_refl _))).mono ?_
  rintro e w19 ⟨g19, rfl, ho, hb⟩
  have hs19 := hb.size
  have HO_w' := Lib.hid (HO_w.out.below hb); clear HO_w; have HO_w := HO_w'; clear HO_w'
  have HO_g' := Lib.hid (HO_g.out.below hb); clear HO_g; have HO_g := HO_g'; clear HO_g'
  have HO_vsw' := Lib.hid (HO_vsw.out.below hb); clear HO_vsw; have HO_vsw := HO_vsw'; clear HO_vsw'
  have HB19 := Lib.hid (HB18.out.trans (hb.mono HB18.out.size)); clear hb HB18
  have HO_va := Lib.hid ho; clear ho
  go_wp2_with fail
  refine (HI.out _ _ _ _ _ _ _ HO_vsw.out.rd HO_va.out.rd (HPREM.out.below HB19.out HPREM.out.lt)).mono ?_
  rintro e w20 ⟨A_h, n_h, c_h, rfl, ho, hn_h, hb⟩
  have hs20 := hb.size
  have HO_w' := Lib.hid (HO_w.out.below hb); clear HO_w; have HO_w := HO_w'; clear HO_w'
  have HO_g' := Lib.hid (HO_g.out.below hb); clear HO_g; have HO_g := HO_g'; clear HO_g'
  have HO_vsw' := Lib.hid (HO_vsw.out.below hb); clear HO_vsw; have HO_vsw := HO_vsw'; clear HO_vsw'
  have HO_va' := Lib.hid (HO_va.out.below hb); clear HO_va; have HO_va := HO_va'; clear HO_va'
  have HB20 := Lib.hid (HB19.out.trans (hb.mono HB19.out.size)); clear hb HB19
  have HO_h := Lib.hid ho; clear ho
  obtain rfl : n_w = n_h := HO_w.out.len.symm.trans HO_h.out.len
  go_wp2_with fail
  refine (eqS_same _ _ _ _ _ rz _ _ _ hn_w HO_h.out.rd HO_w.out.rd).mono ?_
  rintro e w21 ⟨rfl, hb⟩
  have hs21 := hb.size
  have HO_w' := Lib.hid (HO_w.out.below hb); clear HO_w; have HO_w := HO_w'; clear HO_w'
  have HO_g' := Lib.hid (HO_g.out.below hb); clear HO_g; have HO_g := HO_g'; clear HO_g'
  have HO_vsw' := Lib.hid (HO_vsw.out.below hb); clear HO_vsw; have HO_vsw := HO_vsw'; clear HO_vsw'
  have HO_va' := Lib.hid (HO_va.out.below hb); clear HO_va; have HO_va := HO_va'; clear HO_va'
  have HO_h' := Lib.hid (HO_h.out.below hb); clear HO_h; have HO_h := HO_h'; clear HO_h'
  have HB21 := Lib.hid (HB20.out.trans (hb.mono HB20.out.size)); clear hb HB20
  go_wp2_with fail
  refine (heldS_any _ _ _ _ _ _ hn_w (by omega) (by omega) HO_g.out.rd).mono ?_
  rintro e w22 ⟨rfl, hb⟩
  have hs22 := hb.size
  have HO_w' := Lib.hid (HO_w.out.below hb); clear HO_w; have HO_w := HO_w'; clear HO_w'
  have HO_g' := Lib.hid (HO_g.out.below hb); clear HO_g; have HO_g := HO_g'; clear HO_g'
  have HO_vsw' := Lib.hid (HO_vsw.out.below hb); clear HO_vsw; have HO_vsw := HO_vsw'; clear HO_vsw'
  have HO_va' := Lib.hid (HO_va.out.below hb); clear HO_va; have HO_va := HO_va'; clear HO_va'
  have HO_h' := Lib.hid (HO_h.out.below hb); clear HO_h; have HO_h := HO_h'; clear HO_h'
  have HB22 := Lib.hid (HB21.out.trans (hb.mono HB21.out.size)); clear hb HB21
  go_wp2_with fail
  go_ret
  exact ⟨rfl, HB22.out⟩
end Go.Proofs.YtokdddkbpmcfgaaDoor.Wds
