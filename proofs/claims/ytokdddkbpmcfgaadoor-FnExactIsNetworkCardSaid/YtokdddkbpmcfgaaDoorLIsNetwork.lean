/-
  The walk of the law of IsNetwork: the code answers as the model, for all arguments; nothing that was there has changed.
-/
import Derived.Test.YtokdddkbpmcfgaaDoorOpenR
import Derived.Test.YtokdddkbpmcfgaaDoorNet
namespace Go.Proofs.YtokdddkbpmcfgaaDoor.Wds
open Go.RowKit
set_option linter.unusedVariables false

set_option maxHeartbeats 4000000 in
set_option maxRecDepth 100000 in
theorem law_isNetwork (n : Int) (A_sw : Option Addr) (n_sw c_sw : Nat) (zz_sw : List (List Int)) (w : World) (w_sw : IsRows w A_sw n_sw c_sw zz_sw) (hPREM : TabT64 w) :
    Calls Tryd.prog 4 #[.int .i64 n, .slice A_sw n_sw c_sw] w fun e w' => e = .returned (.bool true) ∧ Below w.heap.size w w' := by
  obtain ⟨z_sw, hr_sw, hx_sw, hy_sw⟩ : ∃ zs, RdR w w.heap.size A_sw n_sw zs ∧ n_sw ≤ 9223372036854775807 ∧ ∀ k, k < n_sw → (zs.getD k []).length ≤ 9223372036854775807 := ⟨zz_sw, w_sw.1, w_sw.2.1, w_sw.2.2⟩
  have HY_sw := Lib.hid hy_sw; clear hy_sw
  have HR_sw := Lib.hid hr_sw; clear hr_sw w_sw
  have HPREM := Lib.hid hPREM; clear hPREM
  have hsz := szR_any A_sw n_sw c_sw z_sw w.heap.size w 1048576 (by omega) (by omega) hx_sw HY_sw.out HR_sw.out
  by_cases l_sw : Ln.totL z_sw ≤ 1048576
  rotate_left
  · rw [leftR_out (by omega)] at hsz
    have HSZ := Lib.hid hsz; clear hsz
    go_enter Tryd.func4, Tryd.ntmps4
    go_wp2_with fail
    refine HSZ.out.mono ?_
    rintro e w1 ⟨rfl, hb⟩
    have HB := Lib.hid hb; clear hb
    go_wp2
    go_ret
    exact ⟨rfl, HB.out⟩
  rw [leftR_in (by omega)] at hsz
  obtain ⟨lf_sw, hlf⟩ : ∃ v : Int, v = 1048576 - (Ln.totL z_sw : Int) := ⟨_, rfl⟩
  rw [← hlf] at hsz
  have lf0_sw : 0 ≤ lf_sw := by omega
  have hsl_sw : Ln.sumL z_sw ≤ 1048576 := by unfold Ln.totL at l_sw; omega
  have HSZ_sw := Lib.hid hsz; clear hsz hlf hx_sw
  have hS : ∀ (W : World) (A_sw : Option Addr) (c_sw : Nat) (B_sw : Nat), RdR W B_sw A_sw n_sw z_sw → Calls Tryd.prog 21 #[.int .i64 n, .slice A_sw n_sw c_sw] W (RetB (Ln.netOk n z_sw) W) :=
    fun W A_sw c_sw B_sw r_sw => sIsNetwork_any n A_sw n_sw c_sw z_sw B_sw W l_sw r_sw
  have hI : ∀ (W : World) (A_sw : Option Addr) (c_sw : Nat) (B_sw : Nat), RdR W B_sw A_sw n_sw z_sw → TabT64 W → Calls Tryd.prog 15 #[.int .i64 n, .slice A_sw n_sw c_sw] W (RetB (Ln.netOk n z_sw) W) :=
    fun W A_sw c_sw B_sw r_sw hEE => iIsNetwork_any n A_sw n_sw c_sw z_sw B_sw W l_sw r_sw hEE
  generalize Ln.netOk n z_sw = ok at hS hI
  have HS := Lib.hid hS; clear hS
  have HI := Lib.hid hI; clear hI
  have HB0 : Hid (Below w.heap.size w w) := Below.refl _ _
  go_enter Tryd.func4, Tryd.ntmps4
  go_wp2_with fail
  refine HSZ_sw.out.mono ?_
  rintro e w1 ⟨rfl, hb⟩
  have hs1 := hb.size
  have HB1 := Lib.hid (HB0.out.trans (hb.mono HB0.out.size)); clear hb HB0
  go_wp2_with fail
  refine (toR_any A_sw n_sw c_sw z_sw w.heap.size _ l_sw (HR_sw.out.belowB HB1.out (Nat.le_refl _))).mono ?_
  rintro e w2 ⟨g2, rfl, ho, hb⟩
  have hs2 := hb.size
  have HB2 := Lib.hid (HB1.out.trans (hb.mono HB1.out.size)); clear hb HB1
  have HO_csw := Lib.hid ho; clear ho
  go_wp2_with fail
  refine (HS.out _ _ _ _ HO_csw.out.rd).mono ?_
  rintro e w3 ⟨rfl, hb⟩
  have hs3 := hb.size
  have HO_csw' := Lib.hid (HO_csw.out.below hb); clear HO_csw; have HO_csw := HO_csw'; clear HO_csw'
  have HB3 := Lib.hid (HB2.out.trans (hb.mono HB2.out.size)); clear hb HB2
  clear HO_csw
  go_wp2_with fail
  refine (toR_any A_sw n_sw c_sw z_sw w.heap.size _ l_sw (HR_sw.out.belowB HB3.out (Nat.le_refl _))).mono ?_
  rintro e w4 ⟨g4, rfl, ho, hb⟩
  have hs4 := hb.size
  have HB4 := Lib.hid (HB3.out.trans (hb.mono HB3.out.size)); clear hb HB3
  have HO_xsw := Lib.hid ho; clear ho
  go_wp2_with fail
  refine (HI.out _ _ _ _ HO_xsw.out.rd (HPREM.out.below HB4.out HPREM.out.lt)).mono ?_
  rintro e w5 ⟨rfl, hb⟩
  have hs5 := hb.size
  have HO_xsw' := Lib.hid (HO_xsw.out.below hb); clear HO_xsw; have HO_xsw := HO_xsw'; clear HO_xsw'
  have HB5 := Lib.hid (HB4.out.trans (hb.mono HB4.out.size)); clear hb HB4
  go_wp2_with fail
  refine (toR_any A_sw n_sw c_sw z_sw w.heap.size _ l_sw (HR_sw.out.belowB HB5.out (Nat.le_refl _))).mono ?_
  rintro e w6 ⟨g6, rfl, ho, hb⟩
  have hs6 := hb.size
  have HO_xsw' := Lib.hid (HO_xsw.out.below hb); clear HO_xsw; have HO_xsw := HO_xsw'; clear HO_xsw'
  have HB6 := Lib.hid (HB5.out.trans (hb.mono HB5.out.size)); clear hb HB5
  have HO_ysw := Lib.hid ho; clear ho
  go_wp2_with fail
  refine (eqR_same _ _ _ _ _ z_sw _ _ _ l_sw HO_xsw.out.rd HO_ysw.out.rd).mono ?_
  rintro e w7 ⟨rfl, hb⟩
  have hs7 := hb.size
  have HO_xsw' := Lib.hid (HO_xsw.out.below hb); clear HO_xsw; have HO_xsw := HO_xsw'; clear HO_xsw'
  have HO_ysw' := Lib.hid (HO_ysw.out.below hb); clear HO_ysw; have HO_ysw := HO_ysw'; clear HO_ysw'
  have HB7 := Lib.hid (HB6.out.trans (hb.mono HB6.out.size)); clear hb HB6
  clear HO_ysw
  go_wp2_with fail
  go_ret
  exact ⟨rfl, HB7.out⟩
end Go.Proofs.YtokdddkbpmcfgaaDoor.Wds
