/-
  The walk of the law of TransposeStep: the code answers as the model, for all arguments; nothing that was there has changed.
-/
import Derived.Test.YtokdddkbpmcfgaaOpenR
import Derived.Test.YtokdddkbpmcfgaaSTst
import Derived.Test.YtokdddkbpmcfgaaTst2
namespace Go.Proofs.Ytokdddkbpmcfgaa.Wds
open Go.RowKit
set_option linter.unusedVariables false

set_option maxHeartbeats 4000000 in
set_option maxRecDepth 100000 in
theorem law_transposeStep (b : Int) (A_rows : Option Addr) (n_rows c_rows : Nat) (zz_rows : List (List Int)) (f : Int) (w : World) (w_rows : IsRows w A_rows n_rows c_rows zz_rows) :
    Calls Try.prog 15 #[.int .i64 b, .slice A_rows n_rows c_rows, .int .i64 f] w fun e w' => e = .returned (.bool true) ∧ Below w.heap.size w w' := by
  obtain ⟨z_rows, hr_rows, hx_rows, hy_rows⟩ : ∃ zs, RdR w w.heap.size A_rows n_rows zs ∧ n_rows ≤ 9223372036854775807 ∧ ∀ k, k < n_rows → (zs.getD k []).length ≤ 9223372036854775807 := ⟨zz_rows, w_rows.1, w_rows.2.1, w_rows.2.2⟩
  have HY_rows := Lib.hid hy_rows; clear hy_rows
  have HR_rows := Lib.hid hr_rows; clear hr_rows w_rows
  have hsz := szR_any A_rows n_rows c_rows z_rows w.heap.size w 1048576 (by omega) (by omega) hx_rows HY_rows.out HR_rows.out
  by_cases l_rows : Ln.totL z_rows ≤ 1048576
  rotate_left
  · rw [leftR_out (by omega)] at hsz
    have HSZ := Lib.hid hsz; clear hsz
    go_enter Try.func15, Try.ntmps15
    go_wp2_with fail
    refine HSZ.out.mono ?_
    rintro e w1 ⟨rfl, hb⟩
    have HB := Lib.hid hb; clear hb
    go_wp2
    go_ret
    exact ⟨rfl, HB.out⟩
  rw [leftR_in (by omega)] at hsz
  obtain ⟨lf_rows, hlf⟩ : ∃ v : Int, v = 1048576 - (Ln.totL z_rows : Int) := ⟨_, rfl⟩
  rw [← hlf] at hsz
  have lf0_rows : 0 ≤ lf_rows := by omega
  have hsl_rows : Ln.sumL z_rows ≤ 1048576 := by unfold Ln.totL at l_rows; omega
  have HSZ_rows := Lib.hid hsz; clear hsz hlf hx_rows
  have hS : ∀ (W : World) (A_rows : Option Addr) (c_rows : Nat) (B_rows : Nat), RdR W B_rows A_rows n_rows z_rows → Calls Try.prog 53 #[.int .i64 b, .slice A_rows n_rows c_rows, .int .i64 f] W (Read1R (Ln.tstep b z_rows f).1 (Ln.tstep b z_rows f).2 W) :=
    fun W A_rows c_rows B_rows r_rows => sTransposeStep_any b A_rows n_rows c_rows z_rows B_rows f W l_rows r_rows
  have hI : ∀ (W : World) (A_rows : Option Addr) (c_rows : Nat) (B_rows : Nat), RdR W B_rows A_rows n_rows z_rows → Calls Try.prog 31 #[.int .i64 b, .slice A_rows n_rows c_rows, .int .i64 f] W (Ret1R (Ln.tstep b z_rows f).1 (Ln.tstep b z_rows f).2 W) :=
    fun W A_rows c_rows B_rows r_rows => iTransposeStep_any b A_rows n_rows c_rows z_rows B_rows f W l_rows r_rows
  have htot : Ln.totL (Ln.tstep b z_rows f).1 ≤ 1048576 := Ln.tot_tstep b z_rows f
  generalize (Ln.tstep b z_rows f).1 = rz at hS hI htot
  generalize (Ln.tstep b z_rows f).2 = ok at hS hI
  have hslr : Ln.sumL rz ≤ 1048576 := by unfold Ln.totL at htot; omega
  have HS := Lib.hid hS; clear hS
  have HI := Lib.hid hI; clear hI
  have HB0 : Hid (Below w.heap.size w w) := Below.refl _ _
  go_enter Try.func15, Try.ntmps15
  go_wp2_with fail
  refine HSZ_rows.out.mono ?_
  rintro e w1 ⟨rfl, hb⟩
  have hs1 := hb.size
  have HB1 := Lib.hid (HB0.out.trans (hb.mono HB0.out.size)); clear hb HB0
  go_wp2_with fail
  refine (toR_any A_rows n_rows c_rows z_rows w.heap.size _ l_rows (HR_rows.out.belowB HB1.out (Nat.le_refl _))).mono ?_
  rintro e w2 ⟨g2, rfl, ho, hb⟩
  have hs2 := hb.size
  have HB2 := Lib.hid (HB1.out.trans (hb.mono HB1.out.size)); clear hb HB1
  have HO_crows := Lib.hid ho; clear ho
  go_wp2_with fail
  refine (HS.out _ _ _ _ HO_crows.out.rd).mono ?_
  rintro e w3 ⟨A_w, n_w, c_w, rfl, ho, hb⟩
  have hs3 := hb.size
  have HO_crows' := Lib.hid (HO_crows.out.below hb); clear HO_crows; have HO_crows := HO_crows'; clear HO_crows'
  have HB3 := Lib.hid (HB2.out.trans (hb.mono HB2.out.size)); clear hb HB2
  have HO_w := Lib.hid ho; clear ho
  clear HO_crows
  go_wp2_with fail
  refine (toR_any A_rows n_rows c_rows z_rows w.heap.size _ l_rows (HR_rows.out.belowB HB3.out (Nat.le_refl _))).mono ?_
  rintro e w4 ⟨g4, rfl, ho, hb⟩
  have hs4 := hb.size
  have HO_w' := Lib.hid (HO_w.out.below hb); clear HO_w; have HO_w := HO_w'; clear HO_w'
  have HB4 := Lib.hid (HB3.out.trans (hb.mono HB3.out.size)); clear hb HB3
  have HO_xrows := Lib.hid ho; clear ho
  go_wp2_with fail
  refine (HI.out _ _ _ _ HO_xrows.out.rd).mono ?_
  rintro e w5 ⟨A_g, n_g, c_g, rfl, ho, hb⟩
  have hs5 := hb.size
  have HO_w' := Lib.hid (HO_w.out.below hb); clear HO_w; have HO_w := HO_w'; clear HO_w'
  have HO_xrows' := Lib.hid (HO_xrows.out.below hb); clear HO_xrows; have HO_xrows := HO_xrows'; clear HO_xrows'
  have HB5 := Lib.hid (HB4.out.trans (hb.mono HB4.out.size)); clear hb HB4
  have HO_g := Lib.hid ho; clear ho
  obtain rfl : n_w = n_g := HO_w.out.len.symm.trans HO_g.out.len
  go_wp2_with fail
  refine (eqR_same _ _ _ _ _ rz _ _ _ htot HO_g.out.rd HO_w.out.rd).mono ?_
  rintro e w6 ⟨rfl, hb⟩
  have hs6 := hb.size
  have HO_w' := Lib.hid (HO_w.out.below hb); clear HO_w; have HO_w := HO_w'; clear HO_w'
  have HO_xrows' := Lib.hid (HO_xrows.out.below hb); clear HO_xrows; have HO_xrows := HO_xrows'; clear HO_xrows'
  have HO_g' := Lib.hid (HO_g.out.below hb); clear HO_g; have HO_g := HO_g'; clear HO_g'
  have HB6 := Lib.hid (HB5.out.trans (hb.mono HB5.out.size)); clear hb HB5
  go_wp2_with fail
  refine (toR_any A_rows n_rows c_rows z_rows w.heap.size _ l_rows (HR_rows.out.belowB HB6.out (Nat.le_refl _))).mono ?_
  rintro e w7 ⟨g7, rfl, ho, hb⟩
  have hs7 := hb.size
  have HO_w' := Lib.hid (HO_w.out.below hb); clear HO_w; have HO_w := HO_w'; clear HO_w'
  have HO_xrows' := Lib.hid (HO_xrows.out.below hb); clear HO_xrows; have HO_xrows := HO_xrows'; clear HO_xrows'
  have HO_g' := Lib.hid (HO_g.out.below hb); clear HO_g; have HO_g := HO_g'; clear HO_g'
  have HB7 := Lib.hid (HB6.out.trans (hb.mono HB6.out.size)); clear hb HB6
  have HO_yrows := Lib.hid ho; clear ho
  go_wp2_with fail
  refine (eqR_same _ _ _ _ _ z_rows _ _ _ l_rows HO_xrows.out.rd HO_yrows.out.rd).mono ?_
  rintro e w8 ⟨rfl, hb⟩
  have hs8 := hb.size
  have HO_w' := Lib.hid (HO_w.out.below hb); clear HO_w; have HO_w := HO_w'; clear HO_w'
  have HO_xrows' := Lib.hid (HO_xrows.out.below hb); clear HO_xrows; have HO_xrows := HO_xrows'; clear HO_xrows'
  have HO_g' := Lib.hid (HO_g.out.below hb); clear HO_g; have HO_g := HO_g'; clear HO_g'
  have HO_yrows' := Lib.hid (HO_yrows.out.below hb); clear HO_yrows; have HO_yrows := HO_yrows'; clear HO_yrows'
  have HB8 := Lib.hid (HB7.out.trans (hb.mono HB7.out.size)); clear hb HB7
  clear HO_yrows
  go_wp2_with fail
  refine (markR_any _ _ _ z_rows w3.heap.size w4.heap.size _ _ l_rows (by omega) (by omega) HO_xrows.out).mono ?_
  rintro e w9 ⟨rfl, ho, hc⟩
  have hs9 := hc.size
  have HO_w' := Lib.hid (HO_w.out.ch hc (by omega)); clear HO_w; have HO_w := HO_w'; clear HO_w'
  have HO_g' := Lib.hid (HO_g.out.ch hc (by omega)); clear HO_g; have HO_g := HO_g'; clear HO_g'
  clear HO_xrows; have HO_xrows := Lib.hid ho; clear ho
  have HB9 := Lib.hid (HB8.out.trans (hc.below (B := w.heap.size) (by omega) (by omega))); clear hc HB8
  go_wp2_with fail
  refine (eqR_same _ _ _ _ _ rz _ _ _ htot HO_g.out.rd HO_w.out.rd).mono ?_
  rintro e w10 ⟨rfl, hb⟩
  have hs10 := hb.size
  have HO_w' := Lib.hid (HO_w.out.below hb); clear HO_w; have HO_w := HO_w'; clear HO_w'
  have HO_xrows' := Lib.hid (HO_xrows.out.below hb); clear HO_xrows; have HO_xrows := HO_xrows'; clear HO_xrows'
  have HO_g' := Lib.hid (HO_g.out.below hb); clear HO_g; have HO_g := HO_g'; clear HO_g'
  have HB10 := Lib.hid (HB9.out.trans (hb.mono HB9.out.size)); clear hb HB9
  go_wp2_with fail
  refine (markR_any _ _ _ rz w4.heap.size w5.heap.size _ _ htot (by omega) (by omega) HO_g.out).mono ?_
  rintro e w11 ⟨rfl, ho, hc⟩
  have hs11 := hc.size
  have HO_w' := Lib.hid (HO_w.out.ch hc (by omega)); clear HO_w; have HO_w := HO_w'; clear HO_w'
  have HO_xrows' := Lib.hid (HO_xrows.out.ch hc (by omega)); clear HO_xrows; have HO_xrows := HO_xrows'; clear HO_xrows'
  clear HO_g; have HO_g := Lib.hid ho; clear ho
  have HB11 := Lib.hid (HB10.out.trans (hc.below (B := w.heap.size) (by omega) (by omega))); clear hc HB10
  go_wp2_with fail
  refine (heldR_any _ _ _ rz _ _ _ htot (by omega) (by omega) HO_g.out.rd).mono ?_
  rintro e w12 ⟨rfl, hb⟩
  have hs12 := hb.size
  have HO_w' := Lib.hid (HO_w.out.below hb); clear HO_w; have HO_w := HO_w'; clear HO_w'
  have HO_xrows' := Lib.hid (HO_xrows.out.below hb); clear HO_xrows; have HO_xrows := HO_xrows'; clear HO_xrows'
  have HO_g' := Lib.hid (HO_g.out.below hb); clear HO_g; have HO_g := HO_g'; clear HO_g'
  have HB12 := Lib.hid (HB11.out.trans (hb.mono HB11.out.size)); clear hb HB11
  clear HO_xrows
  go_wp2_with fail
  refine (toR_any A_rows n_rows c_rows z_rows w.heap.size _ l_rows (HR_rows.out.belowB HB12.out (Nat.le_refl _))).mono ?_
  rintro e w13 ⟨g13, rfl, ho, hb⟩
  have hs13 := hb.size
  have HO_w' := Lib.hid (HO_w.out.below hb); clear HO_w; have HO_w := HO_w'; clear HO_w'
  have HO_g' := Lib.hid (HO_g.out.below hb); clear HO_g; have HO_g := HO_g'; clear HO_g'
  have HB13 := Lib.hid (HB12.out.trans (hb.mono HB12.out.size)); clear hb HB12
  have HO_vrows := Lib.hid ho; clear ho
  go_wp2_with fail
  refine (HI.out _ _ _ _ HO_vrows.out.rd).mono ?_
  rintro e w14 ⟨A_h, n_h, c_h, rfl, ho, hb⟩
  have hs14 := hb.size
  have HO_w' := Lib.hid (HO_w.out.below hb); clear HO_w; have HO_w := HO_w'; clear HO_w'
  have HO_g' := Lib.hid (HO_g.out.below hb); clear HO_g; have HO_g := HO_g'; clear HO_g'
  have HO_vrows' := Lib.hid (HO_vrows.out.below hb); clear HO_vrows; have HO_vrows := HO_vrows'; clear HO_vrows'
  have HB14 := Lib.hid (HB13.out.trans (hb.mono HB13.out.size)); clear hb HB13
  have HO_h := Lib.hid ho; clear ho
  obtain rfl : n_w = n_h := HO_w.out.len.symm.trans HO_h.out.len
  go_wp2_with fail
  refine (eqR_same _ _ _ _ _ rz _ _ _ htot HO_h.out.rd HO_w.out.rd).mono ?_
  rintro e w15 ⟨rfl, hb⟩
  have hs15 := hb.size
  have HO_w' := Lib.hid (HO_w.out.below hb); clear HO_w; have HO_w := HO_w'; clear HO_w'
  have HO_g' := Lib.hid (HO_g.out.below hb); clear HO_g; have HO_g := HO_g'; clear HO_g'
  have HO_vrows' := Lib.hid (HO_vrows.out.below hb); clear HO_vrows; have HO_vrows := HO_vrows'; clear HO_vrows'
  have HO_h' := Lib.hid (HO_h.out.below hb); clear HO_h; have HO_h := HO_h'; clear HO_h'
  have HB15 := Lib.hid (HB14.out.trans (hb.mono HB14.out.size)); clear hb HB14
  go_wp2_with fail
  refine (heldR_any _ _ _ rz _ _ _ htot (by omega) (by omega) HO_g.out.rd).mono ?_
  rintro e w16 ⟨rfl, hb⟩
  have hs16 := hb.size
  have HO_w' := Lib.hid (HO_w.out.below hb); clear HO_w; have HO_w := HO_w'; clear HO_w'
  have HO_g' := Lib.hid (HO_g.out.below hb); clear HO_g; have HO_g := HO_g'; clear HO_g'
  have HO_vrows' := Lib.hid (HO_vrows.out.below hb); clear HO_vrows; have HO_vrows := HO_vrows'; clear HO_vrows'
  have HO_h' := Lib.hid (HO_h.out.below hb); clear HO_h; have HO_h := HO_h'; clear HO_h'
  have HB16 := Lib.hid (HB15.out.trans (hb.mono HB15.out.size)); clear hb HB15
  go_wp2_with fail
  go_ret
  exact ⟨rfl, HB16.out⟩
end Go.Proofs.Ytokdddkbpmcfgaa.Wds
