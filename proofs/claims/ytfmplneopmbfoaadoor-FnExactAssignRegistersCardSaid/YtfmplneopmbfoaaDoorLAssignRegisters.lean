/-
  The walk of the law of AssignRegisters: the code answers as the model, for all arguments; nothing that was there has changed.
-/
import Derived.Test.YtfmplneopmbfoaaDoorSAr
import Derived.Test.YtfmplneopmbfoaaDoorArI
import Derived.Test.YtfmplneopmbfoaaDoorOpenG
import Derived.Test.YtfmplneopmbfoaaDoorMkG
namespace Go.Proofs.YtfmplneopmbfoaaDoor.Wds
open Go.RowKit
set_option linter.unusedVariables false

set_option maxHeartbeats 2000000 in
set_option maxRecDepth 100000 in
theorem law_assignRegisters (A_rs : Option Addr) (n_rs c_rs : Nat) (zz_rs : List Rg.R) (r : Int) (w : World) (w_rs : RowG w A_rs n_rs zz_rs) (hTab : TabT w) :
    Calls Tryd.prog 5 #[.slice A_rs n_rs c_rs, .int .i64 r] w fun e w' => e = .returned (.bool true) ∧ Below w.heap.size w w' := by
  obtain ⟨z_rs, hr_rs⟩ : ∃ zs, RdG w w.heap.size A_rs n_rs zs := ⟨_, w_rs.1⟩
  have hm_rs := w_rs.2
  have HR_rs := Lib.hid hr_rs; clear hr_rs w_rs
  have HT := Lib.hid hTab; clear hTab
  by_cases l_rs : n_rs ≤ 1048576
  rotate_left
  · have l1 : 1048576 < n_rs := by omega
    clear l_rs
    go_enter Tryd.func5, Tryd.ntmps5
    go_wp2_with fail
    refine (szG_out _ _ _ _ _ (by omega) (by omega) hm_rs).mono ?_
    rintro e w' ⟨rfl, rfl⟩
    go_wp2
    go_ret
    exact ⟨rfl, Below.refl _ _⟩
  have hS : ∀ (W : World) (A_rs : Option Addr) (c_rs : Nat) (B_rs : Nat), RdG W B_rs A_rs n_rs z_rs → Calls Tryd.prog 16 #[.slice A_rs n_rs c_rs, .int .i64 r] W (Ret1 (Ar.assign z_rs r).1 (Ar.assign z_rs r).2 W) :=
    fun W A_rs c_rs B_rs r_rs => sAssignRegisters_any A_rs n_rs c_rs z_rs B_rs r W l_rs r_rs
  have hI : ∀ (W : World) (A_rs : Option Addr) (c_rs : Nat) (B_rs : Nat), RdG W B_rs A_rs n_rs z_rs → TabT W → Calls Tryd.prog 11 #[.slice A_rs n_rs c_rs, .int .i64 r] W (Ret1 (Ar.assign z_rs r).1 (Ar.assign z_rs r).2 W) :=
    fun W A_rs c_rs B_rs r_rs qtab => iAssignRegisters_any A_rs n_rs c_rs z_rs B_rs r W l_rs r_rs qtab
  generalize (Ar.assign z_rs r).1 = rz at hS hI
  generalize (Ar.assign z_rs r).2 = ok at hS hI
  have HS := Lib.hid hS; clear hS
  have HI := Lib.hid hI; clear hI
  have HB0 : Hid (Below w.heap.size w w) := Lib.hid (Below.refl _ _)
  go_enter Tryd.func5, Tryd.ntmps5
  go_wp2_with fail
  refine (szG_in _ _ _ _ _ (by omega) (by omega)).mono ?_
  rintro e w' ⟨rfl, rfl⟩
  have sz_rs : ¬ ((1048576 : Int) - (n_rs : Int) < 0) := by omega
  go_wp2_with fail
  refine (toGS_any A_rs n_rs c_rs z_rs w.heap.size _ l_rs (HR_rs.out.belowB HB0.out (Nat.le_refl _))).mono ?_
  rintro e w1 ⟨g1, rfl, ho, hb⟩
  have hs1 := hb.size
  have HB1 := Lib.hid (HB0.out.trans (hb.mono HB0.out.size)); clear hb HB0
  have HO_crs := Lib.hid ho; clear ho
  go_wp2_with fail
  refine (HS.out _ _ _ _ HO_crs.out.rd).mono ?_
  rintro e w2 ⟨A_w, n_w, c_w, rfl, ho, hn_w, hb⟩
  have hs2 := hb.size
  have HO_crs' := Lib.hid (HO_crs.out.below hb); clear HO_crs; have HO_crs := HO_crs'; clear HO_crs'
  have HB2 := Lib.hid (HB1.out.trans (hb.mono HB1.out.size)); clear hb HB1
  have HO_w := Lib.hid ho; clear ho
  clear HO_crs
  go_wp2_with fail
  refine (toGS_any A_rs n_rs c_rs z_rs w.heap.size _ l_rs (HR_rs.out.belowB HB2.out (Nat.le_refl _))).mono ?_
  rintro e w3 ⟨g3, rfl, ho, hb⟩
  have hs3 := hb.size
  have HO_w' := Lib.hid (HO_w.out.below hb); clear HO_w; have HO_w := HO_w'; clear HO_w'
  have HB3 := Lib.hid (HB2.out.trans (hb.mono HB2.out.size)); clear hb HB2
  have HO_xrs := Lib.hid ho; clear ho
  go_wp2_with fail
  refine (HI.out _ _ _ _ HO_xrs.out.rd (HT.out.below HB3.out HT.out.lt)).mono ?_
  rintro e w4 ⟨A_g, n_g, c_g, rfl, ho, hn_g, hb⟩
  have hs4 := hb.size
  have HO_w' := Lib.hid (HO_w.out.below hb); clear HO_w; have HO_w := HO_w'; clear HO_w'
  have HO_xrs' := Lib.hid (HO_xrs.out.below hb); clear HO_xrs; have HO_xrs := HO_xrs'; clear HO_xrs'
  have HB4 := Lib.hid (HB3.out.trans (hb.mono HB3.out.size)); clear hb HB3
  have HO_g := Lib.hid ho; clear ho
  obtain rfl : n_w = n_g := HO_w.out.len.symm.trans HO_g.out.len
  go_wp2_with fail
  refine (eqS_same _ _ _ _ _ rz _ _ _ hn_w HO_g.out.rd HO_w.out.rd).mono ?_
  rintro e w5 ⟨rfl, hb⟩
  have hs5 := hb.size
  have HO_w' := Lib.hid (HO_w.out.below hb); clear HO_w; have HO_w := HO_w'; clear HO_w'
  have HO_xrs' := Lib.hid (HO_xrs.out.below hb); clear HO_xrs; have HO_xrs := HO_xrs'; clear HO_xrs'
  have HO_g' := Lib.hid (HO_g.out.below hb); clear HO_g; have HO_g := HO_g'; clear HO_g'
  have HB5 := Lib.hid (HB4.out.trans (hb.mono HB4.out.size)); clear hb HB4
  go_wp2_with fail
  refine (toGS_any A_rs n_rs c_rs z_rs w.heap.size _ l_rs (HR_rs.out.belowB HB5.out (Nat.le_refl _))).mono ?_
  rintro e w6 ⟨g6, rfl, ho, hb⟩
  have hs6 := hb.size
  have HO_w' := Lib.hid (HO_w.out.below hb); clear HO_w; have HO_w := HO_w'; clear HO_w'
  have HO_xrs' := Lib.hid (HO_xrs.out.below hb); clear HO_xrs; have HO_xrs := HO_xrs'; clear HO_xrs'
  have HO_g' := Lib.hid (HO_g.out.below hb); clear HO_g; have HO_g := HO_g'; clear HO_g'
  have HB6 := Lib.hid (HB5.out.trans (hb.mono HB5.out.size)); clear hb HB5
  have HO_yrs := Lib.hid ho; clear ho
  go_wp2_with fail
  refine (eqGS_same _ _ _ _ _ z_rs _ _ _ l_rs HO_xrs.out.rd HO_yrs.out.rd).mono ?_
  rintro e w7 ⟨rfl, hb⟩
  have hs7 := hb.size
  have HO_w' := Lib.hid (HO_w.out.below hb); clear HO_w; have HO_w := HO_w'; clear HO_w'
  have HO_xrs' := Lib.hid (HO_xrs.out.below hb); clear HO_xrs; have HO_xrs := HO_xrs'; clear HO_xrs'
  have HO_g' := Lib.hid (HO_g.out.below hb); clear HO_g; have HO_g := HO_g'; clear HO_g'
  have HO_yrs' := Lib.hid (HO_yrs.out.below hb); clear HO_yrs; have HO_yrs := HO_yrs'; clear HO_yrs'
  have HB7 := Lib.hid (HB6.out.trans (hb.mono HB6.out.size)); clear hb HB6
  clear HO_yrs
  go_wp2_with fail
  refine (markGS_any _ _ _ z_rs w2.heap.size w3.heap.size _ _ l_rs (by omega) (by omega) HO_xrs.out).mono ?_
  rintro e w8 ⟨rfl, ho, hc⟩
  have hs8 := hc.size
  have HO_w' := Lib.hid (HO_w.out.ch hc (by omega)); clear HO_w; have HO_w := HO_w'; clear HO_w'
  have HO_g' := Lib.hid (HO_g.out.ch hc (by omega)); clear HO_g; have HO_g := HO_g'; clear HO_g'
  clear HO_xrs; have HO_xrs := Lib.hid ho; clear ho
  have HB8 := Lib.hid (HB7.out.trans (hc.below (B := w.heap.size) (by omega) (by omega))); clear hc HB7
  go_wp2_with fail
  refine (eqS_same _ _ _ _ _ rz _ _ _ hn_w HO_g.out.rd HO_w.out.rd).mono ?_
  rintro e w9 ⟨rfl, hb⟩
  have hs9 := hb.size
  have HO_w' := Lib.hid (HO_w.out.below hb); clear HO_w; have HO_w := HO_w'; clear HO_w'
  have HO_xrs' := Lib.hid (HO_xrs.out.below hb); clear HO_xrs; have HO_xrs := HO_xrs'; clear HO_xrs'
  have HO_g' := Lib.hid (HO_g.out.below hb); clear HO_g; have HO_g := HO_g'; clear HO_g'
  have HB9 := Lib.hid (HB8.out.trans (hb.mono HB8.out.size)); clear hb HB8
  go_wp2_with fail
  refine (markS_any _ _ _ rz w3.heap.size w4.heap.size _ _ hn_w (by omega) (by omega) HO_g.out).mono ?_
  rintro e w10 ⟨rfl, ho, hc, hq⟩
  have hs10 := hc.size
  have HO_w' := Lib.hid (HO_w.out.ch hc (by omega)); clear HO_w; have HO_w := HO_w'; clear HO_w'
  have HO_xrs' := Lib.hid (HO_xrs.out.ch hc (by omega)); clear HO_xrs; have HO_xrs := HO_xrs'; clear HO_xrs'
  clear HO_g; have HO_g := Lib.hid ho; clear ho hq
  have HB10 := Lib.hid (HB9.out.trans (hc.below (B := w.heap.size) (by omega) (by omega))); clear hc HB9
  go_wp2_with fail
  refine (heldS_any _ _ _ _ _ _ hn_w (by omega) (by omega) HO_g.out.rd).mono ?_
  rintro e w11 ⟨rfl, hb⟩
  have hs11 := hb.size
  have HO_w' := Lib.hid (HO_w.out.below hb); clear HO_w; have HO_w := HO_w'; clear HO_w'
  have HO_xrs' := Lib.hid (HO_xrs.out.below hb); clear HO_xrs; have HO_xrs := HO_xrs'; clear HO_xrs'
  have HO_g' := Lib.hid (HO_g.out.below hb); clear HO_g; have HO_g := HO_g'; clear HO_g'
  have HB11 := Lib.hid (HB10.out.trans (hb.mono HB10.out.size)); clear hb HB10
  clear HO_xrs
  go_wp2_with fail
  refine (toGS_any A_rs n_rs c_rs z_rs w.heap.size _ l_rs (HR_rs.out.belowB HB11.out (Nat.le_refl _))).mono ?_
  rintro e w12 ⟨g12, rfl, ho, hb⟩
  have hs12 := hb.size
  have HO_w' := Lib.hid (HO_w.out.below hb); clear HO_w; have HO_w := HO_w'; clear HO_w'
  have HO_g' := Lib.hid (HO_g.out.below hb); clear HO_g; have HO_g := HO_g'; clear HO_g'
  have HB12 := Lib.hid (HB11.out.trans (hb.mono HB11.out.size)); clear hb HB11
  have HO_vrs := Lib.hid ho; clear ho
  go_wp2_with fail
  refine (HI.out _ _ _ _ HO_vrs.out.rd (HT.out.below HB12.out HT.out.lt)).mono ?_
  rintro e w13 ⟨A_h, n_h, c_h, rfl, ho, hn_h, hb⟩
  have hs13 := hb.size
  have HO_w' := Lib.hid (HO_w.out.below hb); clear HO_w; have HO_w := HO_w'; clear HO_w'
  have HO_g' := Lib.hid (HO_g.out.below hb); clear HO_g; have HO_g := HO_g'; clear HO_g'
  have HO_vrs' := Lib.hid (HO_vrs.out.below hb); clear HO_vrs; have HO_vrs := HO_vrs'; clear HO_vrs'
  have HB13 := Lib.hid (HB12.out.trans (hb.mono HB12.out.size)); clear hb HB12
  have HO_h := Lib.hid ho; clear ho
  obtain rfl : n_w = n_h := HO_w.out.len.symm.trans HO_h.out.len
  go_wp2_with fail
  refine (eqS_same _ _ _ _ _ rz _ _ _ hn_w HO_h.out.rd HO_w.out.rd).mono ?_
  rintro e w14 ⟨rfl, hb⟩
  have hs14 := hb.size
  have HO_w' := Lib.hid (HO_w.out.below hb); clear HO_w; have HO_w := HO_w'; clear HO_w'
  have HO_g' := Lib.hid (HO_g.out.below hb); clear HO_g; have HO_g := HO_g'; clear HO_g'
  have HO_vrs' := Lib.hid (HO_vrs.out.below hb); clear HO_vrs; have HO_vrs := HO_vrs'; clear HO_vrs'
  have HO_h' := Lib.hid (HO_h.out.below hb); clear HO_h; have HO_h := HO_h'; clear HO_h'
  have HB14 := Lib.hid (HB13.out.trans (hb.mono HB13.out.size)); clear hb HB13
  go_wp2_with fail
  refine (heldS_any _ _ _ _ _ _ hn_w (by omega) (by omega) HO_g.out.rd).mono ?_
  rintro e w15 ⟨rfl, hb⟩
  have hs15 := hb.size
  have HO_w' := Lib.hid (HO_w.out.below hb); clear HO_w; have HO_w := HO_w'; clear HO_w'
  have HO_g' := Lib.hid (HO_g.out.below hb); clear HO_g; have HO_g := HO_g'; clear HO_g'
  have HO_vrs' := Lib.hid (HO_vrs.out.below hb); clear HO_vrs; have HO_vrs := HO_vrs'; clear HO_vrs'
  have HO_h' := Lib.hid (HO_h.out.below hb); clear HO_h; have HO_h := HO_h'; clear HO_h'
  have HB15 := Lib.hid (HB14.out.trans (hb.mono HB14.out.size)); clear hb HB14
  go_wp2_with fail
  go_ret
  exact ⟨rfl, HB15.out⟩
end Go.Proofs.YtfmplneopmbfoaaDoor.Wds
