/-
  The walk of the law of WidthOf: the code answers as the model, for all arguments; nothing that was there has changed.
-/
import Derived.Test.YtafmpjlelpkdaaaWidth
import Derived.Test.YtafmpjlelpkdaaaSWidth
import Derived.Test.YtafmpjlelpkdaaaOpenG
namespace Go.Proofs.Ytafmpjlelpkdaaa.Wds
open Go.RowKit
set_option linter.unusedVariables false

set_option maxHeartbeats 2000000 in
set_option maxRecDepth 100000 in
theorem law_widthOf (A_rs : Option Addr) (n_rs c_rs : Nat) (zz_rs : List Rg.R) (w : World) (w_rs : RowG w A_rs n_rs zz_rs) :
    Calls Try.prog 17 #[.slice A_rs n_rs c_rs] w fun e w' => e = .returned (.bool true) ∧ Below w.heap.size w w' := by
  obtain ⟨z_rs, hr_rs⟩ : ∃ zs, RdG w w.heap.size A_rs n_rs zs := ⟨_, w_rs.1⟩
  have hm_rs := w_rs.2
  have HR_rs := Lib.hid hr_rs; clear hr_rs w_rs
  by_cases l_rs : n_rs ≤ 1048576
  rotate_left
  · have l1 : 1048576 < n_rs := by omega
    clear l_rs
    go_enter Try.func17, Try.ntmps17
    go_wp2_with fail
    refine (szG_out _ _ _ _ _ (by omega) (by omega) hm_rs).mono ?_
    rintro e w' ⟨rfl, rfl⟩
    go_wp2
    go_ret
    exact ⟨rfl, Below.refl _ _⟩
  have hS : ∀ (W : World) (A_rs : Option Addr) (c_rs : Nat) (B_rs : Nat), RdG W B_rs A_rs n_rs z_rs → Calls Try.prog 58 #[.slice A_rs n_rs c_rs] W (RetIB (Rg.widthOf z_rs).1 (Rg.widthOf z_rs).2 W) :=
    fun W A_rs c_rs B_rs r_rs => sWidthOf_any A_rs n_rs c_rs z_rs B_rs W l_rs r_rs
  have hI : ∀ (W : World) (A_rs : Option Addr) (c_rs : Nat) (B_rs : Nat), RdG W B_rs A_rs n_rs z_rs → Calls Try.prog 59 #[.slice A_rs n_rs c_rs] W (RetIB (Rg.widthOf z_rs).1 (Rg.widthOf z_rs).2 W) :=
    fun W A_rs c_rs B_rs r_rs => iWidthOf_any A_rs n_rs c_rs z_rs B_rs W l_rs r_rs
  generalize (Rg.widthOf z_rs).1 = rv at hS hI
  generalize (Rg.widthOf z_rs).2 = ok at hS hI
  have HS := Lib.hid hS; clear hS
  have HI := Lib.hid hI; clear hI
  have HB0 : Hid (Below w.heap.size w w) := Lib.hid (Below.refl _ _)
  go_enter Try.func17, Try.ntmps17
  go_wp2_with fail
  refine (szG_in _ _ _ _ _ (by omega) (by omega)).mono ?_
  rintro e w' ⟨rfl, rfl⟩
  have sz_rs : ¬ ((1048576 : Int) - (n_rs : Int) < 0) := by omega
  go_wp2_with fail
  refine (toGS_any A_rs n_rs c_rs z_rs w.heap.size _ l_rs (HR_rs.out.belowB HB0.out (Nat.le_refl _))).mono ?_
  rintro e w1 ⟨g1, rfl, ho, hb⟩
  have hs1 := hb.size
  have HB1 := Lib.hid (HB0.out.trans (hb.mono HB0.out.size)); clear hb HB0
  have HO_crs := Lib.hid ho; clear ho
  go_wp2_with fail
  refine (HS.out _ _ _ _ HO_crs.out.rd).mono ?_
  rintro e w2 ⟨rfl, hb⟩
  have hs2 := hb.size
  have HO_crs' := Lib.hid (HO_crs.out.below hb); clear HO_crs; have HO_crs := HO_crs'; clear HO_crs'
  have HB2 := Lib.hid (HB1.out.trans (hb.mono HB1.out.size)); clear hb HB1
  clear HO_crs
  go_wp2_with fail
  refine (toGS_any A_rs n_rs c_rs z_rs w.heap.size _ l_rs (HR_rs.out.belowB HB2.out (Nat.le_refl _))).mono ?_
  rintro e w3 ⟨g3, rfl, ho, hb⟩
  have hs3 := hb.size
  have HB3 := Lib.hid (HB2.out.trans (hb.mono HB2.out.size)); clear hb HB2
  have HO_xrs := Lib.hid ho; clear ho
  go_wp2_with fail
  refine (HI.out _ _ _ _ HO_xrs.out.rd).mono ?_
  rintro e w4 ⟨rfl, hb⟩
  have hs4 := hb.size
  have HO_xrs' := Lib.hid (HO_xrs.out.below hb); clear HO_xrs; have HO_xrs := HO_xrs'; clear HO_xrs'
  have HB4 := Lib.hid (HB3.out.trans (hb.mono HB3.out.size)); clear hb HB3
  go_wp2_with fail
  refine (toGS_any A_rs n_rs c_rs z_rs w.heap.size _ l_rs (HR_rs.out.belowB HB4.out (Nat.le_refl _))).mono ?_
  rintro e w5 ⟨g5, rfl, ho, hb⟩
  have hs5 := hb.size
  have HO_xrs' := Lib.hid (HO_xrs.out.below hb); clear HO_xrs; have HO_xrs := HO_xrs'; clear HO_xrs'
  have HB5 := Lib.hid (HB4.out.trans (hb.mono HB4.out.size)); clear hb HB4
  have HO_yrs := Lib.hid ho; clear ho
  go_wp2_with fail
  refine (eqGS_same _ _ _ _ _ z_rs _ _ _ l_rs HO_xrs.out.rd HO_yrs.out.rd).mono ?_
  rintro e w6 ⟨rfl, hb⟩
  have hs6 := hb.size
  have HO_xrs' := Lib.hid (HO_xrs.out.below hb); clear HO_xrs; have HO_xrs := HO_xrs'; clear HO_xrs'
  have HO_yrs' := Lib.hid (HO_yrs.out.below hb); clear HO_yrs; have HO_yrs := HO_yrs'; clear HO_yrs'
  have HB6 := Lib.hid (HB5.out.trans (hb.mono HB5.out.size)); clear hb HB5
  clear HO_yrs
  go_wp2_with fail
  go_ret
  exact ⟨rfl, HB6.out⟩
end Go.Proofs.Ytafmpjlelpkdaaa.Wds
