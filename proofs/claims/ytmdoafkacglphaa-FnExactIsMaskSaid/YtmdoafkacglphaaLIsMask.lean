/-
  The walk of the law of IsMask: the code answers as the model, for all arguments; nothing that was there has changed.
-/
import Derived.Test.YtmdoafkacglphaaVecW
namespace Go.Proofs.Ytmdoafkacglphaa.Wds
open Go.RowKit
set_option linter.unusedVariables false

set_option maxHeartbeats 2000000 in
set_option maxRecDepth 100000 in
theorem law_isMask (A_mask : Option Addr) (n_mask c_mask : Nat) (zz_mask : List Int) (w : World) (w_mask : IsRow .i64 w A_mask n_mask c_mask zz_mask) :
    Calls Try.prog 5 #[.slice A_mask n_mask c_mask] w fun e w' => e = .returned (.bool true) ∧ Below w.heap.size w w' := by
  obtain ⟨z_mask, hr_mask⟩ : ∃ zs, Rd w w.heap.size A_mask n_mask zs := ⟨_, Rd.of_row w_mask⟩
  have HR_mask := Lib.hid hr_mask; clear hr_mask w_mask
  by_cases l_mask : n_mask ≤ 1048576
  rotate_left
  · have l1 : 1048576 < n_mask := by omega
    clear l_mask
    go_enter Try.func5, Try.ntmps5
    go_wp2
    go_ret
    exact ⟨rfl, Below.refl _ _⟩
  have hS : ∀ (W : World) (A_mask : Option Addr) (c_mask : Nat) (B_mask : Nat), Rd W B_mask A_mask n_mask z_mask → Calls Try.prog 31 #[.slice A_mask n_mask c_mask] W (RetB (Ln.msk z_mask) W) :=
    fun W A_mask c_mask B_mask r_mask => sIsMask_any A_mask n_mask c_mask z_mask B_mask W l_mask r_mask
  have hI : ∀ (W : World) (A_mask : Option Addr) (c_mask : Nat) (B_mask : Nat), Rd W B_mask A_mask n_mask z_mask → Calls Try.prog 32 #[.slice A_mask n_mask c_mask] W (RetB (Ln.msk z_mask) W) :=
    fun W A_mask c_mask B_mask r_mask => iIsMask_any A_mask n_mask c_mask z_mask B_mask W l_mask r_mask
  generalize Ln.msk z_mask = ok at hS hI
  have HS := Lib.hid hS; clear hS
  have HI := Lib.hid hI; clear hI
  have HB0 : Hid (Below w.heap.size w w) := Below.refl _ _
  go_enter Try.func5, Try.ntmps5
  go_wp2_with fail
  refine (toS_any A_mask n_mask c_mask z_mask w.heap.size _ l_mask (HR_mask.out.belowB HB0.out (Nat.le_refl _))).mono ?_
  rintro e w1 ⟨g1, rfl, ho, hb⟩
  have hs1 := hb.size
  have HB1 := Lib.hid (HB0.out.trans (hb.mono HB0.out.size)); clear hb HB0
  have HO_cmask := Lib.hid ho; clear ho
  go_wp2_with fail
  refine (HS.out _ _ _ _ HO_cmask.out.rd).mono ?_
  rintro e w2 ⟨rfl, hb⟩
  have hs2 := hb.size
  have HO_cmask' := Lib.hid (HO_cmask.out.below hb); clear HO_cmask; have HO_cmask := HO_cmask'; clear HO_cmask'
  have HB2 := Lib.hid (HB1.out.trans (hb.mono HB1.out.size)); clear hb HB1
  clear HO_cmask
  go_wp2_with fail
  refine (toS_any A_mask n_mask c_mask z_mask w.heap.size _ l_mask (HR_mask.out.belowB HB2.out (Nat.le_refl _))).mono ?_
  rintro e w3 ⟨g3, rfl, ho, hb⟩
  have hs3 := hb.size
  have HB3 := Lib.hid (HB2.out.trans (hb.mono HB2.out.size)); clear hb HB2
  have HO_xmask := Lib.hid ho; clear ho
  go_wp2_with fail
  refine (HI.out _ _ _ _ HO_xmask.out.rd).mono ?_
  rintro e w4 ⟨rfl, hb⟩
  have hs4 := hb.size
  have HO_xmask' := Lib.hid (HO_xmask.out.below hb); clear HO_xmask; have HO_xmask := HO_xmask'; clear HO_xmask'
  have HB4 := Lib.hid (HB3.out.trans (hb.mono HB3.out.size)); clear hb HB3
  go_wp2_with fail
  refine (toS_any A_mask n_mask c_mask z_mask w.heap.size _ l_mask (HR_mask.out.belowB HB4.out (Nat.le_refl _))).mono ?_
  rintro e w5 ⟨g5, rfl, ho, hb⟩
  have hs5 := hb.size
  have HO_xmask' := Lib.hid (HO_xmask.out.below hb); clear HO_xmask; have HO_xmask := HO_xmask'; clear HO_xmask'
  have HB5 := Lib.hid (HB4.out.trans (hb.mono HB4.out.size)); clear hb HB4
  have HO_ymask := Lib.hid ho; clear ho
  go_wp2_with fail
  refine (eqS_same _ _ _ _ _ z_mask _ _ _ l_mask HO_xmask.out.rd HO_ymask.out.rd).mono ?_
  rintro e w6 ⟨rfl, hb⟩
  have hs6 := hb.size
  have HO_xmask' := Lib.hid (HO_xmask.out.below hb); clear HO_xmask; have HO_xmask := HO_xmask'; clear HO_xmask'
  have HO_ymask' := Lib.hid (HO_ymask.out.below hb); clear HO_ymask; have HO_ymask := HO_ymask'; clear HO_ymask'
  have HB6 := Lib.hid (HB5.out.trans (hb.mono HB5.out.size)); clear hb HB5
  clear HO_ymask
  go_wp2_with fail
  go_ret
  exact ⟨rfl, HB6.out⟩
end Go.Proofs.Ytmdoafkacglphaa.Wds
