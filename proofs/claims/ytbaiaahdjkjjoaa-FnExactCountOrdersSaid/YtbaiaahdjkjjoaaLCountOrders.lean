/-
  The walk of the law of CountOrders: the code answers as the model, for all arguments; nothing that was there has changed.
-/
import Derived.Test.YtbaiaahdjkjjoaaSCount
import Derived.Test.YtbaiaahdjkjjoaaOpenS
namespace Go.Proofs.Ytbaiaahdjkjjoaa.Wds
open Go.RowKit
set_option linter.unusedVariables false

set_option maxHeartbeats 2000000 in
set_option maxRecDepth 100000 in
theorem law_countOrders (A_code : Option Addr) (n_code c_code : Nat) (zz_code : List Sc.St) (w : World) (w_code : RowS w A_code n_code zz_code) :
    Calls Try.prog 8 #[.slice A_code n_code c_code] w fun e w' => e = .returned (.bool true) ∧ Below w.heap.size w w' := by
  obtain ⟨z_code, hr_code⟩ : ∃ zs, RdS w w.heap.size A_code n_code zs := ⟨_, w_code.1⟩
  have hm_code := w_code.2
  have HR_code := Lib.hid hr_code; clear hr_code w_code
  by_cases l_code : n_code ≤ 1048576
  rotate_left
  · have l1 : 1048576 < n_code := by omega
    clear l_code
    go_enter Try.func8, Try.ntmps8
    go_wp2_with fail
    refine (szS_out _ _ _ _ _ (by omega) (by omega) hm_code).mono ?_
    rintro e w' ⟨rfl, rfl⟩
    go_wp2
    go_ret
    exact ⟨rfl, Below.refl _ _⟩
  have hS : ∀ (W : World) (A_code : Option Addr) (c_code : Nat) (B_code : Nat), n_code ≤ c_code → RdS W B_code A_code n_code z_code → Calls Try.prog 28 #[.slice A_code n_code c_code] W (RetIB (count2 z_code).1 (count2 z_code).2 W) :=
    fun W A_code c_code B_code cc_code r_code => sCountOrders_any A_code n_code c_code z_code B_code W l_code cc_code r_code
  have hI : ∀ (W : World) (A_code : Option Addr) (c_code : Nat) (B_code : Nat), n_code ≤ c_code → RdS W B_code A_code n_code z_code → Calls Try.prog 11 #[.slice A_code n_code c_code] W (RetIB (count2 z_code).1 (count2 z_code).2 W) :=
    fun W A_code c_code B_code cc_code r_code => iCountOrders_any A_code n_code c_code z_code B_code W l_code cc_code r_code
  generalize (count2 z_code).1 = rv at hS hI
  generalize (count2 z_code).2 = ok at hS hI
  have HS := Lib.hid hS; clear hS
  have HI := Lib.hid hI; clear hI
  have HB0 : Hid (Below w.heap.size w w) := Below.refl _ _
  go_enter Try.func8, Try.ntmps8
  go_wp2_with fail
  refine (szS_in _ _ _ _ _ (by omega) (by omega)).mono ?_
  rintro e w' ⟨rfl, rfl⟩
  have sz_code : ¬ ((1048576 : Int) - (n_code : Int) < 0) := by omega
  go_wp2_with fail
  refine (toSS_any A_code n_code c_code z_code w.heap.size _ l_code (HR_code.out.belowB HB0.out (Nat.le_refl _))).mono ?_
  rintro e w1 ⟨g1, rfl, ho, hb⟩
  have hs1 := hb.size
  have HB1 := Lib.hid (HB0.out.trans (hb.mono HB0.out.size)); clear hb HB0
  have HO_ccode := Lib.hid ho; clear ho
  go_wp2_with fail
  refine (HS.out _ _ _ _ (Nat.le_refl _) HO_ccode.out.rd).mono ?_
  rintro e w2 ⟨rfl, hb⟩
  have hs2 := hb.size
  have HO_ccode' := Lib.hid (HO_ccode.out.below hb); clear HO_ccode; have HO_ccode := HO_ccode'; clear HO_ccode'
  have HB2 := Lib.hid (HB1.out.trans (hb.mono HB1.out.size)); clear hb HB1
  clear HO_ccode
  go_wp2_with fail
  refine (toSS_any A_code n_code c_code z_code w.heap.size _ l_code (HR_code.out.belowB HB2.out (Nat.le_refl _))).mono ?_
  rintro e w3 ⟨g3, rfl, ho, hb⟩
  have hs3 := hb.size
  have HB3 := Lib.hid (HB2.out.trans (hb.mono HB2.out.size)); clear hb HB2
  have HO_xcode := Lib.hid ho; clear ho
  go_wp2_with fail
  refine (HI.out _ _ _ _ (Nat.le_refl _) HO_xcode.out.rd).mono ?_
  rintro e w4 ⟨rfl, hb⟩
  have hs4 := hb.size
  have HO_xcode' := Lib.hid (HO_xcode.out.below hb); clear HO_xcode; have HO_xcode := HO_xcode'; clear HO_xcode'
  have HB4 := Lib.hid (HB3.out.trans (hb.mono HB3.out.size)); clear hb HB3
  go_wp2_with fail
  refine (toSS_any A_code n_code c_code z_code w.heap.size _ l_code (HR_code.out.belowB HB4.out (Nat.le_refl _))).mono ?_
  rintro e w5 ⟨g5, rfl, ho, hb⟩
  have hs5 := hb.size
  have HO_xcode' := Lib.hid (HO_xcode.out.below hb); clear HO_xcode; have HO_xcode := HO_xcode'; clear HO_xcode'
  have HB5 := Lib.hid (HB4.out.trans (hb.mono HB4.out.size)); clear hb HB4
  have HO_ycode := Lib.hid ho; clear ho
  go_wp2_with fail
  refine (eqSS_same _ _ _ _ _ z_code _ _ _ l_code HO_xcode.out.rd HO_ycode.out.rd).mono ?_
  rintro e w6 ⟨rfl, hb⟩
  have hs6 := hb.size
  have HO_xcode' := Lib.hid (HO_xcode.out.below hb); clear HO_xcode; have HO_xcode := HO_xcode'; clear HO_xcode'
  have HO_ycode' := Lib.hid (HO_ycode.out.below hb); clear HO_ycode; have HO_ycode := HO_ycode'; clear HO_ycode'
  have HB6 := Lib.hid (HB5.out.trans (hb.mono HB5.out.size)); clear hb HB5
  clear HO_ycode
  go_wp2_with fail
  go_ret
  exact ⟨rfl, HB6.out⟩
end Go.Proofs.Ytbaiaahdjkjjoaa.Wds
