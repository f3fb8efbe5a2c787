/-
  The walk of the law of IsOrder: the code answers as the model, for all arguments; nothing that was there has changed.
-/
import Derived.Test.YtbaiaahdjkjjoaaSOrder
import Derived.Test.YtbaiaahdjkjjoaaOpenS
namespace Go.Proofs.Ytbaiaahdjkjjoaa.Wds
open Go.RowKit
set_option linter.unusedVariables false

set_option maxHeartbeats 2000000 in
set_option maxRecDepth 100000 in
theorem law_isOrder (A_code : Option Addr) (n_code c_code : Nat) (zz_code : List Sc.St) (A_order : Option Addr) (n_order c_order : Nat) (zz_order : List Int) (w : World) (w_code : RowS w A_code n_code zz_code) (w_order : IsRow .i64 w A_order n_order c_order zz_order) :
    Calls Try.prog 6 #[.slice A_code n_code c_code, .slice A_order n_order c_order] w fun e w' => e = .returned (.bool true) ∧ Below w.heap.size w w' := by
  obtain ⟨z_code, hr_code⟩ : ∃ zs, RdS w w.heap.size A_code n_code zs := ⟨_, w_code.1⟩
  have hm_code := w_code.2
  have HR_code := Lib.hid hr_code; clear hr_code w_code
  obtain ⟨z_order, hr_order⟩ : ∃ zs, Rd w w.heap.size A_order n_order zs := ⟨_, Rd.of_row w_order⟩
  have HR_order := Lib.hid hr_order; clear hr_order w_order
  by_cases l_order : n_order ≤ 1048576
  rotate_left
  · have l1 : 1048576 < n_order := by omega
    clear l_order
    go_enter Try.func6, Try.ntmps6
    go_wp2
    go_ret
    exact ⟨rfl, Below.refl _ _⟩
  by_cases l_code : n_code ≤ 1048576
  rotate_left
  · have l1 : 1048576 < n_code := by omega
    clear l_code
    go_enter Try.func6, Try.ntmps6
    go_wp2_with fail
    refine (szS_out _ _ _ _ _ (by omega) (by omega) hm_code).mono ?_
    rintro e w' ⟨rfl, rfl⟩
    go_wp2
    go_ret
    exact ⟨rfl, Below.refl _ _⟩
  have hS : ∀ (W : World) (A_code : Option Addr) (c_code : Nat) (B_code : Nat) (A_order : Option Addr) (c_order : Nat) (B_order : Nat), n_code ≤ c_code → n_order ≤ c_order → RdS W B_code A_code n_code z_code → Rd W B_order A_order n_order z_order → Calls Try.prog 20 #[.slice A_code n_code c_code, .slice A_order n_order c_order] W (RetB (Sc.isOrder z_code z_order) W) :=
    fun W A_code c_code B_code A_order c_order B_order cc_code cc_order r_code r_order => sIsOrder_any A_code n_code c_code z_code B_code A_order n_order c_order z_order B_order W l_code cc_code l_order cc_order r_code r_order
  have hI : ∀ (W : World) (A_code : Option Addr) (c_code : Nat) (B_code : Nat) (A_order : Option Addr) (c_order : Nat) (B_order : Nat), n_code ≤ c_code → n_order ≤ c_order → RdS W B_code A_code n_code z_code → Rd W B_order A_order n_order z_order → Calls Try.prog 12 #[.slice A_code n_code c_code, .slice A_order n_order c_order] W (RetB (Sc.isOrder z_code z_order) W) :=
    fun W A_code c_code B_code A_order c_order B_order cc_code cc_order r_code r_order => iIsOrder_any A_code n_code c_code z_code B_code A_order n_order c_order z_order B_order W l_code cc_code l_order cc_order r_code r_order
  generalize Sc.isOrder z_code z_order = ok at hS hI
  have HS := Lib.hid hS; clear hS
  have HI := Lib.hid hI; clear hI
  have HB0 : Hid (Below w.heap.size w w) := Below.refl _ _
  go_enter Try.func6, Try.ntmps6
  go_wp2_with fail
  refine (szS_in _ _ _ _ _ (by omega) (by omega)).mono ?_
  rintro e w' ⟨rfl, rfl⟩
  have sz_code : ¬ ((1048576 : Int) - (n_code : Int) < 0) := by omega
  go_wp2_with fail
  refine (toSS_any A_code n_code c_code z_code w.heap.size _ l_code (HR_code.out.belowB HB0.out (Nat.le_refl _))).mono ?_
  rintro e w1 ⟨g1, rfl, ho, hb⟩
  have hs1 := hb.size
  have HB1 := Lib.hid (HB0.out.trans (hb.mono HB0.out.size)); clear hb HB0
  have HO_ccode := Lib.hid ho; clear ho
  go_wp2_with fail
  refine (toS_any A_order n_order c_order z_order w.heap.size _ l_order (HR_order.out.belowB HB1.out (Nat.le_refl _))).mono ?_
  rintro e w2 ⟨g2, rfl, ho, hb⟩
  have hs2 := hb.size
  have HO_ccode' := Lib.hid (HO_ccode.out.below hb); clear HO_ccode; have HO_ccode := HO_ccode'; clear HO_ccode'
  have HB2 := Lib.hid (HB1.out.trans (hb.mono HB1.out.size)); clear hb HB1
  have HO_corder := Lib.hid ho; clear ho
  go_wp2_with fail
  refine (HS.out _ _ _ _ _ _ _ (Nat.le_refl _) (Nat.le_refl _) HO_ccode.out.rd HO_corder.out.rd).mono ?_
  rintro e w3 ⟨rfl, hb⟩
  have hs3 := hb.size
  have HO_ccode' := Lib.hid (HO_ccode.out.below hb); clear HO_ccode; have HO_ccode := HO_ccode'; clear HO_ccode'
  have HO_corder' := Lib.hid (HO_corder.out.below hb); clear HO_corder; have HO_corder := HO_corder'; clear HO_corder'
  have HB3 := Lib.hid (HB2.out.trans (hb.mono HB2.out.size)); clear hb HB2
  clear HO_ccode
  clear HO_corder
  go_wp2_with fail
  refine (toSS_any A_code n_code c_code z_code w.heap.size _ l_code (HR_code.out.belowB HB3.out (Nat.le_refl _))).mono ?_
  rintro e w4 ⟨g4, rfl, ho, hb⟩
  have hs4 := hb.size
  have HB4 := Lib.hid (HB3.out.trans (hb.mono HB3.out.size)); clear hb HB3
  have HO_xcode := Lib.hid ho; clear ho
  go_wp2_with fail
  refine (toS_any A_order n_order c_order z_order w.heap.size _ l_order (HR_order.out.belowB HB4.out (Nat.le_refl _))).mono ?_
  rintro e w5 ⟨g5, rfl, ho, hb⟩
  have hs5 := hb.size
  have HO_xcode' := Lib.hid (HO_xcode.out.below hb); clear HO_xcode; have HO_xcode := HO_xcode'; clear HO_xcode'
  have HB5 := Lib.hid (HB4.out.trans (hb.mono HB4.out.size)); clear hb HB4
  have HO_xorder := Lib.hid ho; clear ho
  go_wp2_with fail
  refine (HI.out _ _ _ _ _ _ _ (Nat.le_refl _) (Nat.le_refl _) HO_xcode.out.rd HO_xorder.out.rd).mono ?_
  rintro e w6 ⟨rfl, hb⟩
  have hs6 := hb.size
  have HO_xcode' := Lib.hid (HO_xcode.out.below hb); clear HO_xcode; have HO_xcode := HO_xcode'; clear HO_xcode'
  have HO_xorder' := Lib.hid (HO_xorder.out.below hb); clear HO_xorder; have HO_xorder := HO_xorder'; clear HO_xorder'
  have HB6 := Lib.hid (HB5.out.trans (hb.mono HB5.out.size)); clear hb HB5
  go_wp2_with fail
  refine (toSS_any A_code n_code c_code z_code w.heap.size _ l_code (HR_code.out.belowB HB6.out (Nat.le_refl _))).mono ?_
  rintro e w7 ⟨g7, rfl, ho, hb⟩
  have hs7 := hb.size
  have HO_xcode' := Lib.hid (HO_xcode.out.below hb); clear HO_xcode; have HO_xcode := HO_xcode'; clear HO_xcode'
  have HO_xorder' := Lib.hid (HO_xorder.out.below hb); clear HO_xorder; have HO_xorder := HO_xorder'; clear HO_xorder'
  have HB7 := Lib.hid (HB6.out.trans (hb.mono HB6.out.size)); clear hb HB6
  have HO_ycode := Lib.hid ho; clear ho
  go_wp2_with fail
  refine (eqSS_same _ _ _ _ _ z_code _ _ _ l_code HO_xcode.out.rd HO_ycode.out.rd).mono ?_
  rintro e w8 ⟨rfl, hb⟩
  have hs8 := hb.size
  have HO_xcode' := Lib.hid (HO_xcode.out.below hb); clear HO_xcode; have HO_xcode := HO_xcode'; clear HO_xcode'
  have HO_xorder' := Lib.hid (HO_xorder.out.below hb); clear HO_xorder; have HO_xorder := HO_xorder'; clear HO_xorder'
  have HO_ycode' := Lib.hid (HO_ycode.out.below hb); clear HO_ycode; have HO_ycode := HO_ycode'; clear HO_ycode'
  have HB8 := Lib.hid (HB7.out.trans (hb.mono HB7.out.size)); clear hb HB7
  clear HO_ycode
  go_wp2_with fail
  refine (toS_any A_order n_order c_order z_order w.heap.size _ l_order (HR_order.out.belowB HB8.out (Nat.le_refl _))).mono ?_
  rintro e w9 ⟨g9, rfl, ho, hb⟩
  have hs9 := hb.size
  have HO_xcode' := Lib.hid (HO_xcode.out.below hb); clear HO_xcode; have HO_xcode := HO_xcode'; clear HO_xcode'
  have HO_xorder' := Lib.hid (HO_xorder.out.below hb); clear HO_xorder; have HO_xorder := HO_xorder'; clear HO_xorder'
  have HB9 := Lib.hid (HB8.out.trans (hb.mono HB8.out.size)); clear hb HB8
  have HO_yorder := Lib.hid ho; clear ho
  go_wp2_with fail
  refine (eqS_same _ _ _ _ _ z_order _ _ _ l_order HO_xorder.out.rd HO_yorder.out.rd).mono ?_
  rintro e w10 ⟨rfl, hb⟩
  have hs10 := hb.size
  have HO_xcode' := Lib.hid (HO_xcode.out.below hb); clear HO_xcode; have HO_xcode := HO_xcode'; clear HO_xcode'
  have HO_xorder' := Lib.hid (HO_xorder.out.below hb); clear HO_xorder; have HO_xorder := HO_xorder'; clear HO_xorder'
  have HO_yorder' := Lib.hid (HO_yorder.out.below hb); clear HO_yorder; have HO_yorder := HO_yorder'; clear HO_yorder'
  have HB10 := Lib.hid (HB9.out.trans (hb.mono HB9.out.size)); clear hb HB9
  clear HO_yorder
  go_wp2_with fail
  go_ret
  exact ⟨rfl, HB10.out⟩
end Go.Proofs.Ytbaiaahdjkjjoaa.Wds
