/-
  The walk of the law of IsGroup: the code answers as the model, for all arguments; nothing that was there has changed.
-/
import Derived.Test.YtgkpjeheoinpiaaGp5
import Derived.Test.YtgkpjeheoinpiaaStW
import Derived.Test.YtgkpjeheoinpiaaOpenS
namespace Go.Proofs.Ytgkpjeheoinpiaa.Wds
open Go.RowKit
set_option linter.unusedVariables false

set_option maxHeartbeats 2000000 in
set_option maxRecDepth 100000 in
theorem law_isGroup (l_m b_m : Int) (A_code : Option Addr) (n_code c_code : Nat) (zz_code : List Sc.St) (A_group : Option Addr) (n_group c_group : Nat) (zz_group : List Int) (w : World) (w_code : RowS w A_code n_code zz_code) (w_group : IsRow .i64 w A_group n_group c_group zz_group) :
    Calls Try.prog 3 #[.agg #[.int .i64 l_m, .int .i64 b_m], .slice A_code n_code c_code, .slice A_group n_group c_group] w fun e w' => e = .returned (.bool true) ∧ Below w.heap.size w w' := by
  obtain ⟨z_code, hr_code⟩ : ∃ zs, RdS w w.heap.size A_code n_code zs := ⟨_, w_code.1⟩
  have hm_code := w_code.2
  have HR_code := Lib.hid hr_code; clear hr_code w_code
  obtain ⟨z_group, hr_group⟩ : ∃ zs, Rd w w.heap.size A_group n_group zs := ⟨_, Rd.of_row w_group⟩
  have HR_group := Lib.hid hr_group; clear hr_group w_group
  by_cases l_group : n_group ≤ 1048576
  rotate_left
  · have l1 : 1048576 < n_group := by omega
    clear l_group
    go_enter Try.func3, Try.ntmps3
    go_wp2
    go_ret
    exact ⟨rfl, (Below.refl _ _).alloc (Nat.le_refl _) _⟩
  by_cases l_code : n_code ≤ 1048576
  rotate_left
  · have l1 : 1048576 < n_code := by omega
    clear l_code
    go_enter Try.func3, Try.ntmps3
    go_wp2_with fail
    refine (szS_out _ _ _ _ _ (by omega) (by omega) hm_code).mono ?_
    rintro e w' ⟨rfl, rfl⟩
    go_wp2
    go_ret
    exact ⟨rfl, (Below.refl _ _).alloc (Nat.le_refl _) _⟩
  have hS : ∀ (W : World) (A_code : Option Addr) (c_code : Nat) (B_code : Nat) (A_group : Option Addr) (c_group : Nat) (B_group : Nat), n_code ≤ c_code → n_group ≤ c_group → RdS W B_code A_code n_code z_code → Rd W B_group A_group n_group z_group → Calls Try.prog 5 #[.agg #[.int .i64 l_m, .int .i64 b_m], .slice A_code n_code c_code, .slice A_group n_group c_group] W (RetB (isG l_m b_m z_code z_group) W) :=
    fun W A_code c_code B_code A_group c_group B_group cc_code cc_group r_code r_group => sIsGroup_any l_m b_m A_code n_code c_code z_code A_group n_group c_group z_group B_code B_group W l_code l_group cc_group r_code r_group
  have hI : ∀ (W : World) (A_code : Option Addr) (c_code : Nat) (B_code : Nat) (A_group : Option Addr) (c_group : Nat) (B_group : Nat), n_code ≤ c_code → n_group ≤ c_group → RdS W B_code A_code n_code z_code → Rd W B_group A_group n_group z_group → Calls Try.prog 9 #[.agg #[.int .i64 l_m, .int .i64 b_m], .slice A_code n_code c_code, .slice A_group n_group c_group] W (RetB (isG l_m b_m z_code z_group) W) :=
    fun W A_code c_code B_code A_group c_group B_group cc_code cc_group r_code r_group => iIsGroup_any l_m b_m A_code n_code c_code z_code A_group n_group c_group z_group B_code B_group W l_code l_group cc_code r_code r_group
  generalize isG l_m b_m z_code z_group = ok at hS hI
  have HS := Lib.hid hS; clear hS
  have HI := Lib.hid hI; clear hI
  have HB0 : Hid (Below w.heap.size w (w.alloc (.cells #[.int .i64 l_m, .int .i64 b_m] 23))) := Lib.hid ((Below.refl _ _).alloc (Nat.le_refl _) _)
  have HMc := Lib.hid (Bx.new w 23 #[.int .i64 l_m, .int .i64 b_m])
  go_enter Try.func3, Try.ntmps3
  go_wp2_with fail
  refine (szS_in _ _ _ _ _ (by omega) (by omega)).mono ?_
  rintro e w' ⟨rfl, rfl⟩
  have sz_code : ¬ ((1048576 : Int) - (n_code : Int) < 0) := by omega
  go_wp2_with fail
  refine (toM_any l_m b_m _).mono ?_
  rintro e w1 ⟨rfl, hb⟩
  have hs1 := hb.size
  have HMc' := Lib.hid (HMc.out.keep hb); clear HMc; have HMc := HMc'; clear HMc'
  have HB1 := Lib.hid (HB0.out.trans (hb.mono HB0.out.size)); clear hb HB0
  go_wp2_with fail
  refine (toSS_any A_code n_code c_code z_code w.heap.size _ l_code (HR_code.out.belowB HB1.out (Nat.le_refl _))).mono ?_
  rintro e w2 ⟨g2, rfl, ho, hb⟩
  have hs2 := hb.size
  have HMc' := Lib.hid (HMc.out.keep hb); clear HMc; have HMc := HMc'; clear HMc'
  have HB2 := Lib.hid (HB1.out.trans (hb.mono HB1.out.size)); clear hb HB1
  have HO_ccode := Lib.hid ho; clear ho
  go_wp2_with fail
  refine (toS_any A_group n_group c_group z_group w.heap.size _ l_group (HR_group.out.belowB HB2.out (Nat.le_refl _))).mono ?_
  rintro e w3 ⟨g3, rfl, ho, hb⟩
  have hs3 := hb.size
  have HMc' := Lib.hid (HMc.out.keep hb); clear HMc; have HMc := HMc'; clear HMc'
  have HO_ccode' := Lib.hid (HO_ccode.out.below hb); clear HO_ccode; have HO_ccode := HO_ccode'; clear HO_ccode'
  have HB3 := Lib.hid (HB2.out.trans (hb.mono HB2.out.size)); clear hb HB2
  have HO_cgroup := Lib.hid ho; clear ho
  go_wp2_with fail
  refine (HS.out _ _ _ _ _ _ _ (Nat.le_refl _) (Nat.le_refl _) HO_ccode.out.rd HO_cgroup.out.rd).mono ?_
  rintro e w4 ⟨rfl, hb⟩
  have hs4 := hb.size
  have HMc' := Lib.hid (HMc.out.keep hb); clear HMc; have HMc := HMc'; clear HMc'
  have HO_ccode' := Lib.hid (HO_ccode.out.below hb); clear HO_ccode; have HO_ccode := HO_ccode'; clear HO_ccode'
  have HO_cgroup' := Lib.hid (HO_cgroup.out.below hb); clear HO_cgroup; have HO_cgroup := HO_cgroup'; clear HO_cgroup'
  have HB4 := Lib.hid (HB3.out.trans (hb.mono HB3.out.size)); clear hb HB3
  clear HO_ccode
  clear HO_cgroup
  go_wp2_with fail
  refine (toSS_any A_code n_code c_code z_code w.heap.size _ l_code (HR_code.out.belowB HB4.out (Nat.le_refl _))).mono ?_
  rintro e w5 ⟨g5, rfl, ho, hb⟩
  have hs5 := hb.size
  have HMc' := Lib.hid (HMc.out.keep hb); clear HMc; have HMc := HMc'; clear HMc'
  have HB5 := Lib.hid (HB4.out.trans (hb.mono HB4.out.size)); clear hb HB4
  have HO_xcode := Lib.hid ho; clear ho
  go_wp2_with fail
  refine (toS_any A_group n_group c_group z_group w.heap.size _ l_group (HR_group.out.belowB HB5.out (Nat.le_refl _))).mono ?_
  rintro e w6 ⟨g6, rfl, ho, hb⟩
  have hs6 := hb.size
  have HMc' := Lib.hid (HMc.out.keep hb); clear HMc; have HMc := HMc'; clear HMc'
  have HO_xcode' := Lib.hid (HO_xcode.out.below hb); clear HO_xcode; have HO_xcode := HO_xcode'; clear HO_xcode'
  have HB6 := Lib.hid (HB5.out.trans (hb.mono HB5.out.size)); clear hb HB5
  have HO_xgroup := Lib.hid ho; clear ho
  have mp0 : w6.cell? ⟨w.heap.size, 0, none⟩ = some (.int .i64 l_m) := HMc.out.cell 0
  have mp1 : w6.cell? ⟨w.heap.size, 1, none⟩ = some (.int .i64 b_m) := HMc.out.cell 1
  go_wp2_with fail
  refine (toM_any l_m b_m _).mono ?_
  rintro e w7 ⟨rfl, hb⟩
  clear mp0 mp1
  have hs7 := hb.size
  have HMc' := Lib.hid (HMc.out.keep hb); clear HMc; have HMc := HMc'; clear HMc'
  have HO_xcode' := Lib.hid (HO_xcode.out.below hb); clear HO_xcode; have HO_xcode := HO_xcode'; clear HO_xcode'
  have HO_xgroup' := Lib.hid (HO_xgroup.out.below hb); clear HO_xgroup; have HO_xgroup := HO_xgroup'; clear HO_xgroup'
  have HB7 := Lib.hid (HB6.out.trans (hb.mono HB6.out.size)); clear hb HB6
  go_wp2_with fail
  refine (HI.out _ _ _ _ _ _ _ (Nat.le_refl _) (Nat.le_refl _) HO_xcode.out.rd HO_xgroup.out.rd).mono ?_
  rintro e w8 ⟨rfl, hb⟩
  have hs8 := hb.size
  have HMc' := Lib.hid (HMc.out.keep hb); clear HMc; have HMc := HMc'; clear HMc'
  have HO_xcode' := Lib.hid (HO_xcode.out.below hb); clear HO_xcode; have HO_xcode := HO_xcode'; clear HO_xcode'
  have HO_xgroup' := Lib.hid (HO_xgroup.out.below hb); clear HO_xgroup; have HO_xgroup := HO_xgroup'; clear HO_xgroup'
  have HB8 := Lib.hid (HB7.out.trans (hb.mono HB7.out.size)); clear hb HB7
  go_wp2_with fail
  refine (toSS_any A_code n_code c_code z_code w.heap.size _ l_code (HR_code.out.belowB HB8.out (Nat.le_refl _))).mono ?_
  rintro e w9 ⟨g9, rfl, ho, hb⟩
  have hs9 := hb.size
  have HMc' := Lib.hid (HMc.out.keep hb); clear HMc; have HMc := HMc'; clear HMc'
  have HO_xcode' := Lib.hid (HO_xcode.out.below hb); clear HO_xcode; have HO_xcode := HO_xcode'; clear HO_xcode'
  have HO_xgroup' := Lib.hid (HO_xgroup.out.below hb); clear HO_xgroup; have HO_xgroup := HO_xgroup'; clear HO_xgroup'
  have HB9 := Lib.hid (HB8.out.trans (hb.mono HB8.out.size)); clear hb HB8
  have HO_ycode := Lib.hid ho; clear ho
  go_wp2_with fail
  refine (eqSS_same _ _ _ _ _ z_code _ _ _ l_code HO_xcode.out.rd HO_ycode.out.rd).mono ?_
  rintro e w10 ⟨rfl, hb⟩
  have hs10 := hb.size
  have HMc' := Lib.hid (HMc.out.keep hb); clear HMc; have HMc := HMc'; clear HMc'
  have HO_xcode' := Lib.hid (HO_xcode.out.below hb); clear HO_xcode; have HO_xcode := HO_xcode'; clear HO_xcode'
  have HO_xgroup' := Lib.hid (HO_xgroup.out.below hb); clear HO_xgroup; have HO_xgroup := HO_xgroup'; clear HO_xgroup'
  have HO_ycode' := Lib.hid (HO_ycode.out.below hb); clear HO_ycode; have HO_ycode := HO_ycode'; clear HO_ycode'
  have HB10 := Lib.hid (HB9.out.trans (hb.mono HB9.out.size)); clear hb HB9
  clear HO_ycode
  go_wp2_with fail
  refine (toS_any A_group n_group c_group z_group w.heap.size _ l_group (HR_group.out.belowB HB10.out (Nat.le_refl _))).mono ?_
  rintro e w11 ⟨g11, rfl, ho, hb⟩
  have hs11 := hb.size
  have HMc' := Lib.hid (HMc.out.keep hb); clear HMc; have HMc := HMc'; clear HMc'
  have HO_xcode' := Lib.hid (HO_xcode.out.below hb); clear HO_xcode; have HO_xcode := HO_xcode'; clear HO_xcode'
  have HO_xgroup' := Lib.hid (HO_xgroup.out.below hb); clear HO_xgroup; have HO_xgroup := HO_xgroup'; clear HO_xgroup'
  have HB11 := Lib.hid (HB10.out.trans (hb.mono HB10.out.size)); clear hb HB10
  have HO_ygroup := Lib.hid ho; clear ho
  go_wp2_with fail
  refine (eqS_same _ _ _ _ _ z_group _ _ _ l_group HO_xgroup.out.rd HO_ygroup.out.rd).mono ?_
  rintro e w12 ⟨rfl, hb⟩
  have hs12 := hb.size
  have HMc' := Lib.hid (HMc.out.keep hb); clear HMc; have HMc := HMc'; clear HMc'
  have HO_xcode' := Lib.hid (HO_xcode.out.below hb); clear HO_xcode; have HO_xcode := HO_xcode'; clear HO_xcode'
  have HO_xgroup' := Lib.hid (HO_xgroup.out.below hb); clear HO_xgroup; have HO_xgroup := HO_xgroup'; clear HO_xgroup'
  have HO_ygroup' := Lib.hid (HO_ygroup.out.below hb); clear HO_ygroup; have HO_ygroup := HO_ygroup'; clear HO_ygroup'
  have HB12 := Lib.hid (HB11.out.trans (hb.mono HB11.out.size)); clear hb HB11
  clear HO_ygroup
  go_wp2_with fail
  go_ret
  exact ⟨rfl, HB12.out⟩
end Go.Proofs.Ytgkpjeheoinpiaa.Wds
