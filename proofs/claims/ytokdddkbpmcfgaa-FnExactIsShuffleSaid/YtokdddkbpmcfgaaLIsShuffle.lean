/-
  The walk of the law of IsShuffle: the code answers as the model, for all arguments; nothing that was there has changed.
-/
import Derived.Test.YtokdddkbpmcfgaaShuf2
namespace Go.Proofs.Ytokdddkbpmcfgaa.Wds
open Go.RowKit
set_option linter.unusedVariables false

set_option maxHeartbeats 2000000 in
set_option maxRecDepth 100000 in
theorem law_isShuffle (A_s : Option Addr) (n_s c_s : Nat) (zz_s : List Int) (w : World) (w_s : IsRow .i64 w A_s n_s c_s zz_s) :
    Calls Try.prog 6 #[.slice A_s n_s c_s] w fun e w' => e = .returned (.bool true) ∧ Below w.heap.size w w' := by
  obtain ⟨z_s, hr_s⟩ : ∃ zs, Rd w w.heap.size A_s n_s zs := ⟨_, Rd.of_row w_s⟩
  have HR_s := Lib.hid hr_s; clear hr_s w_s
  by_cases l_s : n_s ≤ 1048576
  rotate_left
  · have l1 : 1048576 < n_s := by omega
    clear l_s
    go_enter Try.func6, Try.ntmps6
    go_wp2
    go_ret
    exact ⟨rfl, Below.refl _ _⟩
  have hS : ∀ (W : World) (A_s : Option Addr) (c_s : Nat) (B_s : Nat), Rd W B_s A_s n_s z_s → Calls Try.prog 32 #[.slice A_s n_s c_s] W (RetB (Ln.shuf z_s) W) :=
    fun W A_s c_s B_s r_s => sIsShuffle_any A_s n_s c_s z_s B_s W l_s r_s
  have hI : ∀ (W : World) (A_s : Option Addr) (c_s : Nat) (B_s : Nat), Rd W B_s A_s n_s z_s → Calls Try.prog 34 #[.slice A_s n_s c_s] W (RetB (Ln.shuf z_s) W) :=
    fun W A_s c_s B_s r_s => iIsShuffle_any A_s n_s c_s z_s B_s W l_s r_s
  generalize Ln.shuf z_s = ok at hS hI
  have HS := Lib.hid hS; clear hS
  have HI := Lib.hid hI; clear hI
  have HB0 : Hid (Below w.heap.size w w) := Below.refl _ _
  go_enter Try.func6, Try.ntmps6
  go_wp2_with fail
  refine (toS_any A_s n_s c_s z_s w.heap.size _ l_s (HR_s.out.belowB HB0.out (Nat.le_refl _))).mono ?_
  rintro e w1 ⟨g1, rfl, ho, hb⟩
  have hs1 := hb.size
  have HB1 := Lib.hid (HB0.out.trans (hb.mono HB0.out.size)); clear hb HB0
  have HO_cs := Lib.hid ho; clear ho
  go_wp2_with fail
  refine (HS.out _ _ _ _ HO_cs.out.rd).mono ?_
  rintro e w2 ⟨rfl, hb⟩
  have hs2 := hb.size
  have HO_cs' := Lib.hid (HO_cs.out.below hb); clear HO_cs; have HO_cs := HO_cs'; clear HO_cs'
  have HB2 := Lib.hid (HB1.out.trans (hb.mono HB1.out.size)); clear hb HB1
  clear HO_cs
  go_wp2_with fail
  refine (toS_any A_s n_s c_s z_s w.heap.size _ l_s (HR_s.out.belowB HB2.out (Nat.le_refl _))).mono ?_
  rintro e w3 ⟨g3, rfl, ho, hb⟩
  have hs3 := hb.size
  have HB3 := Lib.hid (HB2.out.trans (hb.mono HB2.out.size)); clear hb HB2
  have HO_xs := Lib.hid ho; clear ho
  go_wp2_with fail
  refine (HI.out _ _ _ _ HO_xs.out.rd).mono ?_
  rintro e w4 ⟨rfl, hb⟩
  have hs4 := hb.size
  have HO_xs' := Lib.hid (HO_xs.out.below hb); clear HO_xs; have HO_xs := HO_xs'; clear HO_xs'
  have HB4 := Lib.hid (HB3.out.trans (hb.mono HB3.out.size)); clear hb HB3
  go_wp2_with fail
  refine (toS_any A_s n_s c_s z_s w.heap.size _ l_s (HR_s.out.belowB HB4.out (Nat.le_refl _))).mono ?_
  rintro e w5 ⟨g5, rfl, ho, hb⟩
  have hs5 := hb.size
  have HO_xs' := Lib.hid (HO_xs.out.below hb); clear HO_xs; have HO_xs := HO_xs'; clear HO_xs'
  have HB5 := Lib.hid (HB4.out.trans (hb.mono HB4.out.size)); clear hb HB4
  have HO_ys := Lib.hid ho; clear ho
  go_wp2_with fail
  refine (eqS_same _ _ _ _ _ z_s _ _ _ l_s HO_xs.out.rd HO_ys.out.rd).mono ?_
  rintro e w6 ⟨rfl, hb⟩
  have hs6 := hb.size
  have HO_xs' := Lib.hid (HO_xs.out.below hb); clear HO_xs; have HO_xs := HO_xs'; clear HO_xs'
  have HO_ys' := Lib.hid (HO_ys.out.below hb); clear HO_ys; have HO_ys := HO_ys'; clear HO_ys'
  have HB6 := Lib.hid (HB5.out.trans (hb.mono HB5.out.size)); clear hb HB5
  clear HO_ys
  go_wp2_with fail
  go_ret
  exact ⟨rfl, HB6.out⟩
end Go.Proofs.Ytokdddkbpmcfgaa.Wds
