/-
  The walk of the law of PickLanes: the code answers as the model, for all arguments; nothing that was there has changed.
-/
import Derived.Test.YtokdddkbpmcfgaaPick
namespace Go.Proofs.Ytokdddkbpmcfgaa.Wds
open Go.RowKit
set_option linter.unusedVariables false

set_option maxHeartbeats 2000000 in
set_option maxRecDepth 100000 in
theorem law_pickLanes (bits : Int) (A_s : Option Addr) (n_s c_s : Nat) (zz_s : List Int) (A_a : Option Addr) (n_a c_a : Nat) (zz_a : List Int) (A_b : Option Addr) (n_b c_b : Nat) (zz_b : List Int) (w : World) (w_s : IsRow .i64 w A_s n_s c_s zz_s) (w_a : IsRow .i64 w A_a n_a c_a zz_a) (w_b : IsRow .i64 w A_b n_b c_b zz_b) :
    Calls Try.prog 11 #[.int .i64 bits, .slice A_s n_s c_s, .slice A_a n_a c_a, .slice A_b n_b c_b] w fun e w' => e = .returned (.bool true) ∧ Below w.heap.size w w' := by
  obtain ⟨z_s, hr_s⟩ : ∃ zs, Rd w w.heap.size A_s n_s zs := ⟨_, Rd.of_row w_s⟩
  have HR_s := Lib.hid hr_s; clear hr_s w_s
  obtain ⟨z_a, hr_a⟩ : ∃ zs, Rd w w.heap.size A_a n_a zs := ⟨_, Rd.of_row w_a⟩
  have HR_a := Lib.hid hr_a; clear hr_a w_a
  obtain ⟨z_b, hr_b⟩ : ∃ zs, Rd w w.heap.size A_b n_b zs := ⟨_, Rd.of_row w_b⟩
  have HR_b := Lib.hid hr_b; clear hr_b w_b
  by_cases l_s : n_s ≤ 1048576
  rotate_left
  · have l1 : 1048576 < n_s := by omega
    clear l_s
    go_enter Try.func11, Try.ntmps11
    go_wp2
    go_ret
    exact ⟨rfl, Below.refl _ _⟩
  by_cases l_a : n_a ≤ 1048576
  rotate_left
  · have l1 : 1048576 < n_a := by omega
    clear l_a
    go_enter Try.func11, Try.ntmps11
    go_wp2
    go_ret
    exact ⟨rfl, Below.refl _ _⟩
  by_cases l_b : n_b ≤ 1048576
  rotate_left
  · have l1 : 1048576 < n_b := by omega
    clear l_b
    go_enter Try.func11, Try.ntmps11
    go_wp2
    go_ret
    exact ⟨rfl, Below.refl _ _⟩
  have hS : ∀ (W : World) (A_s : Option Addr) (c_s : Nat) (B_s : Nat) (A_a : Option Addr) (c_a : Nat) (B_a : Nat) (A_b : Option Addr) (c_b : Nat) (B_b : Nat), Rd W B_s A_s n_s z_s → Rd W B_a A_a n_a z_a → Rd W B_b A_b n_b z_b → Calls Try.prog 43 #[.int .i64 bits, .slice A_s n_s c_s, .slice A_a n_a c_a, .slice A_b n_b c_b] W (Ret1 (Ln.pick bits z_s z_a z_b).1 (Ln.pick bits z_s z_a z_b).2 W) :=
    fun W A_s c_s B_s A_a c_a B_a A_b c_b B_b r_s r_a r_b => sPickLanes_any bits A_s n_s c_s z_s B_s A_a n_a c_a z_a B_a A_b n_b c_b z_b B_b W l_s l_a l_b r_s r_a r_b
  have hI : ∀ (W : World) (A_s : Option Addr) (c_s : Nat) (B_s : Nat) (A_a : Option Addr) (c_a : Nat) (B_a : Nat) (A_b : Option Addr) (c_b : Nat) (B_b : Nat), Rd W B_s A_s n_s z_s → Rd W B_a A_a n_a z_a → Rd W B_b A_b n_b z_b → Calls Try.prog 44 #[.int .i64 bits, .slice A_s n_s c_s, .slice A_a n_a c_a, .slice A_b n_b c_b] W (Ret1 (Ln.pick bits z_s z_a z_b).1 (Ln.pick bits z_s z_a z_b).2 W) :=
    fun W A_s c_s B_s A_a c_a B_a A_b c_b B_b r_s r_a r_b => iPickLanes_any bits A_s n_s c_s z_s B_s A_a n_a c_a z_a B_a A_b n_b c_b z_b B_b W l_s l_a l_b r_s r_a r_b
  generalize (Ln.pick bits z_s z_a z_b).1 = rz at hS hI
  generalize (Ln.pick bits z_s z_a z_b).2 = ok at hS hI
  have HS := Lib.hid hS; clear hS
  have HI := Lib.hid hI; clear hI
  have HB0 : Hid (Below w.heap.size w w) := Below.refl _ _
  go_enter Try.func11, Try.ntmps11
  go_wp2_with fail
  refine (toS_any A_s n_s c_s z_s w.heap.size _ l_s (HR_s.out.belowB HB0.out (Nat.le_refl _))).mono ?_
  rintro e w1 ⟨g1, rfl, ho, hb⟩
  have hs1 := hb.size
  have HB1 := Lib.hid (HB0.out.trans (hb.mono HB0.out.size)); clear hb HB0
  have HO_cs := Lib.hid ho; clear ho
  go_wp2_with fail
  refine (toS_any A_a n_a c_a z_a w.heap.size _ l_a (HR_a.out.belowB HB1.out (Nat.le_refl _))).mono ?_
  rintro e w2 ⟨g2, rfl, ho, hb⟩
  have hs2 := hb.size
  have HO_cs' := Lib.hid (HO_cs.out.below hb); clear HO_cs; have HO_cs := HO_cs'; clear HO_cs'
  have HB2 := Lib.hid (HB1.out.trans (hb.mono HB1.out.size)); clear hb HB1
  have HO_ca := Lib.hid ho; clear ho
  go_wp2_with fail
  refine (toS_any A_b n_b c_b z_b w.heap.size _ l_b (HR_b.out.belowB HB2.out (Nat.le_refl _))).mono ?_
  rintro e w3 ⟨g3, rfl, ho, hb⟩
  have hs3 := hb.size
  have HO_cs' := Lib.hid (HO_cs.out.below hb); clear HO_cs; have HO_cs := HO_cs'; clear HO_cs'
  have HO_ca' := Lib.hid (HO_ca.out.below hb); clear HO_ca; have HO_ca := HO_ca'; clear HO_ca'
  have HB3 := Lib.hid (HB2.out.trans (hb.mono HB2.out.size)); clear hb HB2
  have HO_cb := Lib.hid ho; clear ho
  go_wp2_with fail
  refine (HS.out _ _ _ _ _ _ _ _ _ _ HO_cs.out.rd HO_ca.out.rd HO_cb.out.rd).mono ?_
  rintro e w4 ⟨A_w, n_w, c_w, rfl, ho, hn_w, hb⟩
  have hs4 := hb.size
  have HO_cs' := Lib.hid (HO_cs.out.below hb); clear HO_cs; have HO_cs := HO_cs'; clear HO_cs'
  have HO_ca' := Lib.hid (HO_ca.out.below hb); clear HO_ca; have HO_ca := HO_ca'; clear HO_ca'
  have HO_cb' := Lib.hid (HO_cb.out.below hb); clear HO_cb; have HO_cb := HO_cb'; clear HO_cb'
  have HB4 := Lib.hid (HB3.out.trans (hb.mono HB3.out.size)); clear hb HB3
  have HO_w := Lib.hid ho; clear ho
  clear HO_cs
  clear HO_ca
  clear HO_cb
  go_wp2_with fail
  refine (toS_any A_s n_s c_s z_s w.heap.size _ l_s (HR_s.out.belowB HB4.out (Nat.le_refl _))).mono ?_
  rintro e w5 ⟨g5, rfl, ho, hb⟩
  have hs5 := hb.size
  have HO_w' := Lib.hid (HO_w.out.below hb); clear HO_w; have HO_w := HO_w'; clear HO_w'
  have HB5 := Lib.hid (HB4.out.trans (hb.mono HB4.out.size)); clear hb HB4
  have HO_xs := Lib.hid ho; clear ho
  go_wp2_with fail
  refine (toS_any A_a n_a c_a z_a w.heap.size _ l_a (HR_a.out.belowB HB5.out (Nat.le_refl _))).mono ?_
  rintro e w6 ⟨g6, rfl, ho, hb⟩
  have hs6 := hb.size
  have HO_w' := Lib.hid (HO_w.out.below hb); clear HO_w; have HO_w := HO_w'; clear HO_w'
  have HO_xs' := Lib.hid (HO_xs.out.below hb); clear HO_xs; have HO_xs := HO_xs'; clear HO_xs'
  have HB6 := Lib.hid (HB5.out.trans (hb.mono HB5.out.size)); clear hb HB5
  have HO_xa := Lib.hid ho; clear ho
  go_wp2_with fail
  refine (toS_any A_b n_b c_b z_b w.heap.size _ l_b (HR_b.out.belowB HB6.out (Nat.le_refl _))).mono ?_
  rintro e w7 ⟨g7, rfl, ho, hb⟩
  have hs7 := hb.size
  have HO_w' := Lib.hid (HO_w.out.below hb); clear HO_w; have HO_w := HO_w'; clear HO_w'
  have HO_xs' := Lib.hid (HO_xs.out.below hb); clear HO_xs; have HO_xs := HO_xs'; clear HO_xs'
  have HO_xa' := Lib.hid (HO_xa.out.below hb); clear HO_xa; have HO_xa := HO_xa'; clear HO_xa'
  have HB7 := Lib.hid (HB6.out.trans (hb.mono HB6.out.size)); clear hb HB6
  have HO_xb := Lib.hid ho; clear ho
  go_wp2_with fail
  refine (HI.out _ _ _ _ _ _ _ _ _ _ HO_xs.out.rd HO_xa.out.rd HO_xb.out.rd).mono ?_
  rintro e w8 ⟨A_g, n_g, c_g, rfl, ho, hn_g, hb⟩
  have hs8 := hb.size
  have HO_w' := Lib.hid (HO_w.out.below hb); clear HO_w; have HO_w := HO_w'; clear HO_w'
  have HO_xs' := Lib.hid (HO_xs.out.below hb); clear HO_xs; have HO_xs := HO_xs'; clear HO_xs'
  have HO_xa' := Lib.hid (HO_xa.out.below hb); clear HO_xa; have HO_xa := HO_xa'; clear HO_xa'
  have HO_xb' := Lib.hid (HO_xb.out.below hb); clear HO_xb; have HO_xb := HO_xb'; clear HO_xb'
  have HB8 := Lib.hid (HB7.out.trans (hb.mono HB7.out.size)); clear hb HB7
  have HO_g := Lib.hid ho; clear ho
  obtain rfl : n_w = n_g := HO_w.out.len.symm.trans HO_g.out.len
  go_wp2_with fail
  refine (eqS_same _ _ _ _ _ rz _ _ _ hn_w HO_g.out.rd HO_w.out.rd).mono ?_
  rintro e w9 ⟨rfl, hb⟩
  have hs9 := hb.size
  have HO_w' := Lib.hid (HO_w.out.below hb); clear HO_w; have HO_w := HO_w'; clear HO_w'
  have HO_xs' := Lib.hid (HO_xs.out.below hb); clear HO_xs; have HO_xs := HO_xs'; clear HO_xs'
  have HO_xa' := Lib.hid (HO_xa.out.below hb); clear HO_xa; have HO_xa := HO_xa'; clear HO_xa'
  have HO_xb' := Lib.hid (HO_xb.out.below hb); clear HO_xb; have HO_xb := HO_xb'; clear HO_xb'
  have HO_g' := Lib.hid (HO_g.out.below hb); clear HO_g; have HO_g := HO_g'; clear HO_g'
  have HB9 := Lib.hid (HB8.out.trans (hb.mono HB8.out.size)); clear hb HB8
  go_wp2_with fail
  refine (toS_any A_s n_s c_s z_s w.heap.size _ l_s (HR_s.out.belowB HB9.out (Nat.le_refl _))).mono ?_
  rintro e w10 ⟨g10, rfl, ho, hb⟩
  have hs10 := hb.size
  have HO_w' := Lib.hid (HO_w.out.below hb); clear HO_w; have HO_w := HO_w'; clear HO_w'
  have HO_xs' := Lib.hid (HO_xs.out.below hb); clear HO_xs; have HO_xs := HO_xs'; clear HO_xs'
  have HO_xa' := Lib.hid (HO_xa.out.below hb); clear HO_xa; have HO_xa := HO_xa'; clear HO_xa'
  have HO_xb' := Lib.hid (HO_xb.out.below hb); clear HO_xb; have HO_xb := HO_xb'; clear HO_xb'
  have HO_g' := Lib.hid (HO_g.out.below hb); clear HO_g; have HO_g := HO_g'; clear HO_g'
  have HB10 := Lib.hid (HB9.out.trans (hb.mono HB9.out.size)); clear hb HB9
  have HO_ys := Lib.hid ho; clear ho
  go_wp2_with fail
  refine (eqS_same _ _ _ _ _ z_s _ _ _ l_s HO_xs.out.rd HO_ys.out.rd).mono ?_
  rintro e w11 ⟨rfl, hb⟩
  have hs11 := hb.size
  have HO_w' := Lib.hid (HO_w.out.below hb); clear HO_w; have HO_w := HO_w'; clear HO_w'
  have HO_xs' := Lib.hid (HO_xs.out.below hb); clear HO_xs; have HO_xs := HO_xs'; clear HO_xs'
  have HO_xa' := Lib.hid (HO_xa.out.below hb); clear HO_xa; have HO_xa := HO_xa'; clear HO_xa'
  have HO_xb' := Lib.hid (HO_xb.out.below hb); clear HO_xb; have HO_xb := HO_xb'; clear HO_xb'
  have HO_g' := Lib.hid (HO_g.out.below hb); clear HO_g; have HO_g := HO_g'; clear HO_g'
  have HO_ys' := Lib.hid (HO_ys.out.below hb); clear HO_ys; have HO_ys := HO_ys'; clear HO_ys'
  have HB11 := Lib.hid (HB10.out.trans (hb.mono HB10.out.size)); clear hb HB10
  clear HO_ys
  go_wp2_with fail
  refine (toS_any A_a n_a c_a z_a w.heap.size _ l_a (HR_a.out.belowB HB11.out (Nat.le_refl _))).mono ?_
  rintro e w12 ⟨g12, rfl, ho, hb⟩
  have hs12 := hb.size
  have HO_w' := Lib.hid (HO_w.out.below hb); clear HO_w; have HO_w := HO_w'; clear HO_w'
  have HO_xs' := Lib.hid (HO_xs.out.below hb); clear HO_xs; have HO_xs := HO_xs'; clear HO_xs'
  have HO_xa' := Lib.hid (HO_xa.out.below hb); clear HO_xa; have HO_xa := HO_xa'; clear HO_xa'
  have HO_xb' := Lib.hid (HO_xb.out.below hb); clear HO_xb; have HO_xb := HO_xb'; clear HO_xb'
  have HO_g' := Lib.hid (HO_g.out.below hb); clear HO_g; have HO_g := HO_g'; clear HO_g'
  have HB12 := Lib.hid (HB11.out.trans (hb.mono HB11.out.size)); clear hb HB11
  have HO_ya := Lib.hid ho; clear ho
  go_wp2_with fail
  refine (eqS_same _ _ _ _ _ z_a _ _ _ l_a HO_xa.out.rd HO_ya.out.rd).mono ?_
  rintro e w13 ⟨rfl, hb⟩
  have hs13 := hb.size
  have HO_w' := Lib.hid (HO_w.out.below hb); clear HO_w; have HO_w := HO_w'; clear HO_w'
  have HO_xs' := Lib.hid (HO_xs.out.below hb); clear HO_xs; have HO_xs := HO_xs'; clear HO_xs'
  have HO_xa' := Lib.hid (HO_xa.out.below hb); clear HO_xa; have HO_xa := HO_xa'; clear HO_xa'
  have HO_xb' := Lib.hid (HO_xb.out.below hb); clear HO_xb; have HO_xb := HO_xb'; clear HO_xb'
  have HO_g' := Lib.hid (HO_g.out.below hb); clear HO_g; have HO_g := HO_g'; clear HO_g'
  have HO_ya' := Lib.hid (HO_ya.out.below hb); clear HO_ya; have HO_ya := HO_ya'; clear HO_ya'
  have HB13 := Lib.hid (HB12.out.trans (hb.mono HB12.out.size)); clear hb HB12
  clear HO_ya
  go_wp2_with fail
  refine (toS_any A_b n_b c_b z_b w.heap.size _ l_b (HR_b.out.belowB HB13.out (Nat.le_refl _))).mono ?_
  rintro e w14 ⟨g14, rfl, ho, hb⟩
  have hs14 := hb.size
  have HO_w' := Lib.hid (HO_w.out.below hb); clear HO_w; have HO_w := HO_w'; clear HO_w'
  have HO_xs' := Lib.hid (HO_xs.out.below hb); clear HO_xs; have HO_xs := HO_xs'; clear HO_xs'
  have HO_xa' := Lib.hid (HO_xa.out.below hb); clear HO_xa; have HO_xa := HO_xa'; clear HO_xa'
  have HO_xb' := Lib.hid (HO_xb.out.below hb); clear HO_xb; have HO_xb := HO_xb'; clear HO_xb'
  have HO_g' := Lib.hid (HO_g.out.below hb); clear HO_g; have HO_g := HO_g'; clear HO_g'
  have HB14 := Lib.hid (HB13.out.trans (hb.mono HB13.out.size)); clear hb HB13
  have HO_yb := Lib.hid ho; clear ho
  go_wp2_with fail
  refine (eqS_same _ _ _ _ _ z_b _ _ _ l_b HO_xb.out.rd HO_yb.out.rd).mono ?_
  rintro e w15 ⟨rfl, hb⟩
  have hs15 := hb.size
  have HO_w' := Lib.hid (HO_w.out.below hb); clear HO_w; have HO_w := HO_w'; clear HO_w'
  have HO_xs' := Lib.hid (HO_xs.out.below hb); clear HO_xs; have HO_xs := HO_xs'; clear HO_xs'
  have HO_xa' := Lib.hid (HO_xa.out.below hb); clear HO_xa; have HO_xa := HO_xa'; clear HO_xa'
  have HO_xb' := Lib.hid (HO_xb.out.below hb); clear HO_xb; have HO_xb := HO_xb'; clear HO_xb'
  have HO_g' := Lib.hid (HO_g.out.below hb); clear HO_g; have HO_g := HO_g'; clear HO_g'
  have HO_yb' := Lib.hid (HO_yb.out.below hb); clear HO_yb; have HO_yb := HO_yb'; clear HO_yb'
  have HB15 := Lib.hid (HB14.out.trans (hb.mono HB14.out.size)); clear hb HB14
  clear HO_yb
  go_wp2_with fail
  refine (markS_any _ _ _ z_s w4.heap.size w5.heap.size _ _ l_s (by omega) (by omega) HO_xs.out).mono ?_
  rintro e w16 ⟨rfl, ho, hc, hq⟩
  have hs16 := hc.size
  have HO_w' := Lib.hid (HO_w.out.ch hc (by omega)); clear HO_w; have HO_w := HO_w'; clear HO_w'
  have HO_xa' := Lib.hid (HO_xa.out.ch hc (by omega)); clear HO_xa; have HO_xa := HO_xa'; clear HO_xa'
  have HO_xb' := Lib.hid (HO_xb.out.ch hc (by omega)); clear HO_xb; have HO_xb := HO_xb'; clear HO_xb'
  have HO_g' := Lib.hid (HO_g.out.ch hc (by omega)); clear HO_g; have HO_g := HO_g'; clear HO_g'
  clear HO_xs; have HO_xs := Lib.hid ho; clear ho hq
  have HB16 := Lib.hid (HB15.out.trans (hc.below (B := w.heap.size) (by omega) (by omega))); clear hc HB15
  go_wp2_with fail
  refine (markS_any _ _ _ z_a w5.heap.size w6.heap.size _ _ l_a (by omega) (by omega) HO_xa.out).mono ?_
  rintro e w17 ⟨rfl, ho, hc, hq⟩
  have hs17 := hc.size
  have HO_w' := Lib.hid (HO_w.out.ch hc (by omega)); clear HO_w; have HO_w := HO_w'; clear HO_w'
  have HO_xs' := Lib.hid (HO_xs.out.ch hc (by omega)); clear HO_xs; have HO_xs := HO_xs'; clear HO_xs'
  have HO_xb' := Lib.hid (HO_xb.out.ch hc (by omega)); clear HO_xb; have HO_xb := HO_xb'; clear HO_xb'
  have HO_g' := Lib.hid (HO_g.out.ch hc (by omega)); clear HO_g; have HO_g := HO_g'; clear HO_g'
  clear HO_xa; have HO_xa := Lib.hid ho; clear ho hq
  have HB17 := Lib.hid (HB16.out.trans (hc.below (B := w.heap.size) (by omega) (by omega))); clear hc HB16
  go_wp2_with fail
  refine (markS_any _ _ _ z_b w6.heap.size w7.heap.size _ _ l_b (by omega) (by omega) HO_xb.out).mono ?_
  rintro e w18 ⟨rfl, ho, hc, hq⟩
  have hs18 := hc.size
  have HO_w' := Lib.hid (HO_w.out.ch hc (by omega)); clear HO_w; have HO_w := HO_w'; clear HO_w'
  have HO_xs' := Lib.hid (HO_xs.out.ch hc (by omega)); clear HO_xs; have HO_xs := HO_xs'; clear HO_xs'
  have HO_xa' := Lib.hid (HO_xa.out.ch hc (by omega)); clear HO_xa; have HO_xa := HO_xa'; clear HO_xa'
  have HO_g' := Lib.hid (HO_g.out.ch hc (by omega)); clear HO_g; have HO_g := HO_g'; clear HO_g'
  clear HO_xb; have HO_xb := Lib.hid ho; clear ho hq
  have HB18 := Lib.hid (HB17.out.trans (hc.below (B := w.heap.size) (by omega) (by omega))); clear hc HB17
  go_wp2_with fail
  refine (eqS_same _ _ _ _ _ rz _ _ _ hn_w HO_g.out.rd HO_w.out.rd).mono ?_
  rintro e w19 ⟨rfl, hb⟩
  have hs19 := hb.size
  have HO_w' := Lib.hid (HO_w.out.below hb); clear HO_w; have HO_w := HO_w'; clear HO_w'
  have HO_xs' := Lib.hid (HO_xs.out.below hb); clear HO_xs; have HO_xs := HO_xs'; clear HO_xs'
  have HO_xa' := Lib.hid (HO_xa.out.below hb); clear HO_xa; have HO_xa := HO_xa'; clear HO_xa'
  have HO_xb' := Lib.hid (HO_xb.out.below hb); clear HO_xb; have HO_xb := HO_xb'; clear HO_xb'
  have HO_g' := Lib.hid (HO_g.out.below hb); clear HO_g; have HO_g := HO_g'; clear HO_g'
  have HB19 := Lib.hid (HB18.out.trans (hb.mono HB18.out.size)); clear hb HB18
  go_wp2_with fail
  refine (markS_any _ _ _ rz w7.heap.size w8.heap.size _ _ hn_w (by omega) (by omega) HO_g.out).mono ?_
  rintro e w20 ⟨rfl, ho, hc, hq⟩
  have hs20 := hc.size
  have HO_w' := Lib.hid (HO_w.out.ch hc (by omega)); clear HO_w; have HO_w := HO_w'; clear HO_w'
  have HO_xs' := Lib.hid (HO_xs.out.ch hc (by omega)); clear HO_xs; have HO_xs := HO_xs'; clear HO_xs'
  have HO_xa' := Lib.hid (HO_xa.out.ch hc (by omega)); clear HO_xa; have HO_xa := HO_xa'; clear HO_xa'
  have HO_xb' := Lib.hid (HO_xb.out.ch hc (by omega)); clear HO_xb; have HO_xb := HO_xb'; clear HO_xb'
  clear HO_g; have HO_g := Lib.hid ho; clear ho hq
  have HB20 := Lib.hid (HB19.out.trans (hc.below (B := w.heap.size) (by omega) (by omega))); clear hc HB19
  go_wp2_with fail
  refine (heldS_any _ _ _ _ _ _ hn_w (by omega) (by omega) HO_g.out.rd).mono ?_
  rintro e w21 ⟨rfl, hb⟩
  have hs21 := hb.size
  have HO_w' := Lib.hid (HO_w.out.below hb); clear HO_w; have HO_w := HO_w'; clear HO_w'
  have HO_xs' := Lib.hid (HO_xs.out.below hb); clear HO_xs; have HO_xs := HO_xs'; clear HO_xs'
  have HO_xa' := Lib.hid (HO_xa.out.below hb); clear HO_xa; have HO_xa := HO_xa'; clear HO_xa'
  have HO_xb' := Lib.hid (HO_xb.out.below hb); clear HO_xb; have HO_xb := HO_xb'; clear HO_xb'
  have HO_g' := Lib.hid (HO_g.out.below hb); clear HO_g; have HO_g := HO_g'; clear HO_g'
  have HB21 := Lib.hid (HB20.out.trans (hb.mono HB20.out.size)); clear hb HB20
  clear HO_xs
  clear HO_xa
  clear HO_xb
  go_wp2_with fail
  refine (toS_any A_s n_s c_s z_s w.heap.size _ l_s (HR_s.out.belowB HB21.out (Nat.le_refl _))).mono ?_
  rintro e w22 ⟨g22, rfl, ho, hb⟩
  have hs22 := hb.size
  have HO_w' := Lib.hid (HO_w.out.below hb); clear HO_w; have HO_w := HO_w'; clear HO_w'
  have HO_g' := Lib.hid (HO_g.out.below hb); clear HO_g; have HO_g := HO_g'; clear HO_g'
  have HB22 := Lib.hid (HB21.out.trans (hb.mono HB21.out.size)); clear hb HB21
  have HO_vs := Lib.hid ho; clear ho
  go_wp2_with fail
  refine (toS_any A_a n_a c_a z_a w.heap.size _ l_a (HR_a.out.belowB HB22.out (Nat.le_refl _))).mono ?_
  rintro e w23 ⟨g23, rfl, ho, hb⟩
  have hs23 := hb.size
  have HO_w' := Lib.hid (HO_w.out.below hb); clear HO_w; have HO_w := HO_w'; clear HO_w'
  have HO_g' := Lib.hid (HO_g.out.below hb); clear HO_g; have HO_g := HO_g'; clear HO_g'
  have HO_vs' := Lib.hid (HO_vs.out.below hb); clear HO_vs; have HO_vs := HO_vs'; clear HO_vs'
  have HB23 := Lib.hid (HB22.out.trans (hb.mono HB22.out.size)); clear hb HB22
  have HO_va := Lib.hid ho; clear ho
  go_wp2_with fail
  refine (toS_any A_b n_b c_b z_b w.heap.size _ l_b (HR_b.out.belowB HB23.out (Nat.le_refl _))).mono ?_
  rintro e w24 ⟨g24, rfl, ho, hb⟩
  have hs24 := hb.size
  have HO_w' := Lib.hid (HO_w.out.below hb); clear HO_w; have HO_w := HO_w'; clear HO_w'
  have HO_g' := Lib.hid (HO_g.out.below hb); clear HO_g; have HO_g := HO_g'; clear HO_g'
  have HO_vs' := Lib.hid (HO_vs.out.below hb); clear HO_vs; have HO_vs := HO_vs'; clear HO_vs'
  have HO_va' := Lib.hid (HO_va.out.below hb); clear HO_va; have HO_va := HO_va'; clear HO_va'
  have HB24 := Lib.hid (HB23.out.trans (hb.mono HB23.out.size)); clear hb HB23
  have HO_vb := Lib.hid ho; clear ho
  go_wp2_with fail
  refine (HI.out _ _ _ _ _ _ _ _ _ _ HO_vs.out.rd HO_va.out.rd HO_vb.out.rd).mono ?_
  rintro e w25 ⟨A_h, n_h, c_h, rfl, ho, hn_h, hb⟩
  have hs25 := hb.size
  have HO_w' := Lib.hid (HO_w.out.below hb); clear HO_w; have HO_w := HO_w'; clear HO_w'
  have HO_g' := Lib.hid (HO_g.out.below hb); clear HO_g; have HO_g := HO_g'; clear HO_g'
  have HO_vs' := Lib.hid (HO_vs.out.below hb); clear HO_vs; have HO_vs := HO_vs'; clear HO_vs'
  have HO_va' := Lib.hid (HO_va.out.below hb); clear HO_va; have HO_va := HO_va'; clear HO_va'
  have HO_vb' := Lib.hid (HO_vb.out.below hb); clear HO_vb; have HO_vb := HO_vb'; clear HO_vb'
  have HB25 := Lib.hid (HB24.out.trans (hb.mono HB24.out.size)); clear hb HB24
  have HO_h := Lib.hid ho; clear ho
  obtain rfl : n_w = n_h := HO_w.out.len.symm.trans HO_h.out.len
  go_wp2_with fail
  refine (eqS_same _ _ _ _ _ rz _ _ _ hn_w HO_h.out.rd HO_w.out.rd).mono ?_
  rintro e w26 ⟨rfl, hb⟩
  have hs26 := hb.size
  have HO_w' := Lib.hid (HO_w.out.below hb); clear HO_w; have HO_w := HO_w'; clear HO_w'
  have HO_g' := Lib.hid (HO_g.out.below hb); clear HO_g; have HO_g := HO_g'; clear HO_g'
  have HO_vs' := Lib.hid (HO_vs.out.below hb); clear HO_vs; have HO_vs := HO_vs'; clear HO_vs'
  have HO_va' := Lib.hid (HO_va.out.below hb); clear HO_va; have HO_va := HO_va'; clear HO_va'
  have HO_vb' := Lib.hid (HO_vb.out.below hb); clear HO_vb; have HO_vb := HO_vb'; clear HO_vb'
  have HO_h' := Lib.hid (HO_h.out.below hb); clear HO_h; have HO_h := HO_h'; clear HO_h'
  have HB26 := Lib.hid (HB25.out.trans (hb.mono HB25.out.size)); clear hb HB25
  go_wp2_with fail
  refine (heldS_any _ _ _ _ _ _ hn_w (by omega) (by omega) HO_g.out.rd).mono ?_
  rintro e w27 ⟨rfl, hb⟩
  have hs27 := hb.size
  have HO_w' := Lib.hid (HO_w.out.below hb); clear HO_w; have HO_w := HO_w'; clear HO_w'
  have HO_g' := Lib.hid (HO_g.out.below hb); clear HO_g; have HO_g := HO_g'; clear HO_g'
  have HO_vs' := Lib.hid (HO_vs.out.below hb); clear HO_vs; have HO_vs := HO_vs'; clear HO_vs'
  have HO_va' := Lib.hid (HO_va.out.below hb); clear HO_va; have HO_va := HO_va'; clear HO_va'
  have HO_vb' := Lib.hid (HO_vb.out.below hb); clear HO_vb; have HO_vb := HO_vb'; clear HO_vb'
  have HO_h' := Lib.hid (HO_h.out.below hb); clear HO_h; have HO_h := HO_h'; clear HO_h'
  have HB27 := Lib.hid (HB26.out.trans (hb.mono HB26.out.size)); clear hb HB26
  go_wp2_with fail
  go_ret
  exact ⟨rfl, HB27.out⟩
end Go.Proofs.Ytokdddkbpmcfgaa.Wds
