/-
  The walk of the law of InverseShuffle: the code answers as the model, for all arguments; nothing that was there has changed.
-/
import Derived.Test.YtokdddkbpmcfgaaInv
namespace Go.Proofs.Ytokdddkbpmcfgaa.Wds
open Go.RowKit
set_option linter.unusedVariables false

set_option maxHeartbeats 2000000 in
set_option maxRecDepth 100000 in
theorem law_inverseShuffle (A_s : Option Addr) (n_s c_s : Nat) (zz_s : List Int) (w : World) (w_s : IsRow .i64 w A_s n_s c_s zz_s) :
    Calls Try.prog 9 #[.slice A_s n_s c_s] w fun e w' => e = .returned (.bool true) ∧ Below w.heap.size w w' := by
  obtain ⟨z_s, hr_s⟩ : ∃ zs, Rd w w.heap.size A_s n_s zs := ⟨_, Rd.of_row w_s⟩
  have HR_s := Lib.hid hr_s; clear hr_s w_s
  by_cases l_s : n_s ≤ 1048576
  rotate_left
  · have l1 : 1048576 < n_s := by omega
    clear l_s
    go_enter Try.func9, Try.ntmps9
    go_wp2
    go_ret
    exact ⟨rfl, Below.refl _ _⟩
  have hS : ∀ (W : World) (A_s : Option Addr) (c_s : Nat) (B_s : Nat), Rd W B_s A_s n_s z_s → Calls Try.prog 40 #[.slice A_s n_s c_s] W (Ret1 (Ln.inverse z_s).1 (Ln.inverse z_s).2 W) :=
    fun W A_s c_s B_s r_s => sInverseShuffle_any A_s n_s c_s z_s B_s W l_s r_s
  have hI : ∀ (W : World) (A_s : Option Addr) (c_s : Nat) (B_s : Nat), Rd W B_s A_s n_s z_s → Calls Try.prog 41 #[.slice A_s n_s c_s] W (Ret1 (Ln.inverse z_s).1 (Ln.inverse z_s).2 W) :=
    fun W A_s c_s B_s r_s => iInverseShuffle_any A_s n_s c_s z_s B_s W l_s r_s
  generalize (Ln.inverse z_s).1 = rz at hS hI
  generalize (Ln.inverse z_s).2 = ok at hS hI
  have HS := Lib.hid hS; clear hS
  have HI := Lib.hid hI; clear hI
  have HB0 : Hid (Below w.heap.size w w) := Below.refl _ _
  go_enter Try.func9, Try.ntmps9
  go_wp2_with fail
  refine (toS_any A_s n_s c_s z_s w.heap.size _ l_s (HR_s.out.belowB HB0.out (Nat.le_refl _))).mono ?_
  rintro e w1 ⟨g1, rfl, ho, hb⟩
  have hs1 := hb.size
  have HB1 := Lib.hid (HB0.out.trans (hb.mono HB0.out.size)); clear hb HB0
  have HO_cs := Lib.hid ho; clear ho
  go_wp2_with fail
  refine (HS.out _ _ _ _ HO_cs.out.rd).mono ?_
  rintro e w2 ⟨A_w, n_w, c_w, rfl, ho, hn_w, hb⟩
  have hs2 := hb.size
  have HO_cs' := Lib.hid (HO_cs.out.below hb); clear HO_cs; have HO_cs := HO_cs'; clear HO_cs'
  have HB2 := Lib.hid (HB1.out.trans (hb.mono HB1.out.size)); clear hb HB1
  have HO_w := Lib.hid ho; clear ho
  clear HO_cs
  go_wp2_with fail
  refine (toS_any A_s n_s c_s z_s w.heap.size _ l_s (HR_s.out.belowB HB2.out (Nat.le_refl _))).mono ?_
  rintro e w3 ⟨g3, rfl, ho, hb⟩
  have hs3 := hb.size
  have HO_w' := Lib.hid (HO_w.out.below hb); clear HO_w; have HO_w := HO_w'; clear HO_w'
  have HB3 := Lib.hid (HB2.out.trans (hb.mono HB2.out.size)); clear hb HB2
  have HO_xs := Lib.hid ho; clear ho
  go_wp2_with fail
  refine (HI.out _ _ _ _ HO_xs.out.rd).mono ?_
  rintro e w4 ⟨A_g, n_g, c_g, rfl, ho, hn_g, hb⟩
  have hs4 := hb.size
  have HO_w' := Lib.hid (HO_w.out.below hb); clear HO_w; have HO_w := HO_w'; clear HO_w'
  have HO_xs' := Lib.hid (HO_xs.out.below hb); clear HO_xs; have HO_xs := HO_xs'; clear HO_xs'
  have HB4 := Lib.hid (HB3.out.trans (hb.mono HB3.out.size)); clear hb HB3
  have HO_g := Lib.hid ho; clear ho
  obtain rfl : n_w = n_g := HO_w.out.len.symm.trans HO_g.out.len
  go_wp2_with fail
  refine (eqS_same _ _ _ _ _ rz _ _ _ hn_w HO_g.out.rd HO_w.out.rd).mono ?_
  rintro e w5 ⟨rfl, hb⟩
  have hs5 := hb.size
  have HO_w' := Lib.hid (HO_w.out.below hb); clear HO_w; have HO_w := HO_w'; clear HO_w'
  have HO_xs' := Lib.hid (HO_xs.out.below hb); clear HO_xs; have HO_xs := HO_xs'; clear HO_xs'
  have HO_g' := Lib.hid (HO_g.out.below hb); clear HO_g; have HO_g := HO_g'; clear HO_g'
  have HB5 := Lib.hid (HB4.out.trans (hb.mono HB4.out.size)); clear hb HB4
  go_wp2_with fail
  refine (toS_any A_s n_s c_s z_s w.heap.size _ l_s (HR_s.out.belowB HB5.out (Nat.le_refl _))).mono ?_
  rintro e w6 ⟨g6, rfl, ho, hb⟩
  have hs6 := hb.size
  have HO_w' := Lib.hid (HO_w.out.below hb); clear HO_w; have HO_w := HO_w'; clear HO_w'
  have HO_xs' := Lib.hid (HO_xs.out.below hb); clear HO_xs; have HO_xs := HO_xs'; clear HO_xs'
  have HO_g' := Lib.hid (HO_g.out.below hb); clear HO_g; have HO_g := HO_g'; clear HO_g'
  have HB6 := Lib.hid (HB5.out.trans (hb.mono HB5.out.size)); clear hb HB5
  have HO_ys := Lib.hid ho; clear ho
  go_wp2_with fail
  refine (eqS_same _ _ _ _ _ z_s _ _ _ l_s HO_xs.out.rd HO_ys.out.rd).mono ?_
  rintro e w7 ⟨rfl, hb⟩
  have hs7 := hb.size
  have HO_w' := Lib.hid (HO_w.out.below hb); clear HO_w; have HO_w := HO_w'; clear HO_w'
  have HO_xs' := Lib.hid (HO_xs.out.below hb); clear HO_xs; have HO_xs := HO_xs'; clear HO_xs'
  have HO_g' := Lib.hid (HO_g.out.below hb); clear HO_g; have HO_g := HO_g'; clear HO_g'
  have HO_ys' := Lib.hid (HO_ys.out.below hb); clear HO_ys; have HO_ys := HO_ys'; clear HO_ys'
  have HB7 := Lib.hid (HB6.out.trans (hb.mono HB6.out.size)); clear hb HB6
  clear HO_ys
  go_wp2_with fail
  refine (markS_any _ _ _ z_s w2.heap.size w3.heap.size _ _ l_s (by omega) (by omega) HO_xs.out).mono ?_
  rintro e w8 ⟨rfl, ho, hc, hq⟩
  have hs8 := hc.size
  have HO_w' := Lib.hid (HO_w.out.ch hc (by omega)); clear HO_w; have HO_w := HO_w'; clear HO_w'
  have HO_g' := Lib.hid (HO_g.out.ch hc (by omega)); clear HO_g; have HO_g := HO_g'; clear HO_g'
  clear HO_xs; have HO_xs := Lib.hid ho; clear ho hq
  have HB8 := Lib.hid (HB7.out.trans (hc.below (B := w.heap.size) (by omega) (by omega))); clear hc HB7
  go_wp2_with fail
  refine (eqS_same _ _ _ _ _ rz _ _ _ hn_w HO_g.out.rd HO_w.out.rd).mono ?_
  rintro e w9 ⟨rfl, hb⟩
  have hs9 := hb.size
  have HO_w' := Lib.hid (HO_w.out.below hb); clear HO_w; have HO_w := HO_w'; clear HO_w'
  have HO_xs' := Lib.hid (HO_xs.out.below hb); clear HO_xs; have HO_xs := HO_xs'; clear HO_xs'
  have HO_g' := Lib.hid (HO_g.out.below hb); clear HO_g; have HO_g := HO_g'; clear HO_g'
  have HB9 := Lib.hid (HB8.out.trans (hb.mono HB8.out.size)); clear hb HB8
  go_wp2_with fail
  refine (markS_any _ _ _ rz w3.heap.size w4.heap.size _ _ hn_w (by omega) (by omega) HO_g.out).mono ?_
  rintro e w10 ⟨rfl, ho, hc, hq⟩
  have hs10 := hc.size
  have HO_w' := Lib.hid (HO_w.out.ch hc (by omega)); clear HO_w; have HO_w := HO_w'; clear HO_w'
  have HO_xs' := Lib.hid (HO_xs.out.ch hc (by omega)); clear HO_xs; have HO_xs := HO_xs'; clear HO_xs'
  clear HO_g; have HO_g := Lib.hid ho; clear ho hq
  have HB10 := Lib.hid (HB9.out.trans (hc.below (B := w.heap.size) (by omega) (by omega))); clear hc HB9
  go_wp2_with fail
  refine (heldS_any _ _ _ _ _ _ hn_w (by omega) (by omega) HO_g.out.rd).mono ?_
  rintro e w11 ⟨rfl, hb⟩
  have hs11 := hb.size
  have HO_w' := Lib.hid (HO_w.out.below hb); clear HO_w; have HO_w := HO_w'; clear HO_w'
  have HO_xs' := Lib.hid (HO_xs.out.below hb); clear HO_xs; have HO_xs := HO_xs'; clear HO_xs'
  have HO_g' := Lib.hid (HO_g.out.below hb); clear HO_g; have HO_g := HO_g'; clear HO_g'
  have HB11 := Lib.hid (HB10.out.trans (hb.mono HB10.out.size)); clear hb HB10
  clear HO_xs
  go_wp2_with fail
  refine (toS_any A_s n_s c_s z_s w.heap.size _ l_s (HR_s.out.belowB HB11.out (Nat.le_refl _))).mono ?_
  rintro e w12 ⟨g12, rfl, ho, hb⟩
  have hs12 := hb.size
  have HO_w' := Lib.hid (HO_w.out.below hb); clear HO_w; have HO_w := HO_w'; clear HO_w'
  have HO_g' := Lib.hid (HO_g.out.below hb); clear HO_g; have HO_g := HO_g'; clear HO_g'
  have HB12 := Lib.hid (HB11.out.trans (hb.mono HB11.out.size)); clear hb HB11
  have HO_vs := Lib.hid ho; clear ho
  go_wp2_with fail
  refine (HI.out _ _ _ _ HO_vs.out.rd).mono ?_
  rintro e w13 ⟨A_h, n_h, c_h, rfl, ho, hn_h, hb⟩
  have hs13 := hb.size
  have HO_w' := Lib.hid (HO_w.out.below hb); clear HO_w; have HO_w := HO_w'; clear HO_w'
  have HO_g' := Lib.hid (HO_g.out.below hb); clear HO_g; have HO_g := HO_g'; clear HO_g'
  have HO_vs' := Lib.hid (HO_vs.out.below hb); clear HO_vs; have HO_vs := HO_vs'; clear HO_vs'
  have HB13 := Lib.hid (HB12.out.trans (hb.mono HB12.out.size)); clear hb HB12
  have HO_h := Lib.hid ho; clear ho
  obtain rfl : n_w = n_h := HO_w.out.len.symm.trans HO_h.out.len
  go_wp2_with fail
  refine (eqS_same _ _ _ _ _ rz _ _ _ hn_w HO_h.out.rd HO_w.out.rd).mono ?_
  rintro e w14 ⟨rfl, hb⟩
  have hs14 := hb.size
  have HO_w' := Lib.hid (HO_w.out.below hb); clear HO_w; have HO_w := HO_w'; clear HO_w'
  have HO_g' := Lib.hid (HO_g.out.below hb); clear HO_g; have HO_g := HO_g'; clear HO_g'
  have HO_vs' := Lib.hid (HO_vs.out.below hb); clear HO_vs; have HO_vs := HO_vs'; clear HO_vs'
  have HO_h' := Lib.hid (HO_h.out.below hb); clear HO_h; have HO_h := HO_h'; clear HO_h'
  have HB14 := Lib.hid (HB13.out.trans (hb.mono HB13.out.size)); clear hb HB13
  go_wp2_with fail
  refine (heldS_any _ _ _ _ _ _ hn_w (by omega) (by omega) HO_g.out.rd).mono ?_
  rintro e w15 ⟨rfl, hb⟩
  have hs15 := hb.size
  have HO_w' := Lib.hid (HO_w.out.below hb); clear HO_w; have HO_w := HO_w'; clear HO_w'
  have HO_g' := Lib.hid (HO_g.out.below hb); clear HO_g; have HO_g := HO_g'; clear HO_g'
  have HO_vs' := Lib.hid (HO_vs.out.below hb); clear HO_vs; have HO_vs := HO_vs'; clear HO_vs'
  have HO_h' := Lib.hid (HO_h.out.below hb); clear HO_h; have HO_h := HO_h'; clear HO_h'
  have HB15 := Lib.hid (HB14.out.trans (hb.mono HB14.out.size)); clear hb HB14
  go_wp2_with fail
  go_ret
  exact ⟨rfl, HB15.out⟩
end Go.Proofs.Ytokdddkbpmcfgaa.Wds
