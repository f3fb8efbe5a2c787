/-
  The walk of the law of LeastPressure: the code answers as the model, for all arguments; nothing that was there has changed.
-/
import Derived.Test.YtfmplneopmbfoaaSLp
import Derived.Test.YtfmplneopmbfoaaOpenT
import Derived.Test.YtfmplneopmbfoaaMkT
namespace Go.Proofs.Ytfmplneopmbfoaa.Wds
open Go.RowKit
set_option linter.unusedVariables false

set_option maxHeartbeats 2000000 in
set_option maxRecDepth 100000 in
theorem law_leastPressure (A_ts : Option Addr) (n_ts c_ts : Nat) (zz_ts : List Tk.T) (w : World) (w_ts : RowT w A_ts n_ts zz_ts) :
    Calls Try.prog 10 #[.slice A_ts n_ts c_ts] w fun e w' => e = .returned (.bool true) ∧ Below w.heap.size w w' := by
  obtain ⟨z_ts, hr_ts, hm_ts, hk_ts⟩ : ∃ zs, RdT w w.heap.size A_ts n_ts zs ∧ n_ts ≤ 9223372036854775807 ∧ ∀ k, k < n_ts → (Tk.nth zs k).ns.length ≤ 9223372036854775807 := ⟨_, w_ts⟩
  have HK_ts := Lib.hid hk_ts; clear hk_ts
  have HR_ts := Lib.hid hr_ts; clear hr_ts w_ts
  by_cases l_ts : Ln.totL (Tk.nss z_ts) ≤ 1048576
  rotate_left
  · have l1 : leftR 1048576 (Tk.nss z_ts) = -1 := leftR_out (by omega)
    have hsz := szT_any A_ts n_ts c_ts z_ts _ w 1048576 (by decide) (by decide) hm_ts HK_ts.out HR_ts.out
    rw [l1] at hsz
    have HSZ := Lib.hid hsz; clear hsz l1 l_ts
    go_enter Try.func10, Try.ntmps10
    go_wp2_with fail
    refine HSZ.out.mono ?_
    rintro e w' ⟨rfl, hb⟩
    have HB0 := Lib.hid hb; clear hb
    go_wp2
    go_ret
    exact ⟨rfl, HB0.out⟩
  have hl_ts : n_ts ≤ 1048576 := by have h1 := HR_ts.out.len; have h2 := l_ts; unfold Ln.totL at h2; rw [Tk.nss_len] at h2; omega
  have hS : ∀ (W : World) (A_ts : Option Addr) (c_ts : Nat) (B_ts : Nat), RdT W B_ts A_ts n_ts z_ts → Calls Try.prog 38 #[.slice A_ts n_ts c_ts] W (Ret1IB (Lp.leastOf z_ts).1 ((Lp.leastOf z_ts).2.1 : Nat) (Lp.leastOf z_ts).2.2 W) :=
    fun W A_ts c_ts B_ts r_ts => sLeastPressure_any A_ts n_ts c_ts z_ts B_ts W l_ts r_ts
  have hI : ∀ (W : World) (A_ts : Option Addr) (c_ts : Nat) (B_ts : Nat), RdT W B_ts A_ts n_ts z_ts → Calls Try.prog 24 #[.slice A_ts n_ts c_ts] W (Ret1IB (Lp.leastOf z_ts).1 ((Lp.leastOf z_ts).2.1 : Nat) (Lp.leastOf z_ts).2.2 W) :=
    fun W A_ts c_ts B_ts r_ts => iLeastPressure_any A_ts n_ts c_ts z_ts B_ts W l_ts r_ts
  generalize (Lp.leastOf z_ts).1 = rz at hS hI
  generalize (Lp.leastOf z_ts).2.2 = ok at hS hI
  generalize (Lp.leastOf z_ts).2.1 = lpv at hS hI
  have HS := Lib.hid hS; clear hS
  have HI := Lib.hid hI; clear hI
  obtain ⟨lv, hlv⟩ : ∃ z, z = leftR 1048576 (Tk.nss z_ts) := ⟨_, rfl⟩
  have hsz := szT_any A_ts n_ts c_ts z_ts _ w 1048576 (by decide) (by decide) hm_ts HK_ts.out HR_ts.out
  rw [← hlv] at hsz
  have lv0 : ¬ (lv < 0) := by rw [hlv, leftR_in (by omega)]; omega
  have HSZ := Lib.hid hsz; clear hsz hlv
  have HBw : Hid (Below w.heap.size w w) := Lib.hid (Below.refl _ _)
  go_enter Try.func10, Try.ntmps10
  go_wp2_with fail
  refine HSZ.out.mono ?_
  rintro e w0 ⟨rfl, hb⟩
  have hs0 := hb.size
  have HB0 := Lib.hid hb; clear hb
  go_wp2_with fail
  refine (toTS_any A_ts n_ts c_ts z_ts w.heap.size _ l_ts (HR_ts.out.belowB HB0.out (Nat.le_refl _))).mono ?_
  rintro e w1 ⟨g1, rfl, ho, hb⟩
  have hs1 := hb.size
  have HB1 := Lib.hid (HB0.out.trans (hb.mono HB0.out.size)); clear hb HB0
  have HO_cts := Lib.hid ho; clear ho
  go_wp2_with fail
  refine (HS.out _ _ _ _ HO_cts.out.rd).mono ?_
  rintro e w2 ⟨A_w, n_w, c_w, rfl, ho, hn_w, _, hb⟩
  have hs2 := hb.size
  have HO_cts' := Lib.hid (HO_cts.out.below hb); clear HO_cts; have HO_cts := HO_cts'; clear HO_cts'
  have HB2 := Lib.hid (HB1.out.trans (hb.mono HB1.out.size)); clear hb HB1
  have HO_w := Lib.hid ho; clear ho
  clear HO_cts
  go_wp2_with fail
  refine (toTS_any A_ts n_ts c_ts z_ts w.heap.size _ l_ts (HR_ts.out.belowB HB2.out (Nat.le_refl _))).mono ?_
  rintro e w3 ⟨g3, rfl, ho, hb⟩
  have hs3 := hb.size
  have HO_w' := Lib.hid (HO_w.out.below hb); clear HO_w; have HO_w := HO_w'; clear HO_w'
  have HB3 := Lib.hid (HB2.out.trans (hb.mono HB2.out.size)); clear hb HB2
  have HO_xts := Lib.hid ho; clear ho
  go_wp2_with fail
  refine (HI.out _ _ _ _ HO_xts.out.rd).mono ?_
  rintro e w4 ⟨A_g, n_g, c_g, rfl, ho, hn_g, _, hb⟩
  have hs4 := hb.size
  have HO_w' := Lib.hid (HO_w.out.below hb); clear HO_w; have HO_w := HO_w'; clear HO_w'
  have HO_xts' := Lib.hid (HO_xts.out.below hb); clear HO_xts; have HO_xts := HO_xts'; clear HO_xts'
  have HB4 := Lib.hid (HB3.out.trans (hb.mono HB3.out.size)); clear hb HB3
  have HO_g := Lib.hid ho; clear ho
  obtain rfl : n_w = n_g := HO_w.out.len.symm.trans HO_g.out.len
  go_wp2_with fail
  refine (eqS_same _ _ _ _ _ rz _ _ _ hn_w HO_g.out.rd HO_w.out.rd).mono ?_
  rintro e w5 ⟨rfl, hb⟩
  have hs5 := hb.size
  have HO_w' := Lib.hid (HO_w.out.below hb); clear HO_w; have HO_w := HO_w'; clear HO_w'
  have HO_xts' := Lib.hid (HO_xts.out.below hb); clear HO_xts; have HO_xts := HO_xts'; clear HO_xts'
  have HO_g' := Lib.hid (HO_g.out.below hb); clear HO_g; have HO_g := HO_g'; clear HO_g'
  have HB5 := Lib.hid (HB4.out.trans (hb.mono HB4.out.size)); clear hb HB4
  go_wp2_with fail
  refine (toTS_any A_ts n_ts c_ts z_ts w.heap.size _ l_ts (HR_ts.out.belowB HB5.out (Nat.le_refl _))).mono ?_
  rintro e w6 ⟨g6, rfl, ho, hb⟩
  have hs6 := hb.size
  have HO_w' := Lib.hid (HO_w.out.below hb); clear HO_w; have HO_w := HO_w'; clear HO_w'
  have HO_xts' := Lib.hid (HO_xts.out.below hb); clear HO_xts; have HO_xts := HO_xts'; clear HO_xts'
  have HO_g' := Lib.hid (HO_g.out.below hb); clear HO_g; have HO_g := HO_g'; clear HO_g'
  have HB6 := Lib.hid (HB5.out.trans (hb.mono HB5.out.size)); clear hb HB5
  have HO_yts := Lib.hid ho; clear ho
  go_wp2_with fail
  refine (eqTS_same _ _ _ _ _ z_ts _ _ _ l_ts HO_xts.out.rd HO_yts.out.rd).mono ?_
  rintro e w7 ⟨rfl, hb⟩
  have hs7 := hb.size
  have HO_w' := Lib.hid (HO_w.out.below hb); clear HO_w; have HO_w := HO_w'; clear HO_w'
  have HO_xts' := Lib.hid (HO_xts.out.below hb); clear HO_xts; have HO_xts := HO_xts'; clear HO_xts'
  have HO_g' := Lib.hid (HO_g.out.below hb); clear HO_g; have HO_g := HO_g'; clear HO_g'
  have HO_yts' := Lib.hid (HO_yts.out.below hb); clear HO_yts; have HO_yts := HO_yts'; clear HO_yts'
  have HB7 := Lib.hid (HB6.out.trans (hb.mono HB6.out.size)); clear hb HB6
  clear HO_yts
  go_wp2_with fail
  refine (markTS_any _ _ _ z_ts w2.heap.size w3.heap.size _ _ l_ts (by omega) (by omega) HO_xts.out).mono ?_
  rintro e w8 ⟨⟨mv, mv0, rfl⟩, hc⟩
  have mv1 : ¬ (mv < 0) := by omega
  have hs8 := hc.size
  have HO_w' := Lib.hid (HO_w.out.ch hc (by omega)); clear HO_w; have HO_w := HO_w'; clear HO_w'
  have HO_g' := Lib.hid (HO_g.out.ch hc (by omega)); clear HO_g; have HO_g := HO_g'; clear HO_g'
  clear HO_xts
  have HB8 := Lib.hid (HB7.out.trans (hc.below (B := w.heap.size) (by omega) (by omega))); clear hc HB7
  go_wp2_with fail
  refine (eqS_same _ _ _ _ _ rz _ _ _ hn_w HO_g.out.rd HO_w.out.rd).mono ?_
  rintro e w9 ⟨rfl, hb⟩
  have hs9 := hb.size
  have HO_w' := Lib.hid (HO_w.out.below hb); clear HO_w; have HO_w := HO_w'; clear HO_w'
  have HO_g' := Lib.hid (HO_g.out.below hb); clear HO_g; have HO_g := HO_g'; clear HO_g'
  have HB9 := Lib.hid (HB8.out.trans (hb.mono HB8.out.size)); clear hb HB8
  go_wp2_with fail
  refine (markS_any _ _ _ rz w3.heap.size w4.heap.size _ _ hn_w (by omega) (by omega) HO_g.out).mono ?_
  rintro e w10 ⟨rfl, ho, hc, hq⟩
  have hs10 := hc.size
  have HO_w' := Lib.hid (HO_w.out.ch hc (by omega)); clear HO_w; have HO_w := HO_w'; clear HO_w'
  clear HO_g; have HO_g := Lib.hid ho; clear ho hq
  have HB10 := Lib.hid (HB9.out.trans (hc.below (B := w.heap.size) (by omega) (by omega))); clear hc HB9
  go_wp2_with fail
  refine (heldS_any _ _ _ _ _ _ hn_w (by omega) (by omega) HO_g.out.rd).mono ?_
  rintro e w11 ⟨rfl, hb⟩
  have hs11 := hb.size
  have HO_w' := Lib.hid (HO_w.out.below hb); clear HO_w; have HO_w := HO_w'; clear HO_w'
  have HO_g' := Lib.hid (HO_g.out.below hb); clear HO_g; have HO_g := HO_g'; clear HO_g'
  have HB11 := Lib.hid (HB10.out.trans (hb.mono HB10.out.size)); clear hb HB10
  go_wp2_with fail
  refine (toTS_any A_ts n_ts c_ts z_ts w.heap.size _ l_ts (HR_ts.out.belowB HB11.out (Nat.le_refl _))).mono ?_
  rintro e w12 ⟨g12, rfl, ho, hb⟩
  have hs12 := hb.size
  have HO_w' := Lib.hid (HO_w.out.below hb); clear HO_w; have HO_w := HO_w'; clear HO_w'
  have HO_g' := Lib.hid (HO_g.out.below hb); clear HO_g; have HO_g := HO_g'; clear HO_g'
  have HB12 := Lib.hid (HB11.out.trans (hb.mono HB11.out.size)); clear hb HB11
  have HO_vts := Lib.hid ho; clear ho
  go_wp2_with fail
  refine (HI.out _ _ _ _ HO_vts.out.rd).mono ?_
  rintro e w13 ⟨A_h, n_h, c_h, rfl, ho, hn_h, _, hb⟩
  have hs13 := hb.size
  have HO_w' := Lib.hid (HO_w.out.below hb); clear HO_w; have HO_w := HO_w'; clear HO_w'
  have HO_g' := Lib.hid (HO_g.out.below hb); clear HO_g; have HO_g := HO_g'; clear HO_g'
  have HO_vts' := Lib.hid (HO_vts.out.below hb); clear HO_vts; have HO_vts := HO_vts'; clear HO_vts'
  have HB13 := Lib.hid (HB12.out.trans (hb.mono HB12.out.size)); clear hb HB12
  have HO_h := Lib.hid ho; clear ho
  obtain rfl : n_w = n_h := HO_w.out.len.symm.trans HO_h.out.len
  go_wp2_with fail
  refine (eqS_same _ _ _ _ _ rz _ _ _ hn_w HO_h.out.rd HO_w.out.rd).mono ?_
  rintro e w14 ⟨rfl, hb⟩
  have hs14 := hb.size
  have HO_w' := Lib.hid (HO_w.out.below hb); clear HO_w; have HO_w := HO_w'; clear HO_w'
  have HO_g' := Lib.hid (HO_g.out.below hb); clear HO_g; have HO_g := HO_g'; clear HO_g'
  have HO_vts' := Lib.hid (HO_vts.out.below hb); clear HO_vts; have HO_vts := HO_vts'; clear HO_vts'
  have HO_h' := Lib.hid (HO_h.out.below hb); clear HO_h; have HO_h := HO_h'; clear HO_h'
  have HB14 := Lib.hid (HB13.out.trans (hb.mono HB13.out.size)); clear hb HB13
  go_wp2_with fail
  refine (heldS_any _ _ _ _ _ _ hn_w (by omega) (by omega) HO_g.out.rd).mono ?_
  rintro e w15 ⟨rfl, hb⟩
  have hs15 := hb.size
  have HO_w' := Lib.hid (HO_w.out.below hb); clear HO_w; have HO_w := HO_w'; clear HO_w'
  have HO_g' := Lib.hid (HO_g.out.below hb); clear HO_g; have HO_g := HO_g'; clear HO_g'
  have HO_vts' := Lib.hid (HO_vts.out.below hb); clear HO_vts; have HO_vts := HO_vts'; clear HO_vts'
  have HO_h' := Lib.hid (HO_h.out.below hb); clear HO_h; have HO_h := HO_h'; clear HO_h'
  have HB15 := Lib.hid (HB14.out.trans (hb.mono HB14.out.size)); clear hb HB14
  go_wp2_with fail
  go_ret
  exact ⟨rfl, HB15.out⟩
end Go.Proofs.Ytfmplneopmbfoaa.Wds
