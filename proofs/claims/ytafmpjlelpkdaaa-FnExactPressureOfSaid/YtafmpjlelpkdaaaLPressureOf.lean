/-
  The walk of the law of PressureOf: the code answers as the model, for all arguments; nothing that was there has changed.
-/
import Derived.Test.YtafmpjlelpkdaaaPress
import Derived.Test.YtafmpjlelpkdaaaSPress
import Derived.Test.YtafmpjlelpkdaaaOpenT
namespace Go.Proofs.Ytafmpjlelpkdaaa.Wds
open Go.RowKit
set_option linter.unusedVariables false

set_option maxHeartbeats 2000000 in
set_option maxRecDepth 100000 in
theorem law_pressureOf (A_ts : Option Addr) (n_ts c_ts : Nat) (zz_ts : List Tk.T) (A_os : Option Addr) (n_os c_os : Nat) (zz_os : List Int) (w : World) (w_ts : RowT w A_ts n_ts zz_ts) (w_os : IsRow .i64 w A_os n_os c_os zz_os) :
    Calls Try.prog 14 #[.slice A_ts n_ts c_ts, .slice A_os n_os c_os] w fun e w' => e = .returned (.bool true) ∧ Below w.heap.size w w' := by
  obtain ⟨z_ts, hr_ts, hm_ts, hk_ts⟩ : ∃ zs, RdT w w.heap.size A_ts n_ts zs ∧ n_ts ≤ 9223372036854775807 ∧ ∀ k, k < n_ts → (Tk.nth zs k).ns.length ≤ 9223372036854775807 := ⟨_, w_ts⟩
  have HK_ts := Lib.hid hk_ts; clear hk_ts
  have HR_ts := Lib.hid hr_ts; clear hr_ts w_ts
  obtain ⟨z_os, hr_os⟩ : ∃ zs, Rd w w.heap.size A_os n_os zs := ⟨_, Rd.of_row w_os⟩
  have HR_os := Lib.hid hr_os; clear hr_os w_os
  by_cases l_os : n_os ≤ 1048576
  rotate_left
  · have l1 : 1048576 < n_os := by omega
    clear l_os
    go_enter Try.func14, Try.ntmps14
    go_wp2
    go_ret
    exact ⟨rfl, Below.refl _ _⟩
  by_cases l_ts : Ln.totL (Tk.nss z_ts) ≤ 1048576
  rotate_left
  · have l1 : leftR 1048576 (Tk.nss z_ts) = -1 := leftR_out (by omega)
    have hsz := szT_any A_ts n_ts c_ts z_ts _ w 1048576 (by decide) (by decide) hm_ts HK_ts.out HR_ts.out
    rw [l1] at hsz
    have HSZ := Lib.hid hsz; clear hsz l1 l_ts
    go_enter Try.func14, Try.ntmps14
    go_wp2_with fail
    refine HSZ.out.mono ?_
    rintro e w' ⟨rfl, hb⟩
    have HB0 := Lib.hid hb; clear hb
    go_wp2
    go_ret
    exact ⟨rfl, HB0.out⟩
  have hl_ts : n_ts ≤ 1048576 := by have h1 := HR_ts.out.len; have h2 := l_ts; unfold Ln.totL at h2; rw [Tk.nss_len] at h2; omega
  have hS : ∀ (W : World) (A_ts : Option Addr) (c_ts : Nat) (B_ts : Nat) (A_os : Option Addr) (c_os : Nat) (B_os : Nat), n_ts ≤ c_ts → n_os ≤ c_os → RdT W B_ts A_ts n_ts z_ts → Rd W B_os A_os n_os z_os → Calls Try.prog 51 #[.slice A_ts n_ts c_ts, .slice A_os n_os c_os] W (RetIB (Tk.pressureOf z_ts z_os).1 (Tk.pressureOf z_ts z_os).2 W) :=
    fun W A_ts c_ts B_ts A_os c_os B_os cc_ts cc_os r_ts r_os => sPressureOf_any A_ts n_ts c_ts z_ts B_ts A_os n_os c_os z_os B_os W l_ts cc_ts l_os cc_os r_ts r_os
  have hI : ∀ (W : World) (A_ts : Option Addr) (c_ts : Nat) (B_ts : Nat) (A_os : Option Addr) (c_os : Nat) (B_os : Nat), n_ts ≤ c_ts → n_os ≤ c_os → RdT W B_ts A_ts n_ts z_ts → Rd W B_os A_os n_os z_os → Calls Try.prog 30 #[.slice A_ts n_ts c_ts, .slice A_os n_os c_os] W (RetIB (Tk.pressureOf z_ts z_os).1 (Tk.pressureOf z_ts z_os).2 W) :=
    fun W A_ts c_ts B_ts A_os c_os B_os cc_ts cc_os r_ts r_os => iPressureOf_any A_ts n_ts c_ts z_ts B_ts A_os n_os c_os z_os B_os W l_ts cc_ts l_os cc_os r_ts r_os
  generalize (Tk.pressureOf z_ts z_os).1 = rv at hS hI
  generalize (Tk.pressureOf z_ts z_os).2 = ok at hS hI
  have HS := Lib.hid hS; clear hS
  have HI := Lib.hid hI; clear hI
  obtain ⟨lv, hlv⟩ : ∃ z, z = leftR 1048576 (Tk.nss z_ts) := ⟨_, rfl⟩
  have hsz := szT_any A_ts n_ts c_ts z_ts _ w 1048576 (by decide) (by decide) hm_ts HK_ts.out HR_ts.out
  rw [← hlv] at hsz
  have lv0 : ¬ (lv < 0) := by rw [hlv, leftR_in (by omega)]; omega
  have HSZ := Lib.hid hsz; clear hsz hlv
  have HBw : Hid (Below w.heap.size w w) := Lib.hid (Below.refl _ _)
  go_enter Try.func14, Try.ntmps14
  go_wp2_with fail
  refine HSZ.out.mono ?_
  rintro e w0 ⟨rfl, hb⟩
  have hs0 := hb.size
  have HB0 := Lib.hid hb; clear hb
  go_wp2_with fail
  refine (toTS_any A_ts n_ts c_ts z_ts w.heap.size _ l_ts (HR_ts.out.belowB HB0.out (Nat.le_refl _))).mono ?_
  rintro e w1 ⟨g1, rfl, ho, hb⟩
  have hs1 := hb.size
  have HB1 := Lib.hid (HB0.out.trans (hb.mono HB0.out.size)); clear hb HB0
  have HO_cts := Lib.hid ho; clear ho
  go_wp2_with fail
  refine (toS_any A_os n_os c_os z_os w.heap.size _ l_os (HR_os.out.belowB HB1.out (Nat.le_refl _))).mono ?_
  rintro e w2 ⟨g2, rfl, ho, hb⟩
  have hs2 := hb.size
  have HO_cts' := Lib.hid (HO_cts.out.below hb); clear HO_cts; have HO_cts := HO_cts'; clear HO_cts'
  have HB2 := Lib.hid (HB1.out.trans (hb.mono HB1.out.size)); clear hb HB1
  have HO_cos := Lib.hid ho; clear ho
  go_wp2_with fail
  refine (HS.out _ _ _ _ _ _ _ (Nat.le_refl _) (Nat.le_refl _) HO_cts.out.rd HO_cos.out.rd).mono ?_
  rintro e w3 ⟨rfl, hb⟩
  have hs3 := hb.size
  have HO_cts' := Lib.hid (HO_cts.out.below hb); clear HO_cts; have HO_cts := HO_cts'; clear HO_cts'
  have HO_cos' := Lib.hid (HO_cos.out.below hb); clear HO_cos; have HO_cos := HO_cos'; clear HO_cos'
  have HB3 := Lib.hid (HB2.out.trans (hb.mono HB2.out.size)); clear hb HB2
  clear HO_cts
  clear HO_cos
  go_wp2_with fail
  refine (toTS_any A_ts n_ts c_ts z_ts w.heap.size _ l_ts (HR_ts.out.belowB HB3.out (Nat.le_refl _))).mono ?_
  rintro e w4 ⟨g4, rfl, ho, hb⟩
  have hs4 := hb.size
  have HB4 := Lib.hid (HB3.out.trans (hb.mono HB3.out.size)); clear hb HB3
  have HO_xts := Lib.hid ho; clear ho
  go_wp2_with fail
  refine (toS_any A_os n_os c_os z_os w.heap.size _ l_os (HR_os.out.belowB HB4.out (Nat.le_refl _))).mono ?_
  rintro e w5 ⟨g5, rfl, ho, hb⟩
  have hs5 := hb.size
  have HO_xts' := Lib.hid (HO_xts.out.below hb); clear HO_xts; have HO_xts := HO_xts'; clear HO_xts'
  have HB5 := Lib.hid (HB4.out.trans (hb.mono HB4.out.size)); clear hb HB4
  have HO_xos := Lib.hid ho; clear ho
  go_wp2_with fail
  refine (HI.out _ _ _ _ _ _ _ (Nat.le_refl _) (Nat.le_refl _) HO_xts.out.rd HO_xos.out.rd).mono ?_
  rintro e w6 ⟨rfl, hb⟩
  have hs6 := hb.size
  have HO_xts' := Lib.hid (HO_xts.out.below hb); clear HO_xts; have HO_xts := HO_xts'; clear HO_xts'
  have HO_xos' := Lib.hid (HO_xos.out.below hb); clear HO_xos; have HO_xos := HO_xos'; clear HO_xos'
  have HB6 := Lib.hid (HB5.out.trans (hb.mono HB5.out.size)); clear hb HB5
  go_wp2_with fail
  refine (toTS_any A_ts n_ts c_ts z_ts w.heap.size _ l_ts (HR_ts.out.belowB HB6.out (Nat.le_refl _))).mono ?_
  rintro e w7 ⟨g7, rfl, ho, hb⟩
  have hs7 := hb.size
  have HO_xts' := Lib.hid (HO_xts.out.below hb); clear HO_xts; have HO_xts := HO_xts'; clear HO_xts'
  have HO_xos' := Lib.hid (HO_xos.out.below hb); clear HO_xos; have HO_xos := HO_xos'; clear HO_xos'
  have HB7 := Lib.hid (HB6.out.trans (hb.mono HB6.out.size)); clear hb HB6
  have HO_yts := Lib.hid ho; clear ho
  go_wp2_with fail
  refine (eqTS_same _ _ _ _ _ z_ts _ _ _ l_ts HO_xts.out.rd HO_yts.out.rd).mono ?_
  rintro e w8 ⟨rfl, hb⟩
  have hs8 := hb.size
  have HO_xts' := Lib.hid (HO_xts.out.below hb); clear HO_xts; have HO_xts := HO_xts'; clear HO_xts'
  have HO_xos' := Lib.hid (HO_xos.out.below hb); clear HO_xos; have HO_xos := HO_xos'; clear HO_xos'
  have HO_yts' := Lib.hid (HO_yts.out.below hb); clear HO_yts; have HO_yts := HO_yts'; clear HO_yts'
  have HB8 := Lib.hid (HB7.out.trans (hb.mono HB7.out.size)); clear hb HB7
  clear HO_yts
  go_wp2_with fail
  refine (toS_any A_os n_os c_os z_os w.heap.size _ l_os (HR_os.out.belowB HB8.out (Nat.le_refl _))).mono ?_
  rintro e w9 ⟨g9, rfl, ho, hb⟩
  have hs9 := hb.size
  have HO_xts' := Lib.hid (HO_xts.out.below hb); clear HO_xts; have HO_xts := HO_xts'; clear HO_xts'
  have HO_xos' := Lib.hid (HO_xos.out.below hb); clear HO_xos; have HO_xos := HO_xos'; clear HO_xos'
  have HB9 := Lib.hid (HB8.out.trans (hb.mono HB8.out.size)); clear hb HB8
  have HO_yos := Lib.hid ho; clear ho
  go_wp2_with fail
  refine (eqS_same _ _ _ _ _ z_os _ _ _ l_os HO_xos.out.rd HO_yos.out.rd).mono ?_
  rintro e w10 ⟨rfl, hb⟩
  have hs10 := hb.size
  have HO_xts' := Lib.hid (HO_xts.out.below hb); clear HO_xts; have HO_xts := HO_xts'; clear HO_xts'
  have HO_xos' := Lib.hid (HO_xos.out.below hb); clear HO_xos; have HO_xos := HO_xos'; clear HO_xos'
  have HO_yos' := Lib.hid (HO_yos.out.below hb); clear HO_yos; have HO_yos := HO_yos'; clear HO_yos'
  have HB10 := Lib.hid (HB9.out.trans (hb.mono HB9.out.size)); clear hb HB9
  clear HO_yos
  go_wp2_with fail
  go_ret
  exact ⟨rfl, HB10.out⟩
end Go.Proofs.Ytafmpjlelpkdaaa.Wds
