/-
  The walk of the law of PathBound: the code answers as the model, for all arguments; nothing that was there has changed.
-/
import Derived.Test.YtnbcobhcemjbnaaSHgt2
import Derived.Test.YtnbcobhcemjbnaaIHgt2
import Derived.Test.YtnbcobhcemjbnaaOpenT
namespace Go.Proofs.Ytnbcobhcemjbnaa.Wds
open Go.RowKit
set_option linter.unusedVariables false

set_option maxHeartbeats 2000000 in
set_option maxRecDepth 100000 in
theorem law_pathBound (A_ts : Option Addr) (n_ts c_ts : Nat) (zz_ts : List Tk.T) (w : World) (w_ts : RowT w A_ts n_ts zz_ts) :
    Calls Try.prog 6 #[.slice A_ts n_ts c_ts] w fun e w' => e = .returned (.bool true) ∧ Below w.heap.size w w' := by
  obtain ⟨z_ts, hr_ts, hm_ts, hk_ts⟩ : ∃ zs, RdT w w.heap.size A_ts n_ts zs ∧ n_ts ≤ 9223372036854775807 ∧ ∀ k, k < n_ts → (Tk.nth zs k).ns.length ≤ 9223372036854775807 := ⟨_, w_ts⟩
  have HK_ts := Lib.hid hk_ts; clear hk_ts
  have HR_ts := Lib.hid hr_ts; clear hr_ts w_ts
  by_cases l_ts : Ln.totL (Tk.nss z_ts) ≤ 1048576
  rotate_left
  · have l1 : leftR 1048576 (Tk.nss z_ts) = -1 := leftR_out (by omega)
    have hsz := szT_any A_ts n_ts c_ts z_ts _ w 1048576 (by decide) (by decide) hm_ts HK_ts.out HR_ts.out
    rw [l1] at hsz
    have HSZ := Lib.hid hsz; clear hsz l1 l_ts
    go_enter Try.func6, Try.ntmps6
    go_wp2_with fail
    refine HSZ.out.mono ?_
    rintro e w' ⟨rfl, hb⟩
    have HB0 := Lib.hid hb; clear hb
    go_wp2
    go_ret
    exact ⟨rfl, HB0.out⟩
  have hl_ts : n_ts ≤ 1048576 := by have h1 := HR_ts.out.len; have h2 := l_ts; unfold Ln.totL at h2; rw [Tk.nss_len] at h2; omega
  have hS : ∀ (W : World) (A_ts : Option Addr) (c_ts : Nat) (B_ts : Nat), RdT W B_ts A_ts n_ts z_ts → Calls Try.prog 24 #[.slice A_ts n_ts c_ts] W (RetIB (Tk.pathBound z_ts).1 (Tk.pathBound z_ts).2 W) :=
    fun W A_ts c_ts B_ts r_ts => sPathBound_any A_ts n_ts c_ts z_ts B_ts W l_ts r_ts
  have hI : ∀ (W : World) (A_ts : Option Addr) (c_ts : Nat) (B_ts : Nat), RdT W B_ts A_ts n_ts z_ts → Calls Try.prog 25 #[.slice A_ts n_ts c_ts] W (RetIB (Tk.pathBound z_ts).1 (Tk.pathBound z_ts).2 W) :=
    fun W A_ts c_ts B_ts r_ts => iPathBound_any A_ts n_ts c_ts z_ts B_ts W l_ts r_ts
  generalize (Tk.pathBound z_ts).1 = rv at hS hI
  generalize (Tk.pathBound z_ts).2 = ok at hS hI
  have HS := Lib.hid hS; clear hS
  have HI := Lib.hid hI; clear hI
  obtain ⟨lv, hlv⟩ : ∃ z, z = leftR 1048576 (Tk.nss z_ts) := ⟨_, rfl⟩
  have hsz := szT_any A_ts n_ts c_ts z_ts _ w 1048576 (by decide) (by decide) hm_ts HK_ts.out HR_ts.out
  rw [← hlv] at hsz
  have lv0 : ¬ (lv < 0) := by rw [hlv, leftR_in (by omega)]; omega
  have HSZ := Lib.hid hsz; clear hsz hlv
  have HBw : Hid (Below w.heap.size w w) := Lib.hid (Below.refl _ _)
  go_enter Try.func6, Try.ntmps6
  go_wp2_with fail
  refine HSZ.out.mono ?_
  rintro e w0 ⟨rfl, hb⟩
  have hs0 := hb.size
  have HB0 := Lib.hid hb; clear hb
  go_wp2_with fail
  refine (toTS_any A_ts n_ts c_ts z_ts w.heap.size _ l_ts (HR_ts.out.belowB HB0.out (Nat.le_refl _))).mono ?_
  rintro e w1 ⟨g1, rfl, ho, hb⟩
  have hs1 := hb.size
  have HB1 := Lib.hid (HB0.out.trans (hb.mono HB0.out.size)); clear hb HB0
  have HO_cts := Lib.hid ho; clear ho
  go_wp2_with fail
  refine (HS.out _ _ _ _ HO_cts.out.rd).mono ?_
  rintro e w2 ⟨rfl, hb⟩
  have hs2 := hb.size
  have HO_cts' := Lib.hid (HO_cts.out.below hb); clear HO_cts; have HO_cts := HO_cts'; clear HO_cts'
  have HB2 := Lib.hid (HB1.out.trans (hb.mono HB1.out.size)); clear hb HB1
  clear HO_cts
  go_wp2_with fail
  refine (toTS_any A_ts n_ts c_ts z_ts w.heap.size _ l_ts (HR_ts.out.belowB HB2.out (Nat.le_refl _))).mono ?_
  rintro e w3 ⟨g3, rfl, ho, hb⟩
  have hs3 := hb.size
  have HB3 := Lib.hid (HB2.out.trans (hb.mono HB2.out.size)); clear hb HB2
  have HO_xts := Lib.hid ho; clear ho
  go_wp2_with fail
  refine (HI.out _ _ _ _ HO_xts.out.rd).mono ?_
  rintro e w4 ⟨rfl, hb⟩
  have hs4 := hb.size
  have HO_xts' := Lib.hid (HO_xts.out.below hb); clear HO_xts; have HO_xts := HO_xts'; clear HO_xts'
  have HB4 := Lib.hid (HB3.out.trans (hb.mono HB3.out.size)); clear hb HB3
  go_wp2_with fail
  refine (toTS_any A_ts n_ts c_ts z_ts w.heap.size _ l_ts (HR_ts.out.belowB HB4.out (Nat.le_refl _))).mono ?_
  rintro e w5 ⟨g5, rfl, ho, hb⟩
  have hs5 := hb.size
  have HO_xts' := Lib.hid (HO_xts.out.below hb); clear HO_xts; have HO_xts := HO_xts'; clear HO_xts'
  have HB5 := Lib.hid (HB4.out.trans (hb.mono HB4.out.size)); clear hb HB4
  have HO_yts := Lib.hid ho; clear ho
  go_wp2_with fail
  refine (eqTS_same _ _ _ _ _ z_ts _ _ _ l_ts HO_xts.out.rd HO_yts.out.rd).mono ?_
  rintro e w6 ⟨rfl, hb⟩
  have hs6 := hb.size
  have HO_xts' := Lib.hid (HO_xts.out.below hb); clear HO_xts; have HO_xts := HO_xts'; clear HO_xts'
  have HO_yts' := Lib.hid (HO_yts.out.below hb); clear HO_yts; have HO_yts := HO_yts'; clear HO_yts'
  have HB6 := Lib.hid (HB5.out.trans (hb.mono HB5.out.size)); clear hb HB5
  clear HO_yts
  go_wp2_with fail
  go_ret
  exact ⟨rfl, HB6.out⟩
end Go.Proofs.Ytnbcobhcemjbnaa.Wds
