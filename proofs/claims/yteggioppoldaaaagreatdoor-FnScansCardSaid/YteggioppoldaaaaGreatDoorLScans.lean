/-
  The walk of the law FnScans: for every input that can be read it returns true, and nothing that was there has changed.
-/
import Derived.Test.YteggioppoldaaaaGreatDoorDraw8
import Derived.Test.YteggioppoldaaaaGreatDoorLan6
import Derived.Test.YteggioppoldaaaaGreatDoorLan10
import Derived.Test.YteggioppoldaaaaGreatDoorIRed
import Derived.Test.YteggioppoldaaaaGreatDoorIScan
import Derived.Test.YteggioppoldaaaaGreatDoorIStp
namespace Go.Proofs.YteggioppoldaaaaGreatDoor.Wds
open Go.RowKit Go.Proofs.YteggioppoldaaaaGreatDoor.Err
set_option linter.unusedVariables false

theorem redC {op b : Int} {A : Option Addr} {n c : Nat} {xs : List Int} {B : Nat} {w : World} (hop : Ln.isOp op = true) (hv : Ln.vec b xs = true) (hn : n ≤ 1048576) (hnc : n ≤ c) (r : Rd w B A n xs) (hg : ErrT w) :
    Calls Tryz.prog 14 #[.int .i64 op, .int .i64 b, .slice A n c] w (RetIB (Ln.red op b (Ln.lg n) xs) true w) := by
  have h := iReduceLanes_any op b A n c xs B w hn hnc r hg
  unfold Ln.reduce at h
  rw [hop, hv, r.len] at h
  exact h
theorem scanC {op b : Int} {A : Option Addr} {n c : Nat} {xs : List Int} {B : Nat} {w : World} (hop : Ln.isOp op = true) (hv : Ln.vec b xs = true) (hn : n ≤ 1048576) (r : Rd w B A n xs) (hg : ErrT w) :
    Calls Tryz.prog 15 #[.int .i64 op, .int .i64 b, .slice A n c] w (Ret1 (Ln.tab (Ln.sc op b xs) n) true w) := by
  have h := iScanLanes_any op b A n c xs B w hn r hg
  unfold Ln.scan at h
  rw [hop, hv, r.len] at h
  exact h
theorem stepC {op b : Int} {A : Option Addr} {n c : Nat} {xs : List Int} {B : Nat} {w : World} (hop : Ln.isOp op = true) (hv : Ln.vec b xs = true) (hn : n ≤ 1048576) (r : Rd w B A n xs) (hg : ErrT w) :
    Calls Tryz.prog 16 #[.int .i64 op, .int .i64 b, .slice A n c] w (Ret1 (Ln.st op b xs (Ln.lg n)) true w) := by
  have h := iStepScan_any op b A n c xs B w hn r hg
  unfold Ln.stepScan at h
  rw [hop, hv, r.len] at h
  exact h
theorem vec_st {op b : Int} {xs : List Int} (h0 : 0 ≤ op) (h1 : op ≤ 17) (hv : Ln.vec b xs = true) : Ln.vec b (Ln.st op b xs (Ln.lg xs.length)) = true := by
  have e := Ln.tab_self (Ln.st op b xs (Ln.lg xs.length))
  rw [Ln.st_len] at e
  rw [← e]
  exact Ln.vec_tab (Ln.vec_lanes hv) fun i hi => Ln.st_word h0 h1 hv _ i hi
theorem comm_of_assoc {op : Int} (h : Wd.assoc op = true) : Wd.comm op = true := by
  unfold Wd.assoc at h
  simp only [Bool.and_eq_true] at h
  exact h.1
set_option maxHeartbeats 2000000 in
set_option maxRecDepth 100000 in
theorem law_scans (a0 : Option Addr) (len0 cap0 : Nat) (z0 : List Int) (a1 : Option Addr) (len1 cap1 : Nat) (z1 : List Int) (w : World) (r0 : IsRow .u8 w a0 len0 cap0 z0) (r1 : IsRow .u8 w a1 len1 cap1 z1) (hErr : ErrT w) :
    Calls Tryz.prog 3 #[.slice a0 len0 cap0, .slice a1 len1 cap1] w fun e w' => e = .returned (.bool true) ∧ Below w.heap.size w w' := by
  have cl := r8long_any a0 a1 len0 cap0 len1 cap1 w r0.len' r1.len'
  by_cases hlong : 48 < len0 ∨ 48 < len1
  · rw [decide_eq_true hlong] at cl
    have CL := Lib.hid cl
    clear cl hlong r0 r1 hErr
    go_enter Tryz.func3, Tryz.ntmps3
    go_wp2_with fail
    refine CL.out.mono ?_
    rintro e w' ⟨rfl, rfl⟩
    go_wp2_with fail
    go_ret
    exact ⟨rfl, Below.refl _ _⟩
  · rw [decide_eq_false hlong] at cl
    have CL := Lib.hid cl
    have R0 := Lib.hid (fun (W : World) (hb : Below w.heap.size w W) => r0.below hb r0.block)
    have R1 := Lib.hid (fun (W : World) (hb : Below w.heap.size w W) => r1.below hb r1.block)
    have HE := Lib.hid (fun (W : World) (hb : Below w.heap.size w W) => hErr.below hb hErr.lt)
    clear cl hlong r0 r1 hErr
    go_enter Tryz.func3, Tryz.ntmps3
    go_wp2_with fail
    refine CL.out.mono ?_
    rintro e w' ⟨rfl, rfl⟩
    go_wp2_with fail
    refine (r8bits_any _ _ _ z0 _ (R0.out _ (Below.refl _ _))).mono ?_
    rintro e w1 ⟨b, rfl, hb, hb1⟩
    have HBits := Lib.hid hb
    have HB1 := Lib.hid hb1; clear hb hb1
    go_wp2_with fail
    refine (r8lanes_any _ _ _ z1 _ (R1.out _ HB1.out)).mono ?_
    rintro e w2 ⟨n, rfl, hl, hb⟩
    have HL := Lib.hid hl
    have hn : n ≤ 16 := by have := Ln.lanes_cases hl; omega
    have hn0 : 0 < n := by have := Ln.lanes_cases hl; omega
    have HB2 := Lib.hid (HB1.out.trans (hb.mono HB1.out.size)); clear hl hb
    go_wp2_with fail
    refine (r8vec_any _ _ _ _ _ z0 _ HBits.out HL.out (R0.out _ HB2.out)).mono ?_
    rintro e w3 ⟨ga, ca, xs, rfl, hoa, hnc, hva, hb⟩
    have HA := Lib.hid hoa.rd
    have HVA := Lib.hid hva
    have HLA := Lib.hid hoa.len
    have HNC := Lib.hid hnc
    have HB3 := Lib.hid (HB2.out.trans (hb.mono HB2.out.size)); clear hoa hva hb hnc
    go_wp2_with fail
    refine (r8at_any 20 18 _ _ _ z1 _ (by omega) (by omega) (by omega) (by omega) (R1.out _ HB3.out)).mono ?_
    rintro e w4 ⟨op, rfl, h0, h1, rfl⟩
    have HOP := Lib.hid (show 0 ≤ op ∧ op ≤ 17 by omega)
    have HIS := Lib.hid (show Ln.isOp op = true from decide_eq_true HOP.out)
    clear h0 h1
    go_wp2_with fail
    refine (redC HIS.out HVA.out (by omega) HNC.out HA.out (HE.out _ HB3.out)).mono ?_
    rintro e w5 ⟨rfl, hb⟩
    have HA5 := Lib.hid (HA.out.below hb)
    have HB5 := Lib.hid (HB3.out.trans (hb.mono HB3.out.size)); clear hb HA
    go_wp2_with fail
    refine (scanC HIS.out HVA.out (by omega) HA5.out (HE.out _ HB5.out)).mono ?_
    rintro e w6 ⟨As, ns, cs, rfl, hos, _, hb⟩
    obtain rfl : n = ns := by have := hos.len; rw [Ln.tab_len] at this; exact this
    obtain ⟨gs, os, rfl, _, _⟩ := hos.rd.at_ hn0
    have HA6 := Lib.hid (HA5.out.below hb)
    have HS6 := Lib.hid hos.rd
    have HB6 := Lib.hid (HB5.out.trans (hb.mono HB5.out.size)); clear hb HA5 hos
    go_wp2_with fail
    refine (stepC HIS.out HVA.out (by omega) HA6.out (HE.out _ HB6.out)).mono ?_
    rintro e w7 ⟨At, nt, ct, rfl, hot, _, hb⟩
    obtain rfl : n = nt := by have := hot.len; rw [Ln.st_len, HLA.out] at this; exact this
    have HA7 := Lib.hid (HA6.out.below hb)
    have HS7 := Lib.hid (HS6.out.below hb)
    have HT7 := Lib.hid hot.rd
    have HB7 := Lib.hid (HB6.out.trans (hb.mono HB6.out.size)); clear hb HA6 HS6 hot
    obtain ⟨g', o', e', _, hca⟩ := HA7.out.at_ hn0
    injection e' with e'; injection e' with e1 e2; subst e1; subst e2
    obtain ⟨g', o', e', _, hcs⟩ := HS7.out.at_ hn0
    injection e' with e'; injection e' with e1 e2; subst e1; subst e2
    rw [Ln.tab_getD _ _ _ hn0, show Ln.sc op b xs 0 = xs.getD 0 0 from rfl] at hcs
    rw [Nat.add_zero] at hcs hca
    obtain ⟨x0, hx0⟩ : ∃ z, z = xs.getD 0 0 := ⟨_, rfl⟩
    rw [← hx0] at hca hcs
    obtain ⟨RR, hRR⟩ : ∃ z, z = Ln.red op b (Ln.lg n) xs := ⟨_, rfl⟩
    rw [← hRR]
    have HRR := Lib.hid hRR
    have i0 : (0 : Int) < (n : Int) := by omega
    clear hx0 hRR
    go_wp2
    go_quiet (fail)
    go_wp2
    go_loopw [16] (fun i wr => ∃ k : Nat, k + 1 ≤ n ∧ i = .int .i64 ((k + 1 : Nat) : Int) ∧ Below w7.heap.size w7 wr) (fun i _ => n - (intOf i).toNat)
    case atStart => exact ⟨0, by omega, rfl, by repeat (first | exact Below.refl _ _ | exact below_drewN (Below.refl _ _) _ | refine Below.drew ?_)⟩
    case round =>
      obtain ⟨k, hk, rfl, hbw⟩ := hrel
      have HBW := Lib.hid hbw; clear hbw
      by_cases hlt : k + 1 < n
      · obtain ⟨q, hq⟩ : ∃ q, q = k + 1 := ⟨_, rfl⟩
        have hw0 := Ln.sc_word (b := b) HOP.out.1 HOP.out.2 HVA.out k (by rw [HLA.out]; omega)
        have hw1 := Ln.vec_word HVA.out (k := q) (by rw [HLA.out]; omega)
        rw [← hq] at hlt ⊢
        obtain ⟨g', o', e', _, hc1⟩ := HS7.out.at_ (k := k) (by omega)
        injection e' with e'; injection e' with e1 e2; subst e1; subst e2
        obtain ⟨g', o', e', _, hc2⟩ := HS7.out.at_ (k := q) hlt
        injection e' with e'; injection e' with e1 e2; subst e1; subst e2
        obtain ⟨g', o', e', _, hc3⟩ := HA7.out.at_ (k := q) hlt
        injection e' with e'; injection e' with e1 e2; subst e1; subst e2
        rw [Ln.tab_getD _ _ _ (by omega)] at hc1
        rw [Ln.tab_getD _ _ _ hlt, show Ln.sc op b xs q = Wd.doOp op b (Ln.sc op b xs k) (xs.getD q 0) by rw [hq]; rfl] at hc2
        rw [Nat.zero_add] at hc3
        obtain ⟨y, hy⟩ : ∃ z, z = Ln.sc op b xs k := ⟨_, rfl⟩
        obtain ⟨x, hx⟩ : ∃ z, z = xs.getD q 0 := ⟨_, rfl⟩
        rw [← hy] at hc1 hc2 hw0
        rw [← hx] at hc2 hc3 hw1
        have CK := Lib.hid (fun (W : World) (hb : Below w.heap.size w W) => doOp_yes op b y x W HOP.out.1 HOP.out.2 hw0 hw1 (HE.out W hb))
        obtain ⟨r, hr⟩ : ∃ z, z = Wd.doOp op b y x := ⟨_, rfl⟩
        rw [← hr] at hc2 CK
        have HC2 := Lib.hid hc2
        have hd1 := (HBW.out.cell (p := ⟨gs, os + k, none⟩) (World.block_lt_of_cell? w7 _ hc1)).trans hc1
        have hd3 := (HBW.out.cell (p := ⟨ga, q, none⟩) (World.block_lt_of_cell? w7 _ hc3)).trans hc3
        have HQ := Lib.hid hq
        have HBA := Lib.hid (HB7.out.trans (HBW.out.mono HB7.out.size))
        have i1 : (0 : Int) ≤ (q : Int) := by omega
        have i2 : (q : Int) < (n : Int) := by omega
        have i3 : (q : Int) - 1 = (k : Int) := by omega
        have i4 : (0 : Int) ≤ (k : Int) := by omega
        have i5 : (k : Int) < (n : Int) := by omega
        have s1 : IntKind.i64.wrap (k : Int) = (k : Int) := IntWalk.i64_in _ (by omega)
        clear hx hy hr hw0 hw1 hc1 hc2 hc3 hq hcs hca hk
        go_wp2
        go_region_with (go_at_call 17; (with_reducible refine (CK.out _ ?_).mono ?_); (exact HBA.out.drew); rintro e w8 ⟨rfl, hb8⟩; have HBW8 := Lib.hid (HBW.out.drew.trans (hb8.mono HBW.out.size)); have hc8 := (HBW8.out.cell (p := ⟨gs, os + q, none⟩) (World.block_lt_of_cell? w7 _ HC2.out)).trans HC2.out; clear hb8)
        all_goals go_simp
        all_goals (try go_wp2)
        all_goals
          go_roundw
          case rel => exact ⟨k + 1, by have := HQ.out; omega, by rw [HQ.out]; go_num, HBW8.out⟩
          case measure => simp [intOf]; omega
      · have hkn : k + 1 = n := by omega
        have i1 : ¬ (((k + 1 : Nat) : Int) < (n : Int)) := by omega
        have HBA := Lib.hid (HB7.out.trans (HBW.out.mono HB7.out.size))
        have CA := Lib.hid (fun W => assoc_in op W HOP.out.1 HOP.out.2)
        have CC := Lib.hid (fun W => comm_in op W HOP.out.1 HOP.out.2)
        have HLst := Lib.hid HT7.out.len
        have HV := Lib.hid (vec_st HOP.out.1 HOP.out.2 HVA.out)
        have HT8 := Lib.hid (HT7.out.below HBW.out)
        have HS8 := Lib.hid (HS7.out.below HBW.out)
        cases ha : Wd.assoc op
        · rw [ha] at CA
          clear hcs hca
          go_wp2_with fail
          refine (CA.out _).mono ?_
          rintro e w8 ⟨rfl, rfl⟩
          go_wp2_with fail
          refine (isVec_any b _ n _ _ _ _ (by omega) HT8.out).mono ?_
          rintro e w9 ⟨rfl, hb9⟩
          have HB9 := Lib.hid (HBA.out.trans (hb9.mono HBA.out.size)); clear hb9
          go_wp2_with fail
          go_ret
          have hv := HV.out
          rw [HLA.out] at hv
          exact ⟨by rw [hv]; rfl, HB9.out⟩
        · have hcm := comm_of_assoc ha
          have e1 := Ln.st_scan HOP.out.1 HOP.out.2 ha HVA.out
          have e2 := Ln.red_scan HOP.out.1 HOP.out.2 ha hcm HVA.out
          rw [HLA.out] at e1 e2
          rw [e1] at HT8
          have e3 := HRR.out
          rw [e2] at e3
          obtain ⟨m, hm⟩ : ∃ m, m = n - 1 := ⟨_, rfl⟩
          rw [← hm] at e3
          obtain ⟨g', o', e', _, hc1⟩ := HS7.out.at_ (k := m) (by omega)
          injection e' with e'; injection e' with q1 q2; subst q1; subst q2
          rw [Ln.tab_getD _ _ _ (by omega), ← e3] at hc1
          have HC1 := Lib.hid hc1
          have i2 : (n : Int) - 1 = (m : Int) := by omega
          have i3 : (m : Int) < (n : Int) := by omega
          have i4 : (0 : Int) ≤ (m : Int) := by omega
          have s1 : IntKind.i64.wrap (m : Int) = (m : Int) := IntWalk.i64_in _ (by omega)
          rw [ha] at CA
          rw [hcm] at CC
          clear hcs hca hc1 e1 e2 e3 hm hcm
          go_wp2_with fail
          refine (CA.out _).mono ?_
          rintro e w8 ⟨rfl, rfl⟩
          go_wp2_with fail
          refine (r8same_any _ _ n _ _ _ _ _ _ (by omega) HS8.out HT8.out).mono ?_
          rintro e w9 ⟨rfl, hb9⟩
          have HB9 := Lib.hid (HBA.out.trans (hb9.mono HBA.out.size))
          have HBW9 := Lib.hid (HBW.out.trans (hb9.mono HBW.out.size)); clear hb9
          have hc9 := (HBW9.out.cell (p := ⟨gs, os + m, none⟩) (World.block_lt_of_cell? w7 _ HC1.out)).trans HC1.out
          go_wp2_with fail
          refine (CC.out _).mono ?_
          rintro e w10 ⟨rfl, rfl⟩
          go_wp2_with fail
          go_ret
          exact ⟨rfl, HB9.out⟩
end Go.Proofs.YteggioppoldaaaaGreatDoor.Wds
