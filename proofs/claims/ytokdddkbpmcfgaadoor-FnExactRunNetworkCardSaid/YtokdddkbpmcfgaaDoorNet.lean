/-
  Networks: the table of the library, how many lists a network has, the code's and the model's test; one contract each.
-/
import Derived.Test.YtokdddkbpmcfgaaDoorTst
import Derived.Test.YtokdddkbpmcfgaaDoorNetM
import Derived.Test.YtokdddkbpmcfgaaDoorRowsW
import Derived.Test.YtokdddkbpmcfgaaDoorShuf
namespace Go.Proofs.YtokdddkbpmcfgaaDoor.Wds
open Go.RowKit
set_option linter.unusedVariables false

def dbTab64 : List Nat := [0, 1, 56, 2, 57, 49, 28, 3, 61, 58, 42, 50, 38, 29, 17, 4, 62, 47, 59, 36, 45, 43, 51, 22, 53, 39, 33, 30, 24, 18, 12, 5, 63, 55, 48, 27, 60, 41, 37, 16, 46, 35, 44, 21, 52, 32, 23, 11, 54, 26, 40, 15, 34, 20, 31, 10, 25, 14, 19, 9, 13, 8, 7, 6]
/-- The library's table lies where it belongs. -/
def TabT64 (w : World) : Prop := ∀ i, i < 64 → w.cell? ⟨0, i, none⟩ = some (.int .u8 ((dbTab64.getD i 0 : Nat) : Int))
theorem TabT64.lt {w : World} (h : TabT64 w) : 0 < w.heap.size := World.block_lt_of_cell? w _ (h 0 (by decide))
theorem TabT64.below {w w' : World} (h : TabT64 w) {B : Nat} (hb : Below B w w') (hB : 0 < B) : TabT64 w' := fun i hi => (hb.cell (p := ⟨0, i, none⟩) hB).trans (h i hi)
theorem TabT64.keep {w w' : World} (h : TabT64 w) (hb : Below w.heap.size w w') : TabT64 w' := h.below hb h.lt
theorem tz64_2 (w : World) (hT : TabT64 w) : Calls Tryd.prog 60 #[.int .u64 2] w fun e w' => e = .returned (.int .i64 1) ∧ w = w' := by
  have hc : w.cell? ⟨0, 1, none⟩ = some (.int .u8 1) := hT 1 (by decide)
  have e : IntKind.u64.wrap (bits BinOp.and IntKind.u64 2 (IntKind.u64.wrap (-2)) * 285870213051353865) / 288230376151711744 = 1 := by kernel_rfl
  clear hT
  go_enter Tryd.func60, Tryd.ntmps60
  go_wp2
  go_ret
  exact ⟨rfl, rfl⟩
theorem tz64_4 (w : World) (hT : TabT64 w) : Calls Tryd.prog 60 #[.int .u64 4] w fun e w' => e = .returned (.int .i64 2) ∧ w = w' := by
  have hc : w.cell? ⟨0, 3, none⟩ = some (.int .u8 2) := hT 3 (by decide)
  have e : IntKind.u64.wrap (bits BinOp.and IntKind.u64 4 (IntKind.u64.wrap (-4)) * 285870213051353865) / 288230376151711744 = 3 := by kernel_rfl
  clear hT
  go_enter Tryd.func60, Tryd.ntmps60
  go_wp2
  go_ret
  exact ⟨rfl, rfl⟩
theorem tz64_8 (w : World) (hT : TabT64 w) : Calls Tryd.prog 60 #[.int .u64 8] w fun e w' => e = .returned (.int .i64 3) ∧ w = w' := by
  have hc : w.cell? ⟨0, 7, none⟩ = some (.int .u8 3) := hT 7 (by decide)
  have e : IntKind.u64.wrap (bits BinOp.and IntKind.u64 8 (IntKind.u64.wrap (-8)) * 285870213051353865) / 288230376151711744 = 7 := by kernel_rfl
  clear hT
  go_enter Tryd.func60, Tryd.ntmps60
  go_wp2
  go_ret
  exact ⟨rfl, rfl⟩
theorem tz64_16 (w : World) (hT : TabT64 w) : Calls Tryd.prog 60 #[.int .u64 16] w fun e w' => e = .returned (.int .i64 4) ∧ w = w' := by
  have hc : w.cell? ⟨0, 15, none⟩ = some (.int .u8 4) := hT 15 (by decide)
  have e : IntKind.u64.wrap (bits BinOp.and IntKind.u64 16 (IntKind.u64.wrap (-16)) * 285870213051353865) / 288230376151711744 = 15 := by kernel_rfl
  clear hT
  go_enter Tryd.func60, Tryd.ntmps60
  go_wp2
  go_ret
  exact ⟨rfl, rfl⟩
theorem lists_any (n : Nat) (w : World) (hl : Ln.lanes (n : Int) = true) (hT : TabT64 w) : Calls Tryd.prog 36 #[.int .i64 n] w fun e w' => e = .returned (.int .i64 ((2 * Ln.pwr n - 1 : Nat) : Int)) ∧ w = w' := by
  have hn := Ln.lanes_cases hl
  have hn2 : n = 2 ∨ n = 4 ∨ n = 8 ∨ n = 16 := by omega
  have HT := Lib.hid hT
  clear hn hl hT
  rcases hn2 with rfl | rfl | rfl | rfl
  · go_enter Tryd.func36, Tryd.ntmps36
    go_wp2_with fail
    refine (tz64_2 _ HT.out).mono ?_
    rintro e w1 ⟨rfl, rfl⟩
    go_wp2
    go_ret
    exact ⟨rfl, rfl⟩
  · go_enter Tryd.func36, Tryd.ntmps36
    go_wp2_with fail
    refine (tz64_4 _ HT.out).mono ?_
    rintro e w1 ⟨rfl, rfl⟩
    go_wp2
    go_ret
    exact ⟨rfl, rfl⟩
  · go_enter Tryd.func36, Tryd.ntmps36
    go_wp2_with fail
    refine (tz64_8 _ HT.out).mono ?_
    rintro e w1 ⟨rfl, rfl⟩
    go_wp2
    go_ret
    exact ⟨rfl, rfl⟩
  · go_enter Tryd.func36, Tryd.ntmps36
    go_wp2_with fail
    refine (tz64_16 _ HT.out).mono ?_
    rintro e w1 ⟨rfl, rfl⟩
    go_wp2
    go_ret
    exact ⟨rfl, rfl⟩
set_option maxHeartbeats 1000000 in
theorem idxNet_any (p : List Int → Bool) (gl : Nat) (A : Option Addr) (n c0 : Nat) (zss : List (List Int)) (B : Nat) (w : World) (hn : Ln.totL zss ≤ 1048576) (h : RdR w B A n zss) (hC : ∀ (W : World) (R : Option Addr) (m c : Nat) (z : List Int), Below w.heap.size w W → m ≤ 1048576 → Rd W B R m z → Calls Tryd.prog 46 #[.slice R m c, .pointer (some ⟨gl, 0, none⟩)] W (RetB (!p z) W)) :
    Calls Tryd.prog 62 #[.slice A n c0, .func (.func 46) #[] #[.pointer (some ⟨gl, 0, none⟩)]] w (BadR p zss w) := by
  have hl := h.len
  have hnn : n ≤ 1048576 := by unfold Ln.totL at hn; omega
  have HT := Lib.hid hn
  have HL := Lib.hid hl
  have HCC := Lib.hid hC
  have H := Lib.hid h; clear h hn hl hC
  go_enter Tryd.func62, Tryd.ntmps62
  go_wp2
  go_loopw [5, 8] (fun _ i wr => ∃ k : Nat, k ≤ n ∧ i = .int .i64 k ∧ Hid (∀ j, j < k → p (zss.getD j []) = true) ∧ Below w.heap.size w wr) (fun _ i _ => n - (intOf i).toNat)
  case atStart => exact ⟨0, Nat.zero_le _, rfl, Lib.hid (fun j hj => absurd hj (Nat.not_lt_zero _)), Below.refl _ _⟩
  case round =>
    rename World => wr
    obtain ⟨k, hk, rfl, HA, hb⟩ := hrel
    by_cases hlt : k < n
    · obtain ⟨g, o, R, m, cm, rfl, hg, hc, _, hr⟩ := (H.out.below hb).at_ hlt
      have hm : m ≤ 1048576 := by
        have h1 := Ln.row_le zss k (by rw [HL.out]; exact hlt)
        have h2 := hr.len
        have h3 := HT.out
        unfold Ln.totL at h3
        omega
      have HLK := Lib.hid (show k < zss.length by rw [HL.out]; exact hlt)
      have C := Lib.hid (HCC.out wr R m cm (zss.getD k []) hb hm hr)
      obtain ⟨v, hv⟩ : ∃ v, v = p (zss.getD k []) := ⟨_, rfl⟩
      rw [← hv] at C
      have HV := Lib.hid hv
      have HB := Lib.hid hb; clear hb hr hv
      have i1 : (0 : Int) ≤ (k : Int) := by omega
      have i2 : (k : Int) < (n : Int) := by omega
      cases v
      · go_wp2_with fail
        refine C.out.mono ?_
        rintro e w1 ⟨rfl, hb1⟩
        have HB1 := Lib.hid (HB.out.trans (hb1.mono HB.out.size)); clear hb1
        go_wp2
        go_ret
        exact ⟨.inr ⟨k, HLK.out, rfl, HV.out.symm⟩, HB1.out⟩
      · go_wp2_with fail
        refine C.out.mono ?_
        rintro e w1 ⟨rfl, hb1⟩
        have HB1 := Lib.hid (HB.out.trans (hb1.mono HB.out.size)); clear hb1
        go_wp2
        go_roundw
        case rel =>
          refine ⟨k + 1, by omega, by go_num, Lib.hid (fun j hj => ?_), HB1.out⟩
          rcases Nat.lt_or_ge j k with h | h
          · exact HA.out j h
          · obtain rfl : j = k := by omega
            exact HV.out.symm
        case measure => simp [intOf]; omega
    · have hkn : k = n := by omega
      have HB := Lib.hid hb; clear hb
      subst hkn
      go_wp2
      go_ret
      exact ⟨.inl ⟨rfl, fun j hj => HA.out j (by rw [HL.out] at hj; exact hj)⟩, HB.out⟩
theorem contNet_any (p : List Int → Bool) (gl : Nat) (A : Option Addr) (n c0 : Nat) (zss : List (List Int)) (B : Nat) (w : World) (hn : Ln.totL zss ≤ 1048576) (h : RdR w B A n zss) (hC : ∀ (W : World) (R : Option Addr) (m c : Nat) (z : List Int), Below w.heap.size w W → m ≤ 1048576 → Rd W B R m z → Calls Tryd.prog 46 #[.slice R m c, .pointer (some ⟨gl, 0, none⟩)] W (RetB (!p z) W)) :
    Calls Tryd.prog 45 #[.slice A n c0, .func (.func 46) #[] #[.pointer (some ⟨gl, 0, none⟩)]] w (RetB (!zss.all p) w) := by
  have CC := Lib.hid (idxNet_any p gl A n c0 zss B w hn h hC)
  obtain ⟨r, hr⟩ : ∃ z, z = zss.all p := ⟨_, rfl⟩
  rw [← hr]
  have HR := Lib.hid hr
  clear h hr hC hn
  go_enter Tryd.func45, Tryd.ntmps45
  go_wp2_with fail
  refine CC.out.mono ?_
  rintro e w1 ⟨(⟨rfl, ha⟩ | ⟨k, hk, rfl, hf⟩), hb1⟩
  · obtain rfl : r = true := by rw [HR.out]; exact allR_of ha
    have HB1 := Lib.hid hb1; clear hb1 ha
    go_wp2
    go_ret
    exact ⟨rfl, HB1.out⟩
  · obtain rfl : r = false := by rw [HR.out]; exact allR_not hk hf
    have HB1 := Lib.hid hb1; clear hb1 hf
    have k0 : (0 : Int) ≤ (k : Int) := by omega
    go_wp2
    go_ret
    exact ⟨ret_bool (by simp; try omega), HB1.out⟩
theorem netC_any (gl : Nat) (n : Nat) (R : Option Addr) (m c : Nat) (z : List Int) (B : Nat) (w : World) (hn : n ≤ 16) (hm : m ≤ 1048576) (h : Rd w B R m z) (hc : w.cell? ⟨gl, 0, none⟩ = some (.int .i64 n)) :
    Calls Tryd.prog 46 #[.slice R m c, .pointer (some ⟨gl, 0, none⟩)] w (RetB (!Ln.swOk n z) w) := by
  have k1 := areI_any 2 R m c z B w (by omega) hm h
  unfold Ln.swOk
  rw [h.len]
  obtain ⟨v, hv⟩ : ∃ v, v = Ln.idxs 2 z := ⟨_, rfl⟩
  rw [← hv] at k1 ⊢
  have C1 := Lib.hid k1
  have q0 : (0 : Int) ≤ (n : Int) := by omega
  have q1 : (n : Int) / 2 = ((n / 2 : Nat) : Int) := by omega
  obtain ⟨q, hq⟩ : ∃ q, q = n / 2 := ⟨_, rfl⟩
  rw [← hq] at q1 ⊢
  clear k1 hv h hq
  by_cases he : m = q
  · subst he
    have e0 : (m == m) = true := by simp
    have e1 : ((m : Int) == (m : Int)) = true := by simp
    have e2 : ((m : Int) != (m : Int)) = false := by simp
    rw [e0, Bool.true_and]
    clear e0
    cases v
    all_goals
      go_enter Tryd.func46, Tryd.ntmps46
      go_wp2_with fail
      refine C1.out.mono ?_
      rintro e w1 ⟨rfl, hb⟩
      have HB := Lib.hid hb; clear hb
      go_wp2_with fail
      go_ret
      exact ⟨ret_bool (by simp), HB.out⟩
  · have e0 : (m == q) = false := by simpa using he
    rw [e0, Bool.false_and]
    have e1 : ((m : Int) == (q : Int)) = false := by simp; omega
    have e2 : ((m : Int) != (q : Int)) = true := by simp; omega
    clear e0
    go_enter Tryd.func46, Tryd.ntmps46
    go_wp2_with fail
    go_ret
    exact ⟨ret_bool (by simp), Below.refl _ _⟩
set_option maxHeartbeats 400000 in
theorem iIsNetwork_any (n : Int) (A : Option Addr) (nn c0 : Nat) (sw : List (List Int)) (B : Nat) (w : World) (hn : Ln.totL sw ≤ 1048576) (h : RdR w B A nn sw) (hT : TabT64 w) :
    Calls Tryd.prog 15 #[.int .i64 n, .slice A nn c0] w (RetB (Ln.netOk n sw) w) := by
  have hl := h.len
  have hb1 : Below w.heap.size w (w.alloc (.cells #[.int .i64 n] 2)) := (Below.refl _ _).alloc (Nat.le_refl _) _
  have c1 : (w.alloc (.cells #[.int .i64 n] 2)).cell? ⟨w.heap.size, 0, none⟩ = some (.int .i64 n) := (Blk.new w #[.int .i64 n]).cell 0
  have kl := isLanes_any n (w.alloc (.cells #[.int .i64 n] 2))
  have hmf : ∀ (fn : Fn) (first cap : Array Value) (w : World), (Instr.makeFunc fn first cap).run Tryd.prog w = .ok (.func fn first cap) w := fun _ _ _ _ => rfl
  unfold Ln.netOk
  obtain ⟨u, hu⟩ : ∃ u, u = Ln.lanes n := ⟨_, rfl⟩
  rw [← hu] at kl ⊢
  have CL := Lib.hid kl
  have HB1 := Lib.hid hb1
  cases u
  · rw [Bool.false_and]
    clear kl hu hb1 hn h hl hT
    go_enter Tryd.func15, Tryd.ntmps15
    go_wp2_with fail
    refine CL.out.mono ?_
    rintro e w1 ⟨rfl, rfl⟩
    go_wp2_with fail
    go_ret
    exact ⟨rfl, HB1.out⟩
  · rw [Bool.true_and]
    have hnc := Ln.lanes_cases hu.symm
    obtain ⟨m, hm, rfl⟩ : ∃ m : Nat, m ≤ 16 ∧ n = (m : Int) := ⟨n.toNat, by omega, by omega⟩
    rw [Int.toNat_natCast, hl]
    have ks := lists_any m _ hu.symm (hT.below hb1 hT.lt)
    have kc := contNet_any (Ln.swOk m) w.heap.size A nn c0 sw B _ hn (h.below hb1) (fun W R m' c z hbb hm' hr => netC_any w.heap.size m R m' c z B W hm hm' hr ((hbb.cell (p := ⟨w.heap.size, 0, none⟩) (World.block_lt_of_cell? _ _ c1)).trans c1))
    have CS := Lib.hid ks
    have CC := Lib.hid kc
    obtain ⟨q, hq⟩ : ∃ q, q = 2 * Ln.pwr m - 1 := ⟨_, rfl⟩
    rw [← hq] at CS ⊢
    generalize sw.all (Ln.swOk m) = r at CC ⊢
    clear kl hu hb1 hn h hl hT ks kc hnc hq
    by_cases he : nn = q
    · subst he
      have e0 : (nn == nn) = true := by simp
      have e1 : ((nn : Int) == (nn : Int)) = true := by simp
      have e2 : ((nn : Int) != (nn : Int)) = false := by simp
      rw [e0, Bool.true_and]
      clear e0
      go_enter Tryd.func15, Tryd.ntmps15
      go_wp2_with fail
      refine CL.out.mono ?_
      rintro e w1 ⟨rfl, rfl⟩
      go_wp2_with fail
      refine CS.out.mono ?_
      rintro e w1 ⟨rfl, rfl⟩
      go_wp2_with fail
      refine CC.out.mono ?_
      rintro e w2 ⟨rfl, hb⟩
      have HB2 := Lib.hid (HB1.out.trans (hb.mono HB1.out.size)); clear hb
      go_wp2_with fail
      go_ret
      exact ⟨ret_bool (by simp), HB2.out⟩
    · have e0 : (nn == q) = false := by simpa using he
      rw [e0, Bool.false_and]
      have e1 : ((nn : Int) == (q : Int)) = false := by simp; omega
      have e2 : ((nn : Int) != (q : Int)) = true := by simp; omega
      clear e0
      go_enter Tryd.func15, Tryd.ntmps15
      go_wp2_with fail
      refine CL.out.mono ?_
      rintro e w1 ⟨rfl, rfl⟩
      go_wp2_with fail
      refine CS.out.mono ?_
      rintro e w1 ⟨rfl, rfl⟩
      go_wp2_with fail
      go_ret
      exact ⟨rfl, HB1.out⟩
set_option maxHeartbeats 400000 in
theorem sPower_any (n : Nat) (w : World) (hl : Ln.lanes (n : Int) = true) : Calls Tryd.prog 69 #[.int .i64 n] w fun e w' => e = .returned (.int .i64 (Ln.pwr n : Int)) ∧ w = w' := by
  obtain ⟨h1, h2, h3⟩ := Ln.fars_of hl
  have hm := h1.1
  obtain ⟨m, hmm⟩ : ∃ m, m = Ln.pwr n := ⟨_, rfl⟩
  rw [← hmm] at h2 hm h3 ⊢
  have H2 := Lib.hid h2
  clear h1 hmm h2 hl
  go_enter Tryd.func69, Tryd.ntmps69
  go_wp2
  go_loop [3] (fun i => ∃ k : Nat, k ≤ m ∧ i = .int .i64 k) (fun i => m - (intOf i).toNat)
  case atStart => exact ⟨0, Nat.zero_le _, rfl⟩
  case round =>
    obtain ⟨k, hk, rfl⟩ := hrel
    have hpk : (2 : Int) ^ k = ((2 ^ k : Nat) : Int) := by norm_cast
    obtain ⟨P, hP⟩ : ∃ P, P = 2 ^ k := ⟨_, rfl⟩
    rw [← hP] at hpk
    have hle : P ≤ 16 := by rw [hP]; exact Nat.le_trans (Nat.pow_le_pow_right (by decide) (show k ≤ 4 by omega)) (by decide)
    have hk4 : (k : Int) ≤ 4 := by omega
    have hk0 : (0 : Int) ≤ (k : Int) := by omega
    have hP16 : (P : Int) ≤ 16 := by omega
    have hP0 : (0 : Int) ≤ (P : Int) := by omega
    by_cases hlt : k < m
    · have hPn : P < n := by rw [hP, H2.out]; exact Nat.pow_lt_pow_right (by decide) hlt
      have e1 : (P : Int) < (n : Int) := by omega
      clear hP
      go_wp2
      go_round
      case rel => exact ⟨k + 1, by omega, by go_num⟩
      case measure => simp [intOf]; omega
    · have hkm : k = m := by omega
      have hPn : P = n := by rw [hP, hkm]; exact H2.out.symm
      subst hPn
      have HK := Lib.hid hkm
      clear hP hkm
      go_wp2
      go_ret
      exact ⟨ret_i (by rw [HK.out]), rfl⟩
set_option maxHeartbeats 1000000 in
theorem sNetwork_any (n : Int) (A : Option Addr) (nn c0 : Nat) (sw : List (List Int)) (B : Nat) (w : World) (hn : Ln.totL sw ≤ 1048576) (h : RdR w B A nn sw) :
    Calls Tryd.prog 52 #[.int .i64 n, .slice A nn c0] w (RetB (Ln.netOk n sw) w) := by
  have hl := h.len
  have hnn : nn ≤ 1048576 := by unfold Ln.totL at hn; omega
  have kl := sLanes_any n w
  obtain ⟨r, hr⟩ : ∃ r, r = Ln.netOk n sw := ⟨_, rfl⟩
  rw [← hr]
  unfold Ln.netOk at hr
  obtain ⟨u, hu⟩ : ∃ u, u = Ln.lanes n := ⟨_, rfl⟩
  rw [← hu] at kl hr
  have CL := Lib.hid kl
  cases u
  · rw [Bool.false_and] at hr
    subst hr
    clear kl hu hn h hl
    go_enter Tryd.func52, Tryd.ntmps52
    go_wp2_with fail
    refine CL.out.mono ?_
    rintro e w1 ⟨rfl, rfl⟩
    go_wp2_with fail
    go_ret
    exact ⟨rfl, Below.refl _ _⟩
  · rw [Bool.true_and] at hr
    have hnc := Ln.lanes_cases hu.symm
    obtain ⟨m, hm, rfl⟩ : ∃ m : Nat, m ≤ 16 ∧ n = (m : Int) := ⟨n.toNat, by omega, by omega⟩
    rw [Int.toNat_natCast, hl] at hr
    have CP := Lib.hid (fun W => sPower_any m W hu.symm)
    obtain ⟨_, hp2, hp3⟩ := Ln.fars_of hu.symm
    have hp4 := (Ln.fars_of hu.symm).1.1
    obtain ⟨q, hq⟩ : ∃ q, q = Ln.pwr m := ⟨_, rfl⟩
    rw [← hq] at CP hr hp3 hp4
    obtain ⟨q1, hq1⟩ : ∃ q1, q1 = 2 * q - 1 := ⟨_, rfl⟩
    rw [← hq1] at hr
    have e3 : 2 * (q : Int) - 1 = (q1 : Int) := by omega
    have e4 : (0 : Int) ≤ 2 * (q : Int) := by omega
    have e5 : (1 : Int) ≤ 2 * (q : Int) := by omega
    have e6 : (q : Int) ≤ 4 := by omega
    have HT := Lib.hid hn
    have HL := Lib.hid hl
    have HR := Lib.hid hr
    have H := Lib.hid h
    clear kl hu hn h hl hnc hr hq hq1 hp2 hp3 hp4
    by_cases he : nn = q1
    · subst he
      have e1 : ((nn : Int) == (nn : Int)) = true := by simp
      have e2 : ((nn : Int) != (nn : Int)) = false := by simp
      have HR2 := Lib.hid (show r = sw.all (Ln.swOk m) by rw [HR.out]; simp)
      have m0 : (0 : Int) ≤ (m : Int) := by omega
      have m1 : (m : Int) / 2 = ((m / 2 : Nat) : Int) := by omega
      obtain ⟨hf, hhf⟩ : ∃ q, q = m / 2 := ⟨_, rfl⟩
      rw [← hhf] at m1
      have HHF := Lib.hid hhf
      clear hhf
      go_enter Tryd.func52, Tryd.ntmps52
      go_wp2_with fail
      refine CL.out.mono ?_
      rintro e w1 ⟨rfl, rfl⟩
      go_wp2_with fail
      refine (CP.out _).mono ?_
      rintro e w1 ⟨rfl, rfl⟩
      go_wp2_with fail
      go_loopw [5] (fun i wr => ∃ k : Nat, k ≤ nn ∧ i = .int .i64 k ∧ Hid (∀ j, j < k → Ln.swOk m (sw.getD j []) = true) ∧ Below w.heap.size w wr) (fun i _ => nn - (intOf i).toNat)
      case atStart => exact ⟨0, Nat.zero_le _, rfl, Lib.hid (fun j hj => absurd hj (Nat.not_lt_zero _)), Below.refl _ _⟩
      case round =>
        rename World => wr
        obtain ⟨k, hk, rfl, HA, hb⟩ := hrel
        by_cases hlt : k < nn
        · obtain ⟨g, o, R, m', cm, rfl, hg, hc, _, hrd⟩ := (H.out.below hb).at_ hlt
          have hm' : m' ≤ 1048576 := by
            have h1 := Ln.row_le sw k (by rw [HL.out]; exact hlt)
            have h2 := hrd.len
            have h3 := HT.out
            unfold Ln.totL at h3
            omega
          have k2 := sBitsL_any R m' cm _ B wr hm' hrd
          rw [Ln.bits_idxs] at k2
          have HM := Lib.hid hrd.len
          obtain ⟨v, hv⟩ : ∃ v, v = Ln.idxs 2 (sw.getD k []) := ⟨_, rfl⟩
          rw [← hv] at k2
          have C2 := Lib.hid k2
          have HV := Lib.hid hv
          have HB := Lib.hid hb
          have HLK := Lib.hid (show k < sw.length by rw [HL.out]; exact hlt)
          have i1 : (0 : Int) ≤ (k : Int) := by omega
          have i2 : (k : Int) < (nn : Int) := by omega
          clear hb hrd k2 hv
          by_cases hel : m' = hf
          · subst hel
            have f1 : ((m' : Int) == (m' : Int)) = true := by simp
            have f2 : ((m' : Int) != (m' : Int)) = false := by simp
            cases v
            · obtain rfl : r = false := by
                rw [HR2.out]; exact allR_not HLK.out (by rw [Ln.swOk, ← HV.out, Bool.and_false])
              go_wp2_with fail
              refine C2.out.mono ?_
              rintro e w2 ⟨rfl, hb2⟩
              have HB2 := Lib.hid (HB.out.trans (hb2.mono HB.out.size)); clear hb2
              go_wp2_with fail
              go_ret
              exact ⟨rfl, HB2.out⟩
            · have HOK := Lib.hid (show Ln.swOk m (sw.getD k []) = true by rw [Ln.swOk, ← HV.out, HM.out, HHF.out]; simp)
              go_wp2_with fail
              refine C2.out.mono ?_
              rintro e w2 ⟨rfl, hb2⟩
              have HB2 := Lib.hid (HB.out.trans (hb2.mono HB.out.size)); clear hb2
              go_wp2
              go_roundw
              case rel =>
                refine ⟨k + 1, by omega, by go_num, Lib.hid (fun j hj => ?_), HB2.out⟩
                rcases Nat.lt_or_ge j k with h | h
                · exact HA.out j h
                · obtain rfl : j = k := by omega
                  exact HOK.out
              case measure => simp [intOf]; omega
          · have f1 : ((m' : Int) == (hf : Int)) = false := by simp; omega
            have f2 : ((m' : Int) != (hf : Int)) = true := by simp; omega
            obtain rfl : r = false := by
              rw [HR2.out]; exact allR_not HLK.out (by rw [Ln.swOk, HM.out, ← HHF.out, show (m' == hf) = false by simpa using hel]; rfl)
            go_wp2_with fail
            go_ret
            exact ⟨rfl, HB.out⟩
        · have hkn : k = nn := by omega
          subst hkn
          obtain rfl : r = true := by
            rw [HR2.out]
            exact allR_of (fun j hj => HA.out j (by rw [HL.out] at hj; exact hj))
          have HB := Lib.hid hb; clear hb
          go_wp2
          go_ret
          exact ⟨rfl, HB.out⟩
    · have e1 : ((nn : Int) == (q1 : Int)) = false := by simp; omega
      have e2 : ((nn : Int) != (q1 : Int)) = true := by simp; omega
      obtain rfl : r = false := by
        rw [HR.out, show (nn == q1) = false by simpa using he]; rfl
      go_enter Tryd.func52, Tryd.ntmps52
      go_wp2_with fail
      refine CL.out.mono ?_
      rintro e w1 ⟨rfl, rfl⟩
      go_wp2_with fail
      refine (CP.out _).mono ?_
      rintro e w1 ⟨rfl, rfl⟩
      go_wp2_with fail
      go_ret
      exact ⟨rfl, Below.refl _ _⟩
theorem sIsNetwork_any (n : Int) (A : Option Addr) (nn c0 : Nat) (sw : List (List Int)) (B : Nat) (w : World) (hn : Ln.totL sw ≤ 1048576) (h : RdR w B A nn sw) :
    Calls Tryd.prog 21 #[.int .i64 n, .slice A nn c0] w (RetB (Ln.netOk n sw) w) := by
  have C := Lib.hid (sNetwork_any n A nn c0 sw B w hn h); clear h hn
  go_enter Tryd.func21, Tryd.ntmps21
  go_wp2_with (go_at_call 52; refine C.out.mono ?_; rintro e w' ⟨rfl, hb⟩)
  go_ret
  exact ⟨rfl, hb⟩
end Go.Proofs.YtokdddkbpmcfgaaDoor.Wds
