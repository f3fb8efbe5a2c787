/-
  The scan of a vector: the code's function and the model's; one contract each.
-/
import Derived.Test.YteggioppoldaaaaGreatDoorScn
namespace Go.Proofs.YteggioppoldaaaaGreatDoor.Wds
open Go.RowKit Go.Proofs.YteggioppoldaaaaGreatDoor.Err
set_option linter.unusedVariables false

set_option maxRecDepth 100000 in
set_option maxHeartbeats 1000000 in
theorem iScan8_yes (op b : Int) (A : Option Addr) (n c : Nat) (xs : List Int) (B : Nat) (w : World) (hop : Ln.isOp op = true) (hb : (b = 4 ∨ b = 8)) (hn : n ≤ 1048576) (r : Rd w B A n xs) (hv : Ln.vec b xs = true) (hg : ErrT w) :
    Calls Tryz.prog 15 #[.int .i64 op, .int .i64 b, .slice A n c] w (Ret1 (Ln.tab (Ln.sc op b xs) n) true w) := by
  have h00 := isOp_bd hop
  have hln := r.len
  have hn0 : 0 < n := by have := Ln.vec_len hv; omega
  have k0 := iopIs_any op w
  rw [hop] at k0
  have k1 : ∀ w1, Below w.heap.size w w1 → Calls Tryz.prog 19 #[.int .i64 b, .slice A n c] w1 (RetB true w1) := fun w1 hbw => by
    have := isVec_any b A n c xs B w1 hn (r.below hbw); rwa [hv] at this
  have k2 := fun W => resultOf8_any op b W hb
  have hsw := Ln.sc_word (op := op) h00.1 h00.2 hv
  have C := Lib.hid (fun (k : Nat) (hk : k + 1 < n) (W : World) (hbW : Below w.heap.size w W) => result8_any op b (Ln.sc op b xs k) (xs.getD (k + 1) 0) W h00.1 h00.2 hb (hsw k (by omega)) (Ln.vec_word hv (by omega)) (hg.below hbW hg.lt))
  obtain ⟨g1, o1, rfl, _, _⟩ := r.at_ hn0
  have C0 := Lib.hid k0
  have C1 := Lib.hid k1
  have C2 := Lib.hid k2
  have R := Lib.hid r
  have HL := Lib.hid hln
  clear k0 k1 k2 r hln hv hg hsw hop h00 hb
  go_enter Tryz.func15, Tryz.ntmps15
  go_wp2_with fail
  refine C0.out.mono ?_
  rintro e w1 ⟨rfl, hb⟩
  have HB1 := Lib.hid hb; clear hb
  go_wp2_with fail
  refine (C1.out _ HB1.out).mono ?_
  rintro e w2 ⟨rfl, hb⟩
  have HB2 := Lib.hid (HB1.out.trans (hb.mono HB1.out.size)); clear hb
  go_wp2_with fail
  refine (C2.out _).mono ?_
  rintro e w3 ⟨rfl, hb⟩
  have HB3 := Lib.hid (HB2.out.trans (hb.mono HB2.out.size)); clear hb
  go_wp2_with fail
  refine (clone_any _ _ _ xs B _ hn (R.out.below HB3.out)).mono ?_
  rintro e w4 ⟨A4, n4, c4, rfl, ho, _, _, hb⟩
  obtain rfl : n = n4 := HL.out.symm.trans ho.len
  obtain ⟨g4, o4, rfl, _, _⟩ := ho.rd.at_ hn0
  have HO4 := Lib.hid (ho.more HB3.out.size (Nat.le_refl _))
  have HB4 := Lib.hid (HB3.out.trans (hb.mono HB3.out.size)); clear ho hb
  go_wp2_with fail
  go_loopw [10] (fun i wr => ∃ k : Nat, k + 1 ≤ n ∧ i = .int .i64 ((k + 1 : Nat) : Int) ∧ Own wr w.heap.size w4.heap.size (some ⟨g4, o4, none⟩) n (Ln.over (Ln.sc op b xs) xs (k + 1)) ∧ w4.heap.size ≤ wr.heap.size ∧ Below w.heap.size w wr) (fun i _ => n - (intOf i).toNat)
  case atStart =>
    refine ⟨0, by omega, rfl, ?_, Nat.le_refl _, HB4.out⟩
    rw [← Ln.over_same (Ln.sc op b xs) xs 0 (by rw [HL.out]; exact hn0) rfl, Ln.over_zero]
    exact HO4.out
  case round =>
    obtain ⟨k, hk, rfl, hown, hsz, hbw⟩ := hrel
    by_cases hlt : k + 1 < n
    · obtain ⟨g', o', e', _, hck⟩ := hown.rd.at_ (k := k) (by omega)
      injection e' with e'; injection e' with e1 e2; subst e1; subst e2
      obtain ⟨g', o', e', _, hcq⟩ := hown.rd.at_ hlt
      injection e' with e'; injection e' with e1 e2; subst e1; subst e2
      rw [Ln.over_at _ _ _ _ (by rw [HL.out]; omega), if_pos (by omega)] at hck
      rw [Ln.over_at _ _ _ _ (by rw [HL.out]; exact hlt), if_neg (by omega)] at hcq
      have CK := Lib.hid (C.out k hlt)
      have HS := Lib.hid (Ln.over_set (Ln.sc op b xs) xs (k + 1) (by rw [HL.out]; exact hlt))
      obtain ⟨x, hx⟩ : ∃ z, z = xs.getD (k + 1) 0 := ⟨_, rfl⟩
      obtain ⟨y, hy⟩ : ∃ z, z = Ln.sc op b xs k := ⟨_, rfl⟩
      obtain ⟨r, hr⟩ : ∃ z, z = Wd.doOp op b (Ln.sc op b xs k) (xs.getD (k + 1) 0) := ⟨_, rfl⟩
      rw [← hr, ← hx, ← hy] at CK
      rw [← hx] at hcq
      rw [← hy] at hck
      have HV := Lib.hid (show r = Ln.sc op b xs (k + 1) from hr)
      have HOW := Lib.hid hown
      have HBW := Lib.hid hbw
      have HSZ := Lib.hid hsz
      obtain ⟨q, hq⟩ : ∃ q, q = k + 1 := ⟨_, rfl⟩
      have HLT := Lib.hid (show q < n by omega)
      rw [← hq] at hcq hlt
      rw [← hq]
      have HQ := Lib.hid hq
      have i1 : (0 : Int) ≤ (q : Int) := by omega
      have i2 : (q : Int) < (n : Int) := by omega
      have i3 : (q : Int) - 1 = (k : Int) := by omega
      have i4 : (k : Int) < (n : Int) := by omega
      have s1 : IntKind.i64.wrap (k : Int) = (k : Int) := IntWalk.i64_in _ (by omega)
      clear hx hy hr hown hbw hsz hq hk
      go_wp2
      go_region_with (first
        | (go_at_call 62; (with_reducible refine (CK.out _ ?_).mono ?_); (exact HBW.out.drew); rintro e w5 ⟨rfl, hb5⟩; have HO5 := Lib.hid (show Own w5 w.heap.size w4.heap.size (some ⟨g4, o4, none⟩) n (Ln.over (Ln.sc op b xs) xs (k + 1)) from Own.below (w := wr.drew) HOW.out hb5); have hfc := frozen_of HO5.out HLT.out rfl; have hf5 := hfc.1; obtain ⟨u5, hc5⟩ := hfc.2.2.2; have HLO := Lib.hid hfc.2.1; have HBW5 := Lib.hid (HBW.out.drew.trans (hb5.mono HBW.out.size)); have HSZ5 := Lib.hid (Nat.le_trans HSZ.out hb5.size); clear hb5 hfc))
      all_goals go_wp2
      all_goals
        go_roundw
        case rel =>
          have hq := HQ.out
          have hst := HO5.out.store HLT.out r
          rw [← hq] at hst
          have hs := HS.out
          rw [← HV.out, ← hq] at hs
          rw [hs] at hst
          exact ⟨k + 1, by omega, by rw [hq]; go_num, by rw [← hq]; repeat (first | exact hst | exact (hst : Own _ _ _ _ _ _)), by simpa [World.setCell] using HSZ5.out, by repeat (first | exact HBW5.out.setCell (p := ⟨g4, o4 + q, none⟩) HLO.out _ | refine Below.drew ?_)⟩
        case measure => simp [intOf]; omega
    · have hkn : k + 1 = n := by omega
      have HF := Lib.hid (And.intro hown (And.intro hsz (And.intro hbw hkn)))
      have i7 : ¬ (((k + 1 : Nat) : Int) < (n : Int)) := by omega
      clear hown hsz hbw hkn
      go_wp2
      go_ret2
      obtain ⟨hown, hsz, hbw, hkn⟩ := HF.out
      rw [hkn] at hown
      have e := Ln.over_all (Ln.sc op b xs) xs
      rw [HL.out] at e
      rw [e] at hown
      exact ⟨_, _, _, rfl, hown.more (Nat.le_refl _) hsz, hn, hbw⟩

set_option maxRecDepth 100000 in
set_option maxHeartbeats 1000000 in
theorem iScan16_yes (op b : Int) (A : Option Addr) (n c : Nat) (xs : List Int) (B : Nat) (w : World) (hop : Ln.isOp op = true) (hb : (16 ≤ b ∧ b ≤ 16)) (hn : n ≤ 1048576) (r : Rd w B A n xs) (hv : Ln.vec b xs = true) (hg : ErrT w) :
    Calls Tryz.prog 15 #[.int .i64 op, .int .i64 b, .slice A n c] w (Ret1 (Ln.tab (Ln.sc op b xs) n) true w) := by
  have h00 := isOp_bd hop
  have hln := r.len
  have hn0 : 0 < n := by have := Ln.vec_len hv; omega
  have k0 := iopIs_any op w
  rw [hop] at k0
  have k1 : ∀ w1, Below w.heap.size w w1 → Calls Tryz.prog 19 #[.int .i64 b, .slice A n c] w1 (RetB true w1) := fun w1 hbw => by
    have := isVec_any b A n c xs B w1 hn (r.below hbw); rwa [hv] at this
  have k2 := fun W => resultOf16_any op b W hb
  have hsw := Ln.sc_word (op := op) h00.1 h00.2 hv
  have C := Lib.hid (fun (k : Nat) (hk : k + 1 < n) (W : World) (hbW : Below w.heap.size w W) => result16_any op b (Ln.sc op b xs k) (xs.getD (k + 1) 0) W h00.1 h00.2 hb (hsw k (by omega)) (Ln.vec_word hv (by omega)) (hg.below hbW hg.lt))
  obtain ⟨g1, o1, rfl, _, _⟩ := r.at_ hn0
  have C0 := Lib.hid k0
  have C1 := Lib.hid k1
  have C2 := Lib.hid k2
  have R := Lib.hid r
  have HL := Lib.hid hln
  clear k0 k1 k2 r hln hv hg hsw hop h00 hb
  go_enter Tryz.func15, Tryz.ntmps15
  go_wp2_with fail
  refine C0.out.mono ?_
  rintro e w1 ⟨rfl, hb⟩
  have HB1 := Lib.hid hb; clear hb
  go_wp2_with fail
  refine (C1.out _ HB1.out).mono ?_
  rintro e w2 ⟨rfl, hb⟩
  have HB2 := Lib.hid (HB1.out.trans (hb.mono HB1.out.size)); clear hb
  go_wp2_with fail
  refine (C2.out _).mono ?_
  rintro e w3 ⟨rfl, hb⟩
  have HB3 := Lib.hid (HB2.out.trans (hb.mono HB2.out.size)); clear hb
  go_wp2_with fail
  refine (clone_any _ _ _ xs B _ hn (R.out.below HB3.out)).mono ?_
  rintro e w4 ⟨A4, n4, c4, rfl, ho, _, _, hb⟩
  obtain rfl : n = n4 := HL.out.symm.trans ho.len
  obtain ⟨g4, o4, rfl, _, _⟩ := ho.rd.at_ hn0
  have HO4 := Lib.hid (ho.more HB3.out.size (Nat.le_refl _))
  have HB4 := Lib.hid (HB3.out.trans (hb.mono HB3.out.size)); clear ho hb
  go_wp2_with fail
  go_loopw [10] (fun i wr => ∃ k : Nat, k + 1 ≤ n ∧ i = .int .i64 ((k + 1 : Nat) : Int) ∧ Own wr w.heap.size w4.heap.size (some ⟨g4, o4, none⟩) n (Ln.over (Ln.sc op b xs) xs (k + 1)) ∧ w4.heap.size ≤ wr.heap.size ∧ Below w.heap.size w wr) (fun i _ => n - (intOf i).toNat)
  case atStart =>
    refine ⟨0, by omega, rfl, ?_, Nat.le_refl _, HB4.out⟩
    rw [← Ln.over_same (Ln.sc op b xs) xs 0 (by rw [HL.out]; exact hn0) rfl, Ln.over_zero]
    exact HO4.out
  case round =>
    obtain ⟨k, hk, rfl, hown, hsz, hbw⟩ := hrel
    by_cases hlt : k + 1 < n
    · obtain ⟨g', o', e', _, hck⟩ := hown.rd.at_ (k := k) (by omega)
      injection e' with e'; injection e' with e1 e2; subst e1; subst e2
      obtain ⟨g', o', e', _, hcq⟩ := hown.rd.at_ hlt
      injection e' with e'; injection e' with e1 e2; subst e1; subst e2
      rw [Ln.over_at _ _ _ _ (by rw [HL.out]; omega), if_pos (by omega)] at hck
      rw [Ln.over_at _ _ _ _ (by rw [HL.out]; exact hlt), if_neg (by omega)] at hcq
      have CK := Lib.hid (C.out k hlt)
      have HS := Lib.hid (Ln.over_set (Ln.sc op b xs) xs (k + 1) (by rw [HL.out]; exact hlt))
      obtain ⟨x, hx⟩ : ∃ z, z = xs.getD (k + 1) 0 := ⟨_, rfl⟩
      obtain ⟨y, hy⟩ : ∃ z, z = Ln.sc op b xs k := ⟨_, rfl⟩
      obtain ⟨r, hr⟩ : ∃ z, z = Wd.doOp op b (Ln.sc op b xs k) (xs.getD (k + 1) 0) := ⟨_, rfl⟩
      rw [← hr, ← hx, ← hy] at CK
      rw [← hx] at hcq
      rw [← hy] at hck
      have HV := Lib.hid (show r = Ln.sc op b xs (k + 1) from hr)
      have HOW := Lib.hid hown
      have HBW := Lib.hid hbw
      have HSZ := Lib.hid hsz
      obtain ⟨q, hq⟩ : ∃ q, q = k + 1 := ⟨_, rfl⟩
      have HLT := Lib.hid (show q < n by omega)
      rw [← hq] at hcq hlt
      rw [← hq]
      have HQ := Lib.hid hq
      have i1 : (0 : Int) ≤ (q : Int) := by omega
      have i2 : (q : Int) < (n : Int) := by omega
      have i3 : (q : Int) - 1 = (k : Int) := by omega
      have i4 : (k : Int) < (n : Int) := by omega
      have s1 : IntKind.i64.wrap (k : Int) = (k : Int) := IntWalk.i64_in _ (by omega)
      clear hx hy hr hown hbw hsz hq hk
      go_wp2
      go_region_with (first
        | (go_at_call 61; (with_reducible refine (CK.out _ ?_).mono ?_); (exact HBW.out.drew); rintro e w5 ⟨rfl, hb5⟩; have HO5 := Lib.hid (show Own w5 w.heap.size w4.heap.size (some ⟨g4, o4, none⟩) n (Ln.over (Ln.sc op b xs) xs (k + 1)) from Own.below (w := wr.drew) HOW.out hb5); have hfc := frozen_of HO5.out HLT.out rfl; have hf5 := hfc.1; obtain ⟨u5, hc5⟩ := hfc.2.2.2; have HLO := Lib.hid hfc.2.1; have HBW5 := Lib.hid (HBW.out.drew.trans (hb5.mono HBW.out.size)); have HSZ5 := Lib.hid (Nat.le_trans HSZ.out hb5.size); clear hb5 hfc))
      all_goals go_wp2
      all_goals
        go_roundw
        case rel =>
          have hq := HQ.out
          have hst := HO5.out.store HLT.out r
          rw [← hq] at hst
          have hs := HS.out
          rw [← HV.out, ← hq] at hs
          rw [hs] at hst
          exact ⟨k + 1, by omega, by rw [hq]; go_num, by rw [← hq]; repeat (first | exact hst | exact (hst : Own _ _ _ _ _ _)), by simpa [World.setCell] using HSZ5.out, by repeat (first | exact HBW5.out.setCell (p := ⟨g4, o4 + q, none⟩) HLO.out _ | refine Below.drew ?_)⟩
        case measure => simp [intOf]; omega
    · have hkn : k + 1 = n := by omega
      have HF := Lib.hid (And.intro hown (And.intro hsz (And.intro hbw hkn)))
      have i7 : ¬ (((k + 1 : Nat) : Int) < (n : Int)) := by omega
      clear hown hsz hbw hkn
      go_wp2
      go_ret2
      obtain ⟨hown, hsz, hbw, hkn⟩ := HF.out
      rw [hkn] at hown
      have e := Ln.over_all (Ln.sc op b xs) xs
      rw [HL.out] at e
      rw [e] at hown
      exact ⟨_, _, _, rfl, hown.more (Nat.le_refl _) hsz, hn, hbw⟩

theorem iScanLanes_any (op b : Int) (A : Option Addr) (n c : Nat) (xs : List Int) (B : Nat) (w : World) (hn : n ≤ 1048576) (r : Rd w B A n xs) (hg : ErrT w) :
    Calls Tryz.prog 15 #[.int .i64 op, .int .i64 b, .slice A n c] w (Ret1 (Ln.scan op b xs).1 (Ln.scan op b xs).2 w) := by
  unfold Ln.scan
  have k0 := iopIs_any op w
  have k1 : ∀ w1, Below w.heap.size w w1 → Calls Tryz.prog 19 #[.int .i64 b, .slice A n c] w1 (RetB (Ln.vec b xs) w1) := fun w1 hbw => isVec_any b A n c xs B w1 hn (r.below hbw)
  by_cases hop : Ln.isOp op = true
  · by_cases hv : Ln.vec b xs = true
    · rw [hop, hv, r.len]
      rcases bits_split (Ln.vec_bits hv) with hb | hb
      · exact iScan8_yes op b A n c xs B w hop hb hn r hv hg
      · exact iScan16_yes op b A n c xs B w hop hb hn r hv hg
    · have hv' : Ln.vec b xs = false := by simpa using hv
      rw [hop, hv']
      rw [hop] at k0
      simp only [hv'] at k1
      have C0 := Lib.hid k0
      have C1 := Lib.hid k1
      clear k0 k1 r hg hop hv hv'
      go_enter Tryz.func15, Tryz.ntmps15
      go_wp2_with fail
      refine C0.out.mono ?_
      rintro e w1 ⟨rfl, hb⟩
      have HB1 := Lib.hid hb; clear hb
      go_wp2_with fail
      refine (C1.out _ HB1.out).mono ?_
      rintro e w2 ⟨rfl, hb⟩
      have HB2 := Lib.hid (HB1.out.trans (hb.mono HB1.out.size)); clear hb
      go_wp2_with fail
      go_ret2
      exact Ret1.no HB2.out
  · have hop' : Ln.isOp op = false := by simpa using hop
    rw [hop']
    rw [hop'] at k0
    have C0 := Lib.hid k0
    clear k0 k1 r hg hop hop'
    go_enter Tryz.func15, Tryz.ntmps15
    go_wp2_with fail
    refine C0.out.mono ?_
    rintro e w1 ⟨rfl, hb⟩
    have HB1 := Lib.hid hb; clear hb
    go_wp2_with fail
    go_ret2
    exact Ret1.no HB1.out
theorem sScanLanes_any (op b : Int) (A : Option Addr) (n c : Nat) (xs : List Int) (B : Nat) (w : World) (hn : n ≤ 1048576) (r : Rd w B A n xs) :
    Calls Tryz.prog 31 #[.int .i64 op, .int .i64 b, .slice A n c] w (Ret1 (Ln.scan op b xs).1 (Ln.scan op b xs).2 w) := by
  have k0 := sopIs_any op w
  have k1 := sIs_any b A n c xs B w hn r
  have k3 : Ln.isOp op = true → Ln.vec b xs = true → ∀ w1, Below w.heap.size w w1 → Calls Tryz.prog 55 #[.int .i64 op, .int .i64 b, .slice A n c] w1 (RetL (Ln.tab (Ln.sc op b xs) n) w1) := by
    intro e0 e1 w1 hb
    have h00 := isOp_bd e0
    have hl := r.len
    have hsw := Ln.sc_word (op := op) h00.1 h00.2 e1
    exact sScanL_any op b A n c xs B w1 h00.1 h00.2 hn (by have := Ln.vec_len e1; omega) (r.below hb) (fun k hk => Ln.vec_word e1 (by omega)) (fun k hk => hsw k (by omega))
  unfold Ln.scan
  rw [r.len]
  generalize Ln.vec b xs = p1 at *
  generalize Ln.isOp op = p0 at *
  have C0 := Lib.hid k0
  have C1 := Lib.hid k1
  have C3 := Lib.hid k3
  clear k0 k1 k3 r
  cases p0
  · go_enter Tryz.func31, Tryz.ntmps31
    go_wp2_with fail
    refine C0.out.mono ?_
    rintro e w1 ⟨rfl, rfl⟩
    go_wp2_with fail
    go_ret2
    exact Ret1.no (Below.refl _ _)
  · cases p1
    · go_enter Tryz.func31, Tryz.ntmps31
      go_wp2_with fail
      refine C0.out.mono ?_
      rintro e w1 ⟨rfl, rfl⟩
      go_wp2_with fail
      refine C1.out.mono ?_
      rintro e w2 ⟨rfl, hb⟩
      have HB := Lib.hid hb; clear hb
      go_wp2_with fail
      go_ret2
      exact Ret1.no HB.out
    · go_enter Tryz.func31, Tryz.ntmps31
      go_wp2_with fail
      refine C0.out.mono ?_
      rintro e w1 ⟨rfl, rfl⟩
      go_wp2_with fail
      refine C1.out.mono ?_
      rintro e w2 ⟨rfl, hb⟩
      have HB2 := Lib.hid hb; clear hb
      go_wp2_with fail
      refine (C3.out (by simp) (by simp) _ HB2.out).mono ?_
      rintro e w3 ⟨A3, n3, c3, rfl, ho, hn3, _, hb⟩
      have HR := Lib.hid (And.intro ho (And.intro hn3 (HB2.out.trans (hb.mono HB2.out.size)))); clear ho hb
      have HS := Lib.hid HB2.out.size
      go_wp2_with fail
      go_ret2
      obtain ⟨ho, hn3, hb⟩ := HR.out
      exact ⟨A3, n3, c3, rfl, ho.more HS.out (Nat.le_refl _), hn3, hb⟩
end Go.Proofs.YteggioppoldaaaaGreatDoor.Wds
