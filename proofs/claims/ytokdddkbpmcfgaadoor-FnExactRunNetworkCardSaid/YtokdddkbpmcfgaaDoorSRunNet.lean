/-
  What a network makes of a vector: the model's function.
-/
import Derived.Test.YtokdddkbpmcfgaaDoorRunNet
namespace Go.Proofs.YtokdddkbpmcfgaaDoor.Wds
open Go.RowKit
set_option linter.unusedVariables false
set_option maxHeartbeats 4000000 in
set_option maxRecDepth 100000 in
theorem sRun_any (A0 : Option Addr) (n0 c0 : Nat) (sw : List (List Int)) (B0 : Nat) (A : Option Addr) (n c : Nat) (vs : List Int) (B : Nat) (w : World)
    (hn0 : Ln.totL sw ≤ 1048576) (hn : n ≤ 1048576) (h0 : RdR w B0 A0 n0 sw) (h : Rd w B A n vs) (hok : Ln.netOk (n : Int) sw = true) :
    Calls Tryd.prog 54 #[.slice A0 n0 c0, .slice A n c] w (RetL (Ln.runK n (Ln.pwr n) sw vs sw.length) w) := by
  have hl := h.len
  obtain ⟨hl1, hs1, hs2⟩ := Ln.netOk_at hok
  rw [Int.toNat_natCast] at hs1 hs2
  have hln := Ln.lanes_cases hl1
  have hn1 : 2 ≤ n := by omega
  have hn2 : n ≤ 16 := by omega
  obtain ⟨hF, hp2, hp1⟩ := Ln.fars_of hl1
  have CP := Lib.hid (sPower_any n w hl1)
  obtain ⟨m, hm⟩ : ∃ m, m = Ln.pwr n := ⟨_, rfl⟩
  rw [← hm] at hF hp1 hp2 hs1 CP ⊢
  have hm4 := hF.1
  rw [h0.len] at hs1 hs2 ⊢
  obtain ⟨ga, oa, rfl, _, _⟩ := h.at_ (k := 0) (by omega)
  have HF := Lib.hid hF
  have HS2 := Lib.hid hs2
  have HL := Lib.hid hl
  have H := Lib.hid h
  have H0 := Lib.hid h0
  obtain ⟨m1, hm1⟩ : ∃ m1, m1 = m - 1 := ⟨_, rfl⟩
  have q1 : (m : Int) - 1 = (m1 : Int) := by omega
  obtain ⟨P, hP⟩ : ∃ P, P = 2 ^ m1 := ⟨_, rfl⟩
  have q3 : (2 : Int) ^ m1 = (P : Int) := by rw [hP]; norm_cast
  have hP8 : P ≤ 8 := by rw [hP]; exact Nat.le_trans (Nat.pow_le_pow_right (by decide) (show m1 ≤ 3 by omega)) (by decide)
  have HM1 := Lib.hid hm1
  have HN0 := Lib.hid hs1
  have hn07 : n0 ≤ 7 := by omega
  have mm0 : (1 : Int) ≤ (m : Int) := by omega
  have mm1 : (m : Int) ≤ 4 := by omega
  have m10 : (0 : Int) ≤ (m1 : Int) := by omega
  have m11 : (m1 : Int) ≤ 3 := by omega
  have P0 : (0 : Int) ≤ (P : Int) := by omega
  have P8 : (P : Int) ≤ 8 := by omega
  have HHN := Lib.hid hn0
  clear h h0 hl hl1 hs1 hs2 hln hF hp2 hm hm1 hP hok hn0
  go_enter Tryd.func54, Tryd.ntmps54
  go_wp2_with fail
  refine CP.out.mono ?_
  rintro e w1 ⟨rfl, rfl⟩
  go_wp2_with fail
  refine (sOwn_any _ n c _ B w hn H.out).mono ?_
  rintro e w3 ⟨A3, n3, c3, rfl, ho, hn3, hc3, hb⟩
  have hn33 : n = n3 := by rw [← ho.len]; exact HL.out.symm
  subst hn33
  obtain ⟨gv, ov, rfl, _, _⟩ := ho.rd.at_ (k := 0) (by omega)
  have HV := Lib.hid (show VecAt (Ln.runK n m sw vs 0) n gv ov w.heap.size w3.heap.size w3 w3 from ⟨ho, Ch.refl _ _ _⟩)
  have HB3 := Lib.hid hb
  have HSZ := Lib.hid hb.size
  clear ho hb
  go_wp2_with fail
  go_loopw [7] (fun iv wr => ∃ s : Nat, s ≤ n0 ∧ iv = .int .i64 s ∧ VecAt (Ln.runK n m sw vs s) n gv ov w.heap.size w3.heap.size w3 wr) (fun iv _ => n0 - (intOf iv).toNat)
  case atStart => exact ⟨0, Nat.zero_le _, rfl, HV.out⟩
  case round =>
    rename World => wo
    obtain ⟨s, hs, rfl, hvv⟩ := hrel
    by_cases hlt : s < n0
    · obtain ⟨g, o, R, ml, cm, rfl, hg, hc0, _, hr⟩ := H0.out.at_ hlt
      have hml : ml = n / 2 := hr.len.symm.trans (HS2.out s hlt).1
      obtain ⟨hD, hfn, hf8, hlow⟩ := HF.out.2.2 s (by rw [← HN0.out]; exact hlt)
      obtain ⟨F, hFF⟩ : ∃ F, F = Ln.farN m s := ⟨_, rfl⟩
      rw [← hFF] at hD hfn hf8 hlow
      have hcase : (∃ e : Nat, (s : Int) < (m : Int) ∧ (m1 : Int) - (s : Int) = (e : Int) ∧ e ≤ 3 ∧ (2 : Int) ^ e = (F : Int)) ∨ (∃ e : Nat, ¬ ((s : Int) < (m : Int)) ∧ (s : Int) - (m : Int) = (e : Int) ∧ e ≤ 3 ∧ (2 : Int) ^ (e + 1) = (F : Int)) := by
        have h1 := HM1.out
        have h2 := HN0.out
        rcases Nat.lt_or_ge s m with hh | hh
        · refine .inl ⟨m1 - s, by omega, by omega, by omega, ?_⟩
          rw [hFF, Ln.farN, show max (m - 1 - s) (s - (m - 1)) = m1 - s by omega]; norm_cast
        · refine .inr ⟨s - m, by omega, by omega, by omega, ?_⟩
          rw [hFF, Ln.farN, show max (m - 1 - s) (s - (m - 1)) = s - m + 1 by omega]; norm_cast
      have HDD := Lib.hid hD
      have HLW := Lib.hid hlow
      have HR := Lib.hid hr
      have HML := Lib.hid hml
      have HVV := Lib.hid hvv
      have HFF := Lib.hid hFF
      have HC0 := Lib.hid hc0
      have s0 : (0 : Int) ≤ (s : Int) := by omega
      have s1 : (s : Int) < (n0 : Int) := by omega
      have s2 : (s : Int) ≤ 7 := by omega
      have F8 : (F : Int) ≤ 8 := by omega
      have F0 : (0 : Int) ≤ (F : Int) := by omega
      have HV4 := Lib.hid (show VecAt (Ln.swK n F (sw.getD s []) (Ln.runK n m sw vs s) (Ln.low 0 F).length) n gv ov w.heap.size w3.heap.size w3 wo from HVV.out)
      clear hD hlow hr hvv hFF hc0 hml
      rcases hcase with ⟨e, hc1, hc2, he3, hc3'⟩ | ⟨e, hc1, hc2, he3, hc3'⟩
      all_goals
        have e0 : (0 : Int) ≤ (e : Int) := by omega
        have e3 : (e : Int) ≤ 3 := by omega
        go_wp2_with fail
        go_loopw [9, 10] (fun av iv wr => ∃ i : Nat, i ≤ n ∧ iv = .int .i64 i ∧ av = .int .i64 ((Ln.low i F).length : Int) ∧ VecAt (Ln.swK n F (sw.getD s []) (Ln.runK n m sw vs s) (Ln.low i F).length) n gv ov w.heap.size w3.heap.size w3 wr) (fun _ iv _ => n - (intOf iv).toNat)
        case atStart => exact ⟨0, Nat.zero_le _, rfl, rfl, HV4.out⟩
        case round =>
          rename World => wi
          obtain ⟨i, hi, rfl, rfl, hvi⟩ := hrel
          have i0 : (0 : Int) ≤ (i : Int) := by omega
          by_cases hli : i < n
          · have i1 : (i : Int) < (n : Int) := by omega
            have ha := and64 i F (by omega) (by omega)
            have hsu := Ln.low_succ i F
            obtain ⟨q, hq⟩ : ∃ q, q = i &&& F := ⟨_, rfl⟩
            rw [← hq] at ha hsu
            by_cases hq0 : q = 0
            · subst hq0
              rw [if_pos rfl] at hsu
              have t4 := (HDD.out.2.1 i hli hq.symm).1
              have hf0 := HDD.out.1
              obtain ⟨hpx, hpl⟩ := Ln.low_prefix n F i hli hq.symm
              have hsl : (Ln.low (i + 1) F).length = (Ln.low i F).length + 1 := by rw [hsu]; simp
              obtain ⟨k, hk⟩ : ∃ k, k = (Ln.low i F).length := ⟨_, rfl⟩
              rw [← hk] at hpx hpl hsl hvi ⊢
              have HSL := Lib.hid hsl
              have hbi : Below w.heap.size w wi := HB3.out.trans (hvi.2.below (Nat.le_refl _) HSZ.out)
              have hc := (hbi.cell (p := ⟨g, o + s, none⟩) (World.block_lt_of_cell? w _ HC0.out)).trans HC0.out
              obtain ⟨gr, or', rfl, _, hcr⟩ := (HR.out.below hbi).at_ (k := k) (by rw [HML.out, ← HLW.out]; exact hpl)
              have lr : (k : Int) < (ml : Int) := by have := HML.out; have := HLW.out; omega
              have k0 : (0 : Int) ≤ (k : Int) := by omega
              have k16 : (k : Int) ≤ 16 := by have := HLW.out; omega
              obtain ⟨x, hx⟩ : ∃ x, x = (sw.getD s []).getD k 0 := ⟨_, rfl⟩
              rw [← hx] at hcr
              by_cases hx1 : x = 1
              · subst hx1
                have e2 : Ln.swK n F (sw.getD s []) (Ln.runK n m sw vs s) (k + 1) = Ln.swap (Ln.swK n F (sw.getD s []) (Ln.runK n m sw vs s) k) i (i + F) := by
                  show (if (sw.getD s []).getD k 0 = 1 then _ else _) = _
                  rw [if_pos hx.symm, hpx, Int.toNat_natCast]
                generalize Ln.swK n F (sw.getD s []) (Ln.runK n m sw vs s) k = vv at hvi e2
                obtain ⟨f1, b1, b2, v0, hv0⟩ := frozen_of hvi.1 (k := i) hli rfl
                obtain ⟨f2, _, _, v0', hv0'⟩ := frozen_of hvi.1 (k := i + F) t4 rfl
                obtain ⟨_, _, ea, _, c1⟩ := hvi.1.rd.at_ (k := i) hli
                injection ea with ea
                injection ea with ea1 ea2
                subst ea1; subst ea2
                obtain ⟨_, _, ea, _, c2⟩ := hvi.1.rd.at_ (k := i + F) t4
                injection ea with ea
                injection ea with ea1 ea2
                subst ea1; subst ea2
                have HSW := Lib.hid (hvi.swap hli t4)
                generalize vv.getD i 0 = p1 at c1 HSW
                generalize vv.getD (i + F) 0 = p2 at c2 HSW
                have HE2 := Lib.hid e2
                have s3' : (i : Int) + (F : Int) < (n : Int) := by omega
                have d2 : ((i + F : Nat) : Int) < (n : Int) := by omega
                have d5 : ¬ (ov + i = ov + (i + F)) := by omega
                have d6 : ¬ (ov + (i + F) = ov + i) := by omega
                clear e2 hx hvi hv0 hv0' hq hsu hpx hsl hk hbi
                go_wp2
                go_roundw
                case rel => exact ⟨i + 1, by omega, by go_num, by rw [HSL.out]; go_num, by rw [HSL.out, HE2.out]; exact HSW.out⟩
                case measure => simp [intOf]; omega
              · have e2 : Ln.swK n F (sw.getD s []) (Ln.runK n m sw vs s) (k + 1) = Ln.swK n F (sw.getD s []) (Ln.runK n m sw vs s) k := by
                  show (if (sw.getD s []).getD k 0 = 1 then _ else _) = _
                  rw [if_neg (fun hh => hx1 (by rw [hx]; exact hh))]
                have e1 : (x == 1) = false := by rw [beq_eq_false_iff_ne]; exact hx1
                have HE2 := Lib.hid e2
                have HSW := Lib.hid hvi
                clear e2 hx hvi hx1 hq hsu hpx hsl hk hbi
                go_wp2
                go_roundw
                case rel => exact ⟨i + 1, by omega, by go_num, by rw [HSL.out]; go_num, by rw [HSL.out, HE2.out]; exact HSW.out⟩
                case measure => simp [intOf]; omega
            · rw [if_neg hq0, List.append_nil] at hsu
              have e1 : decide (0 < q) = true := decide_eq_true (by omega)
              have e2 : (0 : Int) < (q : Int) := by omega
              have HSL := Lib.hid hsu
              have HSW := Lib.hid hvi
              obtain ⟨k, hk⟩ : ∃ k, k = (Ln.low i F).length := ⟨_, rfl⟩
              rw [← hk]
              have HK := Lib.hid hk
              clear hvi hq hsu hq0 hk
              go_wp2
              go_roundw
              case rel => exact ⟨i + 1, by omega, by go_num, by rw [HSL.out, HK.out], by rw [HSL.out]; exact HSW.out⟩
              case measure => simp [intOf]; omega
          · have hin : i = n := by omega
            have HN := Lib.hid (show VecAt (Ln.runK n m sw vs (s + 1)) n gv ov w.heap.size w3.heap.size w3 wi by
              have e : Ln.runK n m sw vs (s + 1) = Ln.swK n F (sw.getD s []) (Ln.runK n m sw vs s) (Ln.low i F).length := by
                show Ln.swK n (Ln.farN m s) (sw.getD s []) (Ln.runK n m sw vs s) (Ln.low n (Ln.farN m s)).length = _
                rw [← HFF.out, hin]
              rw [e]
              exact hvi)
            clear hvi
            go_wp2
            go_roundw
            case rel => exact ⟨s + 1, by omega, by go_num, HN.out⟩
            case measure => simp [intOf]; omega
    · have hsn : s = n0 := by omega
      subst hsn
      have HFI := Lib.hid hvv
      clear hvv
      go_wp2
      go_ret
      exact ⟨_, n, c3, rfl, HFI.out.1.more (Nat.le_refl _) (by have := HFI.out.2.size; omega), hn, hc3, HB3.out.trans (HFI.out.2.below (Nat.le_refl _) HSZ.out)⟩
theorem sRunNetwork_any (b : Int) (A0 : Option Addr) (n0 c0 : Nat) (sw : List (List Int)) (B0 : Nat) (A : Option Addr) (n c : Nat) (vs : List Int) (B : Nat) (w : World)
    (hn0 : Ln.totL sw ≤ 1048576) (hn : n ≤ 1048576) (h0 : RdR w B0 A0 n0 sw) (h : Rd w B A n vs) :
    Calls Tryd.prog 24 #[.int .i64 b, .slice A0 n0 c0, .slice A n c] w (Ret1 (Ln.runNet b sw vs).1 (Ln.runNet b sw vs).2 w) := by
  have k1 := sIs_any b A n c vs B w hn h
  have k2 := fun W (hb : Below w.heap.size w W) => sNetwork_any (n : Int) A0 n0 c0 sw B0 W hn0 (h0.below hb)
  have k3 := fun (hok : Ln.netOk (n : Int) sw = true) W (hb : Below w.heap.size w W) => sRun_any A0 n0 c0 sw B0 A n c vs B W hn0 hn (h0.below hb) (h.below hb) hok
  unfold Ln.runNet
  rw [h.len]
  obtain ⟨u, hu⟩ : ∃ u, u = Ln.vec b vs := ⟨_, rfl⟩
  obtain ⟨v, hv⟩ : ∃ v, v = Ln.netOk (n : Int) sw := ⟨_, rfl⟩
  rw [← hu] at k1 ⊢
  rw [← hv] at k3 ⊢
  simp only [← hv] at k2
  have C1 := Lib.hid k1
  have C2 := Lib.hid k2
  have C3 := Lib.hid k3
  clear k1 k2 k3 h h0 hu hv
  cases u
  · rw [Bool.false_and]
    go_enter Tryd.func24, Tryd.ntmps24
    go_wp2_with fail
    refine C1.out.mono ?_
    rintro e w1 ⟨rfl, hb⟩
    have HB := Lib.hid hb; clear hb
    go_wp2_with fail
    go_ret2
    exact Ret1.no HB.out
  · cases v
    · go_enter Tryd.func24, Tryd.ntmps24
      go_wp2_with fail
      refine C1.out.mono ?_
      rintro e w1 ⟨rfl, hb⟩
      have HB := Lib.hid hb; clear hb
      go_wp2_with fail
      refine (C2.out _ HB.out).mono ?_
      rintro e w2 ⟨rfl, hb⟩
      have HB2 := Lib.hid (HB.out.trans (hb.mono HB.out.size)); clear hb
      go_wp2_with fail
      go_ret2
      exact Ret1.no HB2.out
    · go_enter Tryd.func24, Tryd.ntmps24
      go_wp2_with fail
      refine C1.out.mono ?_
      rintro e w1 ⟨rfl, hb⟩
      have HB := Lib.hid hb; clear hb
      go_wp2_with fail
      refine (C2.out _ HB.out).mono ?_
      rintro e w2 ⟨rfl, hb⟩
      have HB2 := Lib.hid (HB.out.trans (hb.mono HB.out.size)); clear hb
      go_wp2_with fail
      refine (C3.out (by trivial) _ HB2.out).mono ?_
      rintro e w3 ⟨A3, n3, c3, rfl, ho, hn3, hc3, hb⟩
      have HF := Lib.hid (And.intro (ho.more HB2.out.size (Nat.le_refl _)) (HB2.out.trans (hb.mono HB2.out.size))); clear ho hb
      go_wp2_with fail
      go_ret2
      exact ⟨A3, n3, c3, rfl, HF.out.1, hn3, HF.out.2⟩
end Go.Proofs.YtokdddkbpmcfgaaDoor.Wds
