/-
  What a network makes of a vector: the code's function.
-/
import Derived.Test.YtokdddkbpmcfgaaDoorNet
namespace Go.Proofs.YtokdddkbpmcfgaaDoor.Wds
open Go.RowKit
set_option linter.unusedVariables false
/-- The vector of the call's own, behind some of the switches. -/
def VecAt (vs : List Int) (n g o lo hi : Nat) (w2 : World) (wr : World) : Prop :=
  Own wr lo hi (some ⟨g, o, none⟩) n vs ∧ Ch lo hi w2 wr
theorem VecAt.drew {vs : List Int} {n g o lo hi : Nat} {w2 wr : World} (h : VecAt vs n g o lo hi w2 wr) : VecAt vs n g o lo hi w2 wr.drew :=
  ⟨h.1.below (Below.refl _ _).drew, h.2.drew⟩
theorem VecAt.swap {vs : List Int} {n g o lo hi i j : Nat} {w2 wr : World} (h : VecAt vs n g o lo hi w2 wr) (hi' : i < n) (hj : j < n) : VecAt (Ln.swap vs i j) n g o lo hi w2 ((wr.setCell ⟨g, o + i, none⟩ (.int .i64 (vs.getD j 0))).setCell ⟨g, o + j, none⟩ (.int .i64 (vs.getD i 0))) := by
  obtain ⟨_, h1, h2, _⟩ := frozen_of h.1 hi' rfl
  exact ⟨(h.1.store hi' _).store hj _, (h.2.set_ (p := ⟨g, o + i, none⟩) h1 h2 _).set_ (p := ⟨g, o + j, none⟩) h1 h2 _⟩
set_option maxHeartbeats 4000000 in
set_option maxRecDepth 100000 in
theorem iRunNetwork_any (b : Int) (A0 : Option Addr) (n0 c0 : Nat) (sw : List (List Int)) (B0 : Nat) (A : Option Addr) (n c : Nat) (vs : List Int) (B : Nat) (w : World)
    (hn0 : Ln.totL sw ≤ 1048576) (hn : n ≤ 1048576) (h0 : RdR w B0 A0 n0 sw) (h : Rd w B A n vs) (hT : TabT64 w) :
    Calls Tryd.prog 13 #[.int .i64 b, .slice A0 n0 c0, .slice A n c] w (Ret1 (Ln.runNet b sw vs).1 (Ln.runNet b sw vs).2 w) := by
  have k1 := isVec_any b A n c vs B w hn h
  have k2 := fun W (hb : Below w.heap.size w W) => iIsNetwork_any (n : Int) A0 n0 c0 sw B0 W hn0 (h0.below hb) (hT.keep hb)
  have hl := h.len
  unfold Ln.runNet
  rw [hl]
  have hv1 := fun (hh : Ln.vec b vs = true) => Ln.vec_len hh
  have hv2 := fun (hh : Ln.netOk (n : Int) sw = true) => Ln.netOk_at hh
  obtain ⟨u, hu⟩ : ∃ u, u = Ln.vec b vs := ⟨_, rfl⟩
  obtain ⟨v, hv⟩ : ∃ v, v = Ln.netOk (n : Int) sw := ⟨_, rfl⟩
  rw [← hu] at k1 hv1 ⊢
  rw [← hv] at hv2 ⊢
  simp only [← hv] at k2
  have C1 := Lib.hid k1
  have C2 := Lib.hid k2
  cases u
  · rw [Bool.false_and]
    clear k1 k2 hu hv hv1 hv2 h h0 hT hl
    go_enter Tryd.func13, Tryd.ntmps13
    go_wp2_with fail
    refine C1.out.mono ?_
    rintro e w1 ⟨rfl, hb⟩
    have HB := Lib.hid hb; clear hb
    go_wp2_with fail
    go_ret2
    exact Ret1.no HB.out
  · cases v
    · rw [Bool.true_and]
      clear k1 k2 hu hv hv1 hv2 h h0 hT hl
      go_enter Tryd.func13, Tryd.ntmps13
      go_wp2_with fail
      refine C1.out.mono ?_
      rintro e w1 ⟨rfl, hb⟩
      have HB := Lib.hid hb; clear hb
      go_wp2_with fail
      refine (C2.out _ HB.out).mono ?_
      rintro e w2 ⟨rfl, hb⟩
      have HB2 := Lib.hid (HB.out.trans (hb.mono HB.out.size)); clear hb
      go_wp2_with fail
      go_ret2
      exact Ret1.no HB2.out
    · rw [Bool.true_and]
      obtain ⟨hl1, hs1, hs2⟩ := hv2 rfl
      rw [Int.toNat_natCast] at hs1 hs2
      have hln := Ln.lanes_cases hl1
      have hn1 : 2 ≤ n := by omega
      have hn2 : n ≤ 16 := by omega
      obtain ⟨hF, hp2, hp1⟩ := Ln.fars_of hl1
      obtain ⟨m, hm⟩ : ∃ m, m = Ln.pwr n := ⟨_, rfl⟩
      rw [← hm] at hF hp1 hp2 hs1 ⊢
      have hm4 := hF.1
      rw [h0.len] at hs1 hs2 ⊢
      obtain ⟨ga, oa, rfl, _, _⟩ := h.at_ (k := 0) (by omega)
      have HF := Lib.hid hF
      have HS2 := Lib.hid hs2
      have HL := Lib.hid hl
      have HL0 := Lib.hid h0.len
      have H := Lib.hid h
      have H0 := Lib.hid h0
      have q1 : (n0 : Int) / 2 = ((m - 1 : Nat) : Int) := by omega
      obtain ⟨d, hd⟩ : ∃ d, d = m - 1 := ⟨_, rfl⟩
      rw [← hd] at q1
      have HD := Lib.hid hd
      have q2 : (0 : Int) ≤ (n0 : Int) := by omega
      have hd4 : d ≤ 3 := by omega
      have hn07 : n0 ≤ 7 := by omega
      have HN0 := Lib.hid hs1
      clear k1 k2 hu hv hv1 h h0 hT hl hl1 hs1 hs2 hln hF hp2 hd hm
      go_enter Tryd.func13, Tryd.ntmps13
      go_wp2_with fail
      refine C1.out.mono ?_
      rintro e w1 ⟨rfl, hb⟩
      have HB := Lib.hid hb; clear hb
      go_wp2_with fail
      refine (C2.out _ HB.out).mono ?_
      rintro e w2 ⟨rfl, hb⟩
      have HB2 := Lib.hid (HB.out.trans (hb.mono HB.out.size)); clear hb
      go_wp2_with fail
      refine (clone_any _ n c _ B w2 hn (H.out.below HB2.out)).mono ?_
      rintro e w3 ⟨A3, n3, c3, rfl, ho, hn3, hc3, hb⟩
      have hn33 : n = n3 := by rw [← ho.len]; exact HL.out.symm
      subst hn33
      obtain ⟨gv, ov, rfl, _, _⟩ := ho.rd.at_ (k := 0) (by omega)
      have HV := Lib.hid (show VecAt (Ln.runK n m sw vs 0) n gv ov w2.heap.size w3.heap.size w3 w3 from ⟨ho, Ch.refl _ _ _⟩)
      have HB3 := Lib.hid (HB2.out.trans (hb.mono HB2.out.size))
      have HSZ := Lib.hid hb.size
      clear ho hb
      go_wp2_with fail
      go_loopw [33] (fun iv wr => ∃ s : Nat, s ≤ n0 ∧ iv = .int .i64 s ∧ VecAt (Ln.runK n m sw vs s) n gv ov w2.heap.size w3.heap.size w3 wr) (fun iv _ => n0 - (intOf iv).toNat)
      case atStart => exact ⟨0, Nat.zero_le _, rfl, HV.out⟩
      case round =>
        rename World => wo
        obtain ⟨s, hs, rfl, hvv⟩ := hrel
        by_cases hlt : s < n0
        · have hbo : Below w.heap.size w wo := HB3.out.trans (hvv.2.below HB2.out.size (by have := HSZ.out; have := HB2.out.size; omega))
          obtain ⟨g, o, R, ml, cm, rfl, hg, hc0, _, hr⟩ := H0.out.at_ hlt
          have hc := (hbo.cell (p := ⟨g, o + s, none⟩) (World.block_lt_of_cell? w _ hc0)).trans hc0
          have HBO := Lib.hid hbo
          have hml : ml = n / 2 := hr.len.symm.trans (HS2.out s hlt).1
          obtain ⟨hr1, hr2⟩ := HS2.out s hlt
          obtain ⟨hD, hfn, hf8, hlow⟩ := HF.out.2.2 s (by rw [← HN0.out]; exact hlt)
          obtain ⟨e, he⟩ : ∃ e, e = max (m - 1 - s) (s - (m - 1)) := ⟨_, rfl⟩
          have he4 : e ≤ 3 := by have := HN0.out; omega
          obtain ⟨F, hFF⟩ : ∃ F, F = Ln.farN m s := ⟨_, rfl⟩
          have hFe : F = 2 ^ e := by rw [hFF, he]; rfl
          have hcase : (s ≤ d ∧ (2 : Int) ^ (d - s) = (F : Int)) ∨ (d < s ∧ (2 : Int) ^ (s - d) = (F : Int)) := by
            have h1 := HD.out
            rcases Nat.lt_or_ge d s with h | h
            · exact .inr ⟨h, by rw [hFe, show s - d = e by omega]; norm_cast⟩
            · exact .inl ⟨h, by rw [hFe, show d - s = e by omega]; norm_cast⟩
          rw [← hFF] at hD hfn hf8 hlow
          have HDD := Lib.hid hD
          have HLW := Lib.hid hlow
          have HR := Lib.hid hr
          have HR1 := Lib.hid hr1
          have HVV := Lib.hid hvv
          have HFF := Lib.hid hFF
          have s0 : (0 : Int) ≤ (s : Int) := by omega
          have s1 : (s : Int) < (n0 : Int) := by omega
          have e0 : (0 : Int) ≤ (e : Int) := by omega
          have e3 : (e : Int) ≤ 3 := by omega
          have F8 : (F : Int) ≤ 8 := by omega
          have F0 : (0 : Int) ≤ (F : Int) := by omega
          clear hD hlow hr hr1 hr2 hvv hFF hFe he hc0 hbo
          have HML := Lib.hid hml; clear hml
          rcases hcase with ⟨hc1, hc2⟩ | ⟨hc1, hc2⟩
          all_goals
            go_wp2_with fail
            refine (lower_any n F wo (by omega) (by omega)).mono ?_
            rintro ee w4 ⟨AL, nL, cL, rfl, hoL, hnL, hcL, hbL⟩
            have HLO := Lib.hid hoL
            have HLL := Lib.hid hoL.len
            have HV4 := Lib.hid (show VecAt (Ln.swK n F (sw.getD s []) (Ln.runK n m sw vs s) 0) n gv ov w2.heap.size w3.heap.size w4 w4 from ⟨HVV.out.1.below hbL, Ch.refl _ _ _⟩)
            have HBL := Lib.hid hbL
            clear hoL hbL
            go_wp2_with fail
            go_loopw [51] (fun kv wr => ∃ k : Nat, k ≤ nL ∧ kv = .int .i64 k ∧ VecAt (Ln.swK n F (sw.getD s []) (Ln.runK n m sw vs s) k) n gv ov w2.heap.size w3.heap.size w4 wr) (fun kv _ => nL - (intOf kv).toNat)
            case atStart => exact ⟨0, Nat.zero_le _, rfl, HV4.out⟩
            case round =>
              rename World => wi
              obtain ⟨k, hk, rfl, hvi⟩ := hrel
              by_cases hlk : k < nL
              · have hbi : Below w.heap.size w wi := (HBO.out.trans (HBL.out.mono HBO.out.size)).trans (hvi.2.below HB2.out.size (by have := HBL.out.size; have := HBO.out.size; omega))
                obtain ⟨gl, ol, rfl, hgl, hcl⟩ := ((HLO.out.ch hvi.2 (.inr (by have := HVV.out.2.size; have := HSZ.out; omega))).rd).at_ hlk
                obtain ⟨t1, t2, t3, _⟩ := HDD.out.2.2.2 k (by rw [HLL.out]; exact hlk)
                obtain ⟨z, hz⟩ : ∃ z, z = (Ln.low n F).getD k 0 := ⟨_, rfl⟩
                rw [← hz] at hcl t1 t2 t3
                obtain ⟨i, rfl⟩ := Int.eq_ofNat_of_zero_le (show 0 ≤ z by rw [t1]; exact Int.natCast_nonneg _)
                rw [Int.toNat_natCast] at t2 t3
                have t4 := (HDD.out.2.1 i t2 t3).1
                have hf0 := HDD.out.1
                obtain ⟨gr, or', rfl, _, hcr⟩ := (HR.out.below hbi).at_ (k := k) (by rw [HML.out, ← HLW.out, HLL.out]; exact hlk)
                have lr : (k : Int) < (ml : Int) := by have := HML.out; have := HLW.out; have := HLL.out; omega
                have k0 : (0 : Int) ≤ (k : Int) := by omega
                have k1 : (k : Int) < (nL : Int) := by omega
                obtain ⟨x, hx⟩ : ∃ x, x = (sw.getD s []).getD k 0 := ⟨_, rfl⟩
                rw [← hx] at hcr
                by_cases hx1 : x = 1
                · subst hx1
                  have e2 : Ln.swK n F (sw.getD s []) (Ln.runK n m sw vs s) (k + 1) = Ln.swap (Ln.swK n F (sw.getD s []) (Ln.runK n m sw vs s) k) i (i + F) := by
                    show (if (sw.getD s []).getD k 0 = 1 then _ else _) = _
                    rw [if_pos hx.symm, ← hz, Int.toNat_natCast]
                  have hlv : (Ln.swK n F (sw.getD s []) (Ln.runK n m sw vs s) k).length = n := hvi.1.len
                  generalize Ln.swK n F (sw.getD s []) (Ln.runK n m sw vs s) k = vv at hvi e2 hlv
                  obtain ⟨f1, b1, b2, v0, hv0⟩ := frozen_of hvi.1 (k := i) t2 rfl
                  obtain ⟨f2, _, _, v0', hv0'⟩ := frozen_of hvi.1 (k := i + F) t4 rfl
                  obtain ⟨_, _, ea, _, c1⟩ := hvi.1.rd.at_ (k := i) t2
                  injection ea with ea
                  injection ea with ea1 ea2
                  subst ea1; subst ea2
                  obtain ⟨_, _, ea, _, c2⟩ := hvi.1.rd.at_ (k := i + F) t4
                  injection ea with ea
                  injection ea with ea1 ea2
                  subst ea1; subst ea2
                  have HSW := Lib.hid (hvi.swap t2 t4)
                  generalize vv.getD i 0 = p1 at c1 HSW
                  generalize vv.getD (i + F) 0 = p2 at c2 HSW
                  have HE2 := Lib.hid e2
                  have s1' : IntKind.i64.wrap ((i : Int) + (F : Int)) = ((i + F : Nat) : Int) := by rw [IntKind.wrap_i64]; omega
                  have d1 : (i : Int) < (n : Int) := by omega
                  have d2 : ((i + F : Nat) : Int) < (n : Int) := by omega
                  have d3 : (0 : Int) ≤ (i : Int) := by omega
                  have d5 : ¬ (ov + i = ov + (i + F)) := by omega
                  have d6 : ¬ (ov + (i + F) = ov + i) := by omega
                  clear e2 hz hx hvi hlv hv0 hv0' t1
                  go_wp2_with fail
                  go_region
                  go_wp2
                  go_roundw
                  case rel => exact ⟨k + 1, by omega, by go_num, by rw [HE2.out]; exact HSW.out.drew⟩
                  case measure => simp [intOf]; omega
                · have e2 : Ln.swK n F (sw.getD s []) (Ln.runK n m sw vs s) (k + 1) = Ln.swK n F (sw.getD s []) (Ln.runK n m sw vs s) k := by
                    show (if (sw.getD s []).getD k 0 = 1 then _ else _) = _
                    rw [if_neg (fun hh => hx1 (by rw [hx]; exact hh))]
                  have e1 : (x == 1) = false := by rw [beq_eq_false_iff_ne]; exact hx1
                  have HE2 := Lib.hid e2
                  have HSW := Lib.hid hvi
                  clear e2 hz hx hvi t1 hx1
                  go_wp2
                  go_roundw
                  case rel => exact ⟨k + 1, by omega, by go_num, by rw [HE2.out]; exact HSW.out⟩
                  case measure => simp [intOf]; omega
              · have hkn : k = nL := by omega
                have HN := Lib.hid (show VecAt (Ln.runK n m sw vs (s + 1)) n gv ov w2.heap.size w3.heap.size w3 wi by
                  have e : Ln.runK n m sw vs (s + 1) = Ln.swK n F (sw.getD s []) (Ln.runK n m sw vs s) k := by
                    show Ln.swK n (Ln.farN m s) (sw.getD s []) (Ln.runK n m sw vs s) (Ln.low n (Ln.farN m s)).length = _
                    rw [← HFF.out, HLL.out, hkn]
                  rw [e]
                  exact ⟨hvi.1, (HVV.out.2.trans (Ch.of_below HBL.out _ _)).trans hvi.2⟩)
                clear hvi
                go_wp2
                go_roundw
                case rel => exact ⟨s + 1, by omega, by go_num, HN.out⟩
                case measure => simp [intOf]; omega
        · have hsn : s = n0 := by omega
          subst hsn
          have HFI := Lib.hid hvv
          clear hvv
          go_wp2
          go_ret2
          refine ⟨_, n, c3, rfl, HFI.out.1.more HB2.out.size (by have := HFI.out.2.size; omega), hn, HB3.out.trans (HFI.out.2.below HB2.out.size (by have := HSZ.out; have := HB2.out.size; omega))⟩
end Go.Proofs.YtokdddkbpmcfgaaDoor.Wds
