/-
  Rows with lanes exchanged at a distance: the code's function.
-/
import Derived.Test.YtigodbilfjppbaaTst
namespace Go.Proofs.Ytigodbilfjppbaa.Wds
open Go.RowKit
set_option linter.unusedVariables false
/-- The relation of the loops that exchange. -/
def Swaps (zss : List (List Int)) (n f g lo hi : Nat) (w2 : World) (x y : Nat) (wr : World) : Prop :=
  OwnR wr lo hi (some ⟨g, 0, none⟩) n (Ln.stM zss n f x y) ∧ Ch lo hi w2 wr
theorem Swaps.drew {zss : List (List Int)} {n f g lo hi : Nat} {w2 wr : World} {x y : Nat} (h : Swaps zss n f g lo hi w2 x y wr) : Swaps zss n f g lo hi w2 x y wr.drew :=
  ⟨h.1.below (Below.refl _ _).drew, h.2.drew⟩
set_option maxHeartbeats 4000000 in
set_option maxRecDepth 100000 in
theorem iTransposeStep_any (b : Int) (A : Option Addr) (n c0 : Nat) (zss : List (List Int)) (B : Nat) (f : Int) (w : World) (hn : Ln.totL zss ≤ 1048576) (h : RdR w B A n zss) :
    Calls Try.prog 11 #[.int .i64 b, .slice A n c0, .int .i64 f] w (Ret1R (Ln.tstep b zss f).1 (Ln.tstep b zss f).2 w) := by
  obtain ⟨i0, hi0, hz0, hz1, hz2⟩ := info_parts A_infoR
  have k1 := areRows_any b A n c0 zss B w hn h
  unfold Ln.tstep
  have hok := fun (h : Ln.rowsOk b zss = true) => Ln.rowsOk_at h
  have hl := h.len
  rw [hl]
  obtain ⟨u, hu⟩ : ∃ u, u = Ln.rowsOk b zss := ⟨_, rfl⟩
  have hz := fun (hh : u = true) => Ln.stM_zero (b := b) (zss := zss) (by rw [← hu]; exact hh) f.toNat
  rw [← hu] at k1 hok ⊢
  have C1 := Lib.hid k1
  cases u
  · rw [Bool.false_and]
    clear k1 hok hu hn h hl hz
    go_enter Try.func11, Try.ntmps11
    go_wp2_with fail
    refine C1.out.mono ?_
    rintro e w1 ⟨rfl, hb⟩
    have HB := Lib.hid hb; clear hb
    go_wp2_with fail
    go_ret2
    exact Ret1R.no HB.out
  · rw [Bool.true_and]
    obtain ⟨hl1, hl2, hrow⟩ := hok rfl
    rw [hl] at hl1
    have hnn : n ≤ 16 := by have := Ln.lanes_cases hl1; omega
    have hn2 : 2 ≤ n := by have := Ln.lanes_cases hl1; omega
    have k2 := fun W => isDist_any f n W hl1
    have hd := fun (h : Ln.dist n f = true) => Ln.dst_of hl1 h
    obtain ⟨v, hv⟩ : ∃ v, v = Ln.dist n f := ⟨_, rfl⟩
    rw [← hv] at hd ⊢
    simp only [← hv] at k2
    have C2 := Lib.hid k2
    cases v
    · clear k1 k2 hok hu hn h hl hz hl1 hl2 hrow hd hv
      go_enter Try.func11, Try.ntmps11
      go_wp2_with fail
      refine C1.out.mono ?_
      rintro e w1 ⟨rfl, hb⟩
      have HB := Lib.hid hb; clear hb
      go_wp2_with fail
      refine (C2.out _).mono ?_
      rintro e w2 ⟨rfl, hb⟩
      have HB2 := Lib.hid (HB.out.trans (hb.mono HB.out.size)); clear hb
      go_wp2_with fail
      go_ret2
      exact Ret1R.no HB2.out
    · obtain ⟨hD, q, rfl, hq1, hq2⟩ := hd rfl
      have hz1' := hz rfl
      rw [Int.toNat_natCast] at hD hz1' ⊢
      rw [hl] at hrow hz1'
      have HD := Lib.hid hD
      have HROW := Lib.hid hrow
      have HZ := Lib.hid hz1'
      have HL := Lib.hid hl
      have H := Lib.hid h
      clear k1 k2 hok hu hn h hl hz hl1 hl2 hrow hv hD hz1'
      go_enter Try.func11, Try.ntmps11
      go_wp2_with fail
      refine C1.out.mono ?_
      rintro e w1 ⟨rfl, hb⟩
      have HB := Lib.hid hb; clear hb
      go_wp2_with fail
      refine (C2.out _).mono ?_
      rintro e w2 ⟨rfl, hb⟩
      have HB2 := Lib.hid (HB.out.trans (hb.mono HB.out.size)); clear hb
      go_wp2_with (refine wpList_make_rows _ rfl _ _ _ rfl i0 Try.underlying25 hi0 hz0 hz1 hz2 _ _ _ _ n rfl rfl rfl rfl (by omega) ?_)
      go_loopw [32] (fun i wr => FillsR zss n w2.heap.size w2 i wr) (fun i _ => n - (intOf i).toNat)
      case atStart => exact FillsR.start HL.out (Below.refl _ _)
      case round =>
        rename World => wT
        obtain ⟨k, hk, rfl, hown, hb⟩ := hrel
        by_cases hlt : k < n
        · obtain ⟨g, o, R, m, cm, rfl, hg, hc, hmc, hr⟩ := ((H.out.below HB2.out).below hb).at_ hlt
          have hm : n = m := by rw [← hr.len]; exact (HROW.out k hlt).1.symm
          subst hm
          obtain ⟨gr, or', rfl, _, _⟩ := hr.at_ (k := 0) (by omega)
          have HR := Lib.hid hr
          have HO := Lib.hid hown
          have HBB := Lib.hid hb
          have k0 : (0 : Int) ≤ (k : Int) := by omega
          have k2 : (k : Int) < (n : Int) := by omega
          clear hr hown hb hmc
          go_wp2_with fail
          refine (clone_any _ n cm _ B wT (by omega) HR.out).mono ?_
          rintro e w3 ⟨A3, n3, c3, rfl, ho, hn3, hc3, hb1⟩
          obtain ⟨⟨v0, hv0⟩, hf, hlo, hhi⟩ := (HO.out.below hb1).place hlt
          rw [Nat.zero_add] at hv0 hf
          have HF := Lib.hid (FillsR.step HL.out hlt HO.out HBB.out hb1 ho (Nat.le_refl _) (Nat.le_refl _) hc3)
          clear ho hb1
          go_wp2
          go_roundw
          case rel => exact HF.out
          case measure => simp [intOf]; omega
        · have hkn : k = n := by omega
          have hfa : OwnR wT w2.heap.size wT.heap.size (some ⟨w2.heap.size, 0, none⟩) n (Ln.stM zss n q 0 0) := by
            rw [HZ.out]
            rw [show Ln.fillR zss k = zss by rw [hkn, ← HL.out]; exact Ln.fillR_all zss] at hown
            exact hown
          have HO := Lib.hid hfa
          have HBT := Lib.hid (HB2.out.trans (hb.mono HB2.out.size))
          have HS2 := Lib.hid hb.size
          clear hfa hown hb
          subst hkn
          go_wp2_with fail
          refine (lower_any k q wT (by omega) (by omega)).mono ?_
          rintro e w4 ⟨AL, nL, cL, rfl, hoL, hnL, hcL, hbL⟩
          have HLO := Lib.hid hoL
          have HLL := Lib.hid hoL.len
          have HS0 := Lib.hid (show Swaps zss k q w2.heap.size w2.heap.size wT.heap.size w4 0 0 w4 from ⟨HO.out.below hbL, Ch.refl _ _ _⟩)
          have HBL := Lib.hid (HBT.out.trans (hbL.mono HBT.out.size))
          have HS4 := Lib.hid hbL.size
          clear hoL hbL
          go_wp2_with fail
          go_loopw [49] (fun i wr => ∃ x : Nat, x ≤ nL ∧ i = .int .i64 x ∧ Swaps zss k q w2.heap.size w2.heap.size wT.heap.size w4 x 0 wr) (fun i _ => nL - (intOf i).toNat)
          case atStart => exact ⟨0, Nat.zero_le _, rfl, HS0.out⟩
          case round =>
            rename World => wo
            obtain ⟨x, hx, rfl, hsw⟩ := hrel
            by_cases hxl : x < nL
            · obtain ⟨gl, ol, rfl, hgl, hcl⟩ := ((HLO.out.ch hsw.2 (.inr (Nat.le_refl _))).rd).at_ hxl
              obtain ⟨_, i1, i2, i3⟩ := HD.out.2.2.2 x (by rw [HLL.out]; exact hxl)
              obtain ⟨z, hz⟩ : ∃ z, z = (Ln.low k q).getD x 0 := ⟨_, rfl⟩
              rw [← hz] at hcl i1 i2
              obtain ⟨i, rfl⟩ := Int.eq_ofNat_of_zero_le (show 0 ≤ z by rw [hz]; have := (HD.out.2.2.2 x (by rw [HLL.out]; exact hxl)).1; rw [this]; exact Int.natCast_nonneg _)
              have HI := Lib.hid hz.symm
              have HSW := Lib.hid hsw
              have x0 : (0 : Int) ≤ (x : Int) := by omega
              have x1 : (x : Int) < (nL : Int) := by omega
              clear hz hsw i1 i2 i3
              go_wp2_with fail
              go_loopw [55] (fun jv wr => ∃ y : Nat, y ≤ nL ∧ jv = .int .i64 y ∧ Swaps zss k q w2.heap.size w2.heap.size wT.heap.size w4 x y wr) (fun jv _ => nL - (intOf jv).toNat)
              case atStart => exact ⟨0, Nat.zero_le _, rfl, HSW.out⟩
              case round =>
                rename World => wi
                obtain ⟨y, hy, rfl, hsw⟩ := hrel
                by_cases hyl : y < nL
                · obtain ⟨gm, om, e, hgm, hcm⟩ := ((HLO.out.ch hsw.2 (.inr (Nat.le_refl _))).rd).at_ hyl
                  injection e with e
                  injection e with e1 e2
                  subst e1; subst e2
                  obtain ⟨z, hz⟩ : ∃ z, z = (Ln.low k q).getD y 0 := ⟨_, rfl⟩
                  rw [← hz] at hcm
                  obtain ⟨j, rfl⟩ := Int.eq_ofNat_of_zero_le (show 0 ≤ z by rw [hz]; have := (HD.out.2.2.2 y (by rw [HLL.out]; exact hyl)).1; rw [this]; exact Int.natCast_nonneg _)
                  obtain ⟨b1, b2, b3, b4, e1, e2, hst⟩ := Ln.stM_step (zss := zss) HD.out (by rw [HLL.out]; exact hxl) (by rw [HLL.out]; exact hyl) HI.out hz.symm
                  have hq0 := HD.out.1
                  obtain ⟨g, o, g1, o1, m1, c1, g2, o2, m2, c2, ea, t1, t2, lm1, lm2, n12, n01, n02, lo1, hi1, lo2, hi2, v1, v2, f1, f2, hput⟩ := hsw.1.put2 (k1 := i) (k2 := i + q) b1 b2 (by omega) (j1 := j + q) (j2 := j) (by rw [Ln.stM_row _ _ _ _ _ _ b1]; exact b4) (by rw [Ln.stM_row _ _ _ _ _ _ b2]; exact b3)
                  injection ea with ea
                  injection ea with ea1 ea2
                  subst ea1; subst ea2
                  rw [Ln.stM_row _ _ _ _ _ _ b1] at lm1
                  rw [Ln.stM_row _ _ _ _ _ _ b2] at lm2
                  subst lm1; subst lm2
                  rw [e2] at v1
                  rw [e1] at v2
                  have hput' := hput (Ln.el zss (i + q) j) (Ln.el zss i (j + q))
                  rw [hst] at hput'
                  generalize Ln.el zss (i + q) j = p2 at v2 hput'
                  generalize Ln.el zss i (j + q) = p1 at v1 hput'
                  have HN := Lib.hid (show Swaps zss k q w2.heap.size w2.heap.size wT.heap.size w4 x (y + 1) ((wi.setCell ⟨g1, o1 + (j + q), none⟩ (.int .i64 p2)).setCell ⟨g2, o2 + j, none⟩ (.int .i64 p1)) from ⟨hput', (hsw.2.set_ (p := ⟨g1, o1 + (j + q), none⟩) lo1 hi1 _).set_ (p := ⟨g2, o2 + j, none⟩) lo2 hi2 _⟩)
                  rw [Nat.zero_add] at t1 t2
                  have y0 : (0 : Int) ≤ (y : Int) := by omega
                  have y1 : (y : Int) < (nL : Int) := by omega
                  have s1 : IntKind.i64.wrap ((i : Int) + (q : Int)) = ((i + q : Nat) : Int) := by rw [IntKind.wrap_i64]; omega
                  have s2 : IntKind.i64.wrap ((j : Int) + (q : Int)) = ((j + q : Nat) : Int) := by rw [IntKind.wrap_i64]; omega
                  have n21 : g2 ≠ g1 := Ne.symm n12
                  have d1 : (i : Int) < (k : Int) := by omega
                  have d2 : ((i + q : Nat) : Int) < (k : Int) := by omega
                  have d3 : (j : Int) < (k : Int) := by omega
                  have d4 : ((j + q : Nat) : Int) < (k : Int) := by omega
                  have d5 : (0 : Int) ≤ (i : Int) := by omega
                  have d6 : (0 : Int) ≤ (j : Int) := by omega
                  clear hput hput' hst e1 e2 hz hsw
                  go_wp2_with fail
                  go_region
                  go_wp2
                  go_roundw
                  case rel => exact ⟨y + 1, by omega, by go_num, HN.out.drew⟩
                  case measure => simp [intOf]; omega
                · have hyn : y = nL := by omega
                  have HF := Lib.hid (show Swaps zss k q w2.heap.size w2.heap.size wT.heap.size w4 (x + 1) 0 wi by
                    rw [hyn, ← HLL.out] at hsw
                    unfold Swaps at hsw ⊢
                    rw [← Ln.stM_next zss k q x HD.out]
                    exact hsw)
                  clear hsw
                  go_wp2
                  go_roundw
                  case rel => exact ⟨x + 1, by omega, by go_num, HF.out⟩
                  case measure => simp [intOf]; omega
            · have hxn : x = nL := by omega
              have HF := Lib.hid (show OwnR wo w2.heap.size wT.heap.size (some ⟨w2.heap.size, 0, none⟩) k (Ln.stepL zss k q) ∧ Ch w2.heap.size wT.heap.size w4 wo by
                rw [hxn, ← HLL.out] at hsw
                unfold Swaps at hsw
                rw [Ln.stM_all zss k q HD.out] at hsw
                exact hsw)
              have hsz := hsw.2.size
              clear hsw
              go_wp2
              go_ret2
              refine ⟨_, k, k, rfl, HF.out.1.more HB2.out.size (by have := HS4.out; omega), ?_⟩
              exact HBL.out.trans (HF.out.2.below HB2.out.size (by have := HS4.out; have := HS2.out; have := HB2.out.size; omega))
end Go.Proofs.Ytigodbilfjppbaa.Wds
