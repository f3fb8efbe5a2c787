/-
  The walk of the law FnTurns: for every input that can be read it returns true, and nothing that was there has changed.
-/
import Derived.Test.YteggioppoldaaaaDraw8
import Derived.Test.YteggioppoldaaaaDei
import Derived.Test.YteggioppoldaaaaLan6
namespace Go.Proofs.Yteggioppoldaaaa.Wds
open Go.RowKit
set_option linter.unusedVariables false

set_option maxHeartbeats 2000000 in
set_option maxRecDepth 100000 in
theorem law_turns (a0 : Option Addr) (len0 cap0 : Nat) (z0 : List Int) (a1 : Option Addr) (len1 cap1 : Nat) (z1 : List Int) (w : World) (r0 : IsRow .u8 w a0 len0 cap0 z0) (r1 : IsRow .u8 w a1 len1 cap1 z1) :
    Calls Try.prog 3 #[.slice a0 len0 cap0, .slice a1 len1 cap1] w fun e w' => e = .returned (.bool true) ∧ Below w.heap.size w w' := by
  have cl := r8long_any a0 a1 len0 cap0 len1 cap1 w r0.len' r1.len'
  by_cases hlong : 48 < len0 ∨ 48 < len1
  · rw [decide_eq_true hlong] at cl
    have CL := Lib.hid cl
    clear cl hlong r0 r1
    go_enter Try.func3, Try.ntmps3
    go_wp2_with fail
    refine CL.out.mono ?_
    rintro e w' ⟨rfl, rfl⟩
    go_wp2_with fail
    go_ret
    exact ⟨rfl, Below.refl _ _⟩
  · rw [decide_eq_false hlong] at cl
    have CL := Lib.hid cl
    have R0 := Lib.hid (fun (W : World) (hb : Below w.heap.size w W) => r0.below hb r0.block)
    have R1 := Lib.hid (fun (W : World) (hb : Below w.heap.size w W) => r1.below hb r1.block)
    clear cl hlong r0 r1
    go_enter Try.func3, Try.ntmps3
    go_wp2_with fail
    refine CL.out.mono ?_
    rintro e w' ⟨rfl, rfl⟩
    go_wp2_with fail
    refine (r8bits_any _ _ _ z0 _ (R0.out _ (Below.refl _ _))).mono ?_
    rintro e w1 ⟨b, rfl, hb, hb1⟩
    have HBits := Lib.hid hb
    have HB1 := Lib.hid hb1; clear hb hb1
    go_wp2_with fail
    refine (r8lanes_any _ _ _ z1 _ (R1.out _ HB1.out)).mono ?_
    rintro e w2 ⟨n, rfl, hl, hb⟩
    have HL := Lib.hid hl
    have hn : n ≤ 16 := by have := Ln.lanes_cases hl; omega
    have hn0 : 0 < n := by have := Ln.lanes_cases hl; omega
    have HB2 := Lib.hid (HB1.out.trans (hb.mono HB1.out.size)); clear hl hb
    go_wp2_with fail
    refine (r8vec_any _ _ _ _ _ z0 _ HBits.out HL.out (R0.out _ HB2.out)).mono ?_
    rintro e w3 ⟨ga, ca, xs, rfl, hoa, _, hva, hb⟩
    have HA := Lib.hid hoa.rd
    have HVA := Lib.hid hva
    have HLA := Lib.hid hoa.len
    have HB3 := Lib.hid (HB2.out.trans (hb.mono HB2.out.size)); clear hoa hva hb
    go_wp2_with fail
    refine (r8vec_any _ _ _ _ _ z1 _ HBits.out HL.out (R1.out _ HB3.out)).mono ?_
    rintro e w4 ⟨gb, cb, ys, rfl, hob, _, hvb, hb⟩
    have HBv := Lib.hid hob.rd
    have HVB := Lib.hid hvb
    have HLB := Lib.hid hob.len
    have HA4 := Lib.hid (HA.out.below hb)
    have HB4 := Lib.hid (HB3.out.trans (hb.mono HB3.out.size)); clear hob hvb hb HA
    have HBO := Lib.hid (Ln.both_of HVA.out HVB.out (HLA.out.trans HLB.out.symm))
    have HBO' := Lib.hid (Ln.both_of HVB.out HVA.out (HLB.out.trans HLA.out.symm))
    go_wp2_with fail
    refine (iInter_yes b _ _ n _ _ xs ys _ _ _ (by omega) hn0 HA4.out HBv.out HBO.out).mono ?_
    rintro e w5 ⟨Al, nl, kl, Ah, nh, kh, rfl, hol, hoh, _, _, _, hb⟩
    obtain rfl : n = nl := by have := hol.len; rw [Ln.tab_len] at this; exact this
    obtain rfl : n = nh := by have := hoh.len; rw [Ln.tab_len] at this; exact this
    have HLo := Lib.hid hol.rd
    have HHi := Lib.hid hoh.rd
    have HA5 := Lib.hid (HA4.out.below hb)
    have HY5 := Lib.hid (HBv.out.below hb)
    have HB5 := Lib.hid (HB4.out.trans (hb.mono HB4.out.size)); clear hol hoh hb HA4 HBv
    go_wp2_with fail
    refine (iDei_yes b _ _ n _ _ (Ln.tab (Ln.weave xs ys) n) (Ln.tab (fun i => Ln.weave xs ys (n + i)) n) _ _ _ (by omega) hn0 HLo.out HHi.out (Ln.weave_both HVA.out HVB.out HLA.out HLB.out)).mono ?_
    rintro e w6 ⟨Ax, nx, kx, Ay, ny, ky, rfl, hox, hoy, _, _, _, hb⟩
    obtain rfl : n = nx := by have := hox.len; rw [Ln.tab_len] at this; exact this
    obtain rfl : n = ny := by have := hoy.len; rw [Ln.tab_len] at this; exact this
    rw [Ln.unweave_even HLA.out] at hox
    rw [Ln.unweave_odd HLB.out] at hoy
    have HX := Lib.hid hox.rd
    have HY := Lib.hid hoy.rd
    have HA6 := Lib.hid (HA5.out.below hb)
    have HY6 := Lib.hid (HY5.out.below hb)
    have HB6 := Lib.hid (HB5.out.trans (hb.mono HB5.out.size)); clear hox hoy hb HA5 HY5 HLo HHi
    go_wp2_with fail
    refine (r8at_any 30 _ _ _ _ z1 _ (by omega) (by omega) (by omega) (by omega) (R1.out _ HB6.out)).mono ?_
    rintro e w7 ⟨q, rfl, hq0, hq1, rfl⟩
    obtain ⟨k, rfl⟩ := Int.eq_ofNat_of_zero_le hq0
    have hk : k ≤ n := by omega
    go_wp2_with fail
    refine (iSlide_yes b _ _ n _ _ xs ys _ _ k _ (by omega) hn0 hk HA6.out HY6.out HBO.out).mono ?_
    rintro e w8 ⟨As, ns, ks, rfl, hos, _, hb⟩
    obtain rfl : n = ns := by have := hos.len; rw [Ln.tab_len] at this; exact this
    have HS8 := Lib.hid hos.rd
    have HA8 := Lib.hid (HA6.out.below hb)
    have HY8 := Lib.hid (HY6.out.below hb)
    have HX8 := Lib.hid (HX.out.below hb)
    have HYY8 := Lib.hid (HY.out.below hb)
    have HB8 := Lib.hid (HB6.out.trans (hb.mono HB6.out.size)); clear hos hb HA6 HY6 HX HY
    go_wp2_with fail
    refine (iSlide_yes b _ _ n _ _ ys xs _ _ k _ (by omega) hn0 hk HY8.out HA8.out HBO'.out).mono ?_
    rintro e w9 ⟨Ar, nr, kr, rfl, hor, _, hb⟩
    obtain rfl : n = nr := by have := hor.len; rw [Ln.tab_len] at this; exact this
    have HR9 := Lib.hid hor.rd
    have HS9 := Lib.hid (HS8.out.below hb)
    have HA9 := Lib.hid (HA8.out.below hb)
    have HY9 := Lib.hid (HY8.out.below hb)
    have HX9 := Lib.hid (HX8.out.below hb)
    have HYY9 := Lib.hid (HYY8.out.below hb)
    have HB9 := Lib.hid (HB8.out.trans (hb.mono HB8.out.size)); clear hor hb HA8 HY8 HX8 HYY8 HS8
    go_wp2_with fail
    refine (r8same_any _ _ n _ _ xs _ _ _ (by omega) HX9.out HA9.out).mono ?_
    rintro e w10 ⟨rfl, hb⟩
    have HYY10 := Lib.hid (HYY9.out.below hb)
    have HY10 := Lib.hid (HY9.out.below hb)
    have HS10 := Lib.hid (HS9.out.below hb)
    have HR10 := Lib.hid (HR9.out.below hb)
    have HA10 := Lib.hid (HA9.out.below hb)
    have HB10 := Lib.hid (HB9.out.trans (hb.mono HB9.out.size)); clear hb HA9 HY9 HX9 HYY9 HS9 HR9
    go_wp2_with fail
    refine (r8same_any _ _ n _ _ ys _ _ _ (by omega) HYY10.out HY10.out).mono ?_
    rintro e w11 ⟨rfl, hb⟩
    have HY11 := Lib.hid (HY10.out.below hb)
    have HS11 := Lib.hid (HS10.out.below hb)
    have HR11 := Lib.hid (HR10.out.below hb)
    have HA11 := Lib.hid (HA10.out.below hb)
    have HB11 := Lib.hid (HB10.out.trans (hb.mono HB10.out.size)); clear hb HA10 HYY10 HS10 HR10 HY10
    go_wp2_with fail
    go_loopw [20] (fun i wr => ∃ j : Nat, j ≤ n ∧ i = .int .i64 j ∧ Below w11.heap.size w11 wr) (fun i _ => n - (intOf i).toNat)
    case atStart => exact ⟨0, Nat.zero_le _, rfl, Below.refl _ _⟩
    case round =>
      obtain ⟨j, hj, rfl, hbw⟩ := hrel
      have HBW := Lib.hid hbw
      clear hbw
      by_cases hlt : j < n
      · obtain ⟨gs, os, rfl, _, hcs⟩ := HS11.out.at_ hlt
        obtain ⟨gr, or', rfl, _, hcr⟩ := HR11.out.at_ hlt
        rw [Ln.tab_getD _ _ _ hlt, Ln.app_getD HLA.out] at hcs
        rw [Ln.tab_getD _ _ _ hlt, Ln.app_getD HLB.out] at hcr
        by_cases hjk : j + k < n
        · rw [if_pos (by omega)] at hcs hcr
          obtain ⟨g1, o1, e1, _, hc1⟩ := HA11.out.at_ (k := j + k) hjk
          obtain ⟨g2, o2, e2, _, hc2⟩ := HY11.out.at_ (k := j + k) hjk
          injection e1 with e1; injection e1 with e1 e1'; subst e1; subst e1'
          injection e2 with e2; injection e2 with e2 e2'; subst e2; subst e2'
          rw [Nat.add_comm k j] at hcs hcr
          rw [Nat.zero_add] at hc1 hc2
          obtain ⟨x, hx⟩ : ∃ z, z = xs.getD (j + k) 0 := ⟨_, rfl⟩
          obtain ⟨y, hy⟩ : ∃ z, z = ys.getD (j + k) 0 := ⟨_, rfl⟩
          rw [← hx] at hcs hc1
          rw [← hy] at hcr hc2
          have hcs := (HBW.out.cell (p := ⟨gs, os + j, none⟩) (World.block_lt_of_cell? w11 _ hcs)).trans hcs
          have hcr := (HBW.out.cell (p := ⟨gr, or' + j, none⟩) (World.block_lt_of_cell? w11 _ hcr)).trans hcr
          have hc1 := (HBW.out.cell (p := ⟨ga, j + k, none⟩) (World.block_lt_of_cell? w11 _ hc1)).trans hc1
          have hc2 := (HBW.out.cell (p := ⟨gb, j + k, none⟩) (World.block_lt_of_cell? w11 _ hc2)).trans hc2
          clear hx hy
          have i1 : (j : Int) + (k : Int) < (n : Int) := by omega
          have i2 : (0 : Int) ≤ (j : Int) := by omega
          have i3 : (j : Int) < (n : Int) := by omega
          have i4 : (0 : Int) ≤ (j : Int) + (k : Int) := by omega
          have d1 : decide ((j : Int) + (k : Int) < (n : Int)) = true := decide_eq_true i1
          have d2 : decide ((n : Int) ≤ (j : Int) + (k : Int)) = false := decide_eq_false (by omega)
          have s1 : IntKind.i64.wrap ((j : Int) + (k : Int)) = (j : Int) + (k : Int) := IntWalk.i64_in _ (by omega)
          have s2 : ((j : Int) + (k : Int)).toNat = j + k := by omega
          go_wp2
          go_quiet (fail)
          go_wp2
          go_roundw
          case rel => exact ⟨j + 1, by omega, by go_num, below_drewN HBW.out _⟩
          case measure => simp [intOf]; omega
        · rw [if_neg (by omega)] at hcs hcr
          obtain ⟨g1, o1, e1, _, hc1⟩ := HA11.out.at_ (k := j + k - n) (by omega)
          obtain ⟨g2, o2, e2, _, hc2⟩ := HY11.out.at_ (k := j + k - n) (by omega)
          injection e1 with e1; injection e1 with e1 e1'; subst e1; subst e1'
          injection e2 with e2; injection e2 with e2 e2'; subst e2; subst e2'
          rw [Nat.add_comm k j] at hcs hcr
          obtain ⟨x, hx⟩ : ∃ z, z = ys.getD (j + k - n) 0 := ⟨_, rfl⟩
          obtain ⟨y, hy⟩ : ∃ z, z = xs.getD (j + k - n) 0 := ⟨_, rfl⟩
          rw [← hx] at hcs hc2
          rw [← hy] at hcr hc1
          obtain ⟨m, hm⟩ : ∃ m, m = j + k - n := ⟨_, rfl⟩
          rw [← hm, Nat.zero_add] at hc1 hc2
          have hcs := (HBW.out.cell (p := ⟨gs, os + j, none⟩) (World.block_lt_of_cell? w11 _ hcs)).trans hcs
          have hcr := (HBW.out.cell (p := ⟨gr, or' + j, none⟩) (World.block_lt_of_cell? w11 _ hcr)).trans hcr
          have hc1 := (HBW.out.cell (p := ⟨ga, m, none⟩) (World.block_lt_of_cell? w11 _ hc1)).trans hc1
          have hc2 := (HBW.out.cell (p := ⟨gb, m, none⟩) (World.block_lt_of_cell? w11 _ hc2)).trans hc2
          have i1 : ¬ (j : Int) + (k : Int) < (n : Int) := by omega
          have i2 : (0 : Int) ≤ (j : Int) := by omega
          have i3 : (j : Int) < (n : Int) := by omega
          have i4 : (0 : Int) ≤ (j : Int) + (k : Int) := by omega
          have d1 : decide ((j : Int) + (k : Int) < (n : Int)) = false := decide_eq_false i1
          have d2 : decide ((n : Int) ≤ (j : Int) + (k : Int)) = true := decide_eq_true (by omega)
          have s1 : IntKind.i64.wrap ((j : Int) + (k : Int)) = (j : Int) + (k : Int) := IntWalk.i64_in _ (by omega)
          have e3 : (j : Int) + (k : Int) - (n : Int) = (m : Int) := by omega
          have s3 : IntKind.i64.wrap (m : Int) = (m : Int) := IntWalk.i64_in _ (by omega)
          have i5 : (m : Int) < (n : Int) := by omega
          clear hx hy hm
          go_wp2
          go_quiet (fail)
          go_wp2
          go_roundw
          case rel => exact ⟨j + 1, by omega, by go_num, below_drewN HBW.out _⟩
          case measure => simp [intOf]; omega
      · have hjn : ¬ (j : Int) < (n : Int) := by omega
        clear hlt
        go_wp2
        go_ret
        exact ⟨rfl, HB11.out.trans (HBW.out.mono HB11.out.size)⟩
end Go.Proofs.Yteggioppoldaaaa.Wds
