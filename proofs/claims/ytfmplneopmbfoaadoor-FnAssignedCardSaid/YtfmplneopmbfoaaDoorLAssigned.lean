/-
  The walk of the law FnAssigned: for every input that can be read it returns true, and nothing that was there has changed.
-/
import Derived.Test.YtfmplneopmbfoaaDoorDrawG
import Derived.Test.YtfmplneopmbfoaaDoorDraw8
import Derived.Test.YtfmplneopmbfoaaDoorWidth
import Derived.Test.YtfmplneopmbfoaaDoorArI
import Derived.Test.YtfmplneopmbfoaaDoorArF
import Derived.Test.YtfmplneopmbfoaaDoorBelBy
namespace Go.Proofs.YtfmplneopmbfoaaDoor.Wds
open Go.RowKit
set_option linter.unusedVariables false

theorem wid_yes (A : Option Addr) (n c : Nat) (ss : List Rg.R) (B : Nat) (w : World) (hn : n ≤ 1048576) (hv : Rg.valid ss = true) (h : RdG w B A n ss) :
    Calls Tryd.prog 9 #[.slice A n c] w (RetIB (Rg.width ss : Nat) true w) := by
  have := iWidthOf_any A n c ss B w hn h
  rw [Rg.widthOf, if_pos hv] at this
  exact this
set_option maxHeartbeats 40000000 in
set_option maxRecDepth 100000 in
theorem law_assigned (a0 : Option Addr) (len0 cap0 : Nat) (z0 : List Int) (a1 : Option Addr) (len1 cap1 : Nat) (z1 : List Int) (w : World) (r0 : IsRow .u8 w a0 len0 cap0 z0) (r1 : IsRow .u8 w a1 len1 cap1 z1) (hTab : TabT w) :
    Calls Tryd.prog 3 #[.slice a0 len0 cap0, .slice a1 len1 cap1] w fun e w' => e = .returned (.bool true) ∧ Below w.heap.size w w' := by
  have cl := r8long_any a0 a1 len0 cap0 len1 cap1 w r0.len' r1.len'
  have HT := Lib.hid hTab; clear hTab
  by_cases hlong : 48 < len0 ∨ 48 < len1
  · rw [decide_eq_true hlong] at cl
    have CL := Lib.hid cl
    clear cl hlong r0 r1
    go_enter Tryd.func3, Tryd.ntmps3
    go_wp2_with fail
    refine CL.out.mono ?_
    rintro e w' ⟨rfl, rfl⟩
    go_wp2_with fail
    go_ret
    exact ⟨rfl, Below.refl _ _⟩
  · rw [decide_eq_false hlong] at cl
    have CL := Lib.hid cl
    have R0 := Lib.hid (fun (W : World) (hb : Below w.heap.size w W) => r0.below hb r0.block)
    have R1 := Lib.hid (fun (W : World) (hb : Below w.heap.size w W) => r1.below hb r1.block)
    clear cl hlong r0 r1
    go_enter Tryd.func3, Tryd.ntmps3
    go_wp2_with fail
    refine CL.out.mono ?_
    rintro e w' ⟨rfl, rfl⟩
    go_wp2_with fail
    refine (r8ranges_any _ _ _ z0 _ (R0.out _ (Below.refl _ _))).mono ?_
    rintro e w1 ⟨A, n, c, ss, rfl, _, hn8, hv, hr, hb⟩
    have HV := Lib.hid hv
    have HLN := Lib.hid hr.len
    have HR1 := Lib.hid hr
    have HB1 := Lib.hid hb; clear hv hr hb
    go_wp2_with fail
    refine (wid_yes A n c ss _ _ (by omega) HV.out HR1.out).mono ?_
    rintro e w2 ⟨rfl, hb⟩
    have HR2 := Lib.hid ((HR1.out.below hb).more hb.size)
    have HB2 := Lib.hid (HB1.out.trans (hb.mono HB1.out.size)); clear hb HB1 HR1
    go_wp2_with fail
    refine (r8at_any 0 6 _ _ _ z1 _ (by omega) (by omega) (by omega) (by omega) (R1.out _ HB2.out)).mono ?_
    rintro e w3 ⟨r, rfl, hr0, hr6, rfl⟩
    have hasg := Ar.assign_if (r := r) HV.out hr0 (by omega)
    obtain ⟨q, hq⟩ : ∃ q, q = Rg.width ss := ⟨_, rfl⟩
    rw [← hq] at hasg ⊢
    have ca := iAssignRegisters_any A n c ss _ r w2 (by omega) HR2.out (HT.out.below HB2.out HT.out.lt)
    rw [hasg] at ca
    have HBAD := Lib.hid (fun h => Ar.bad_iff (r := r) HV.out hr0 ▸ h : (!decide ((Rg.width ss : Int) ≤ r)) = false → Ar.badAt ss r ss.length = false)
    rw [← hq] at HBAD
    clear hq hasg
    by_cases hw : (q : Int) ≤ r
    · rw [if_pos hw] at ca
      have HBD := Lib.hid (HBAD.out (by rw [decide_eq_true hw]; rfl))
      have CA := Lib.hid ca; clear ca HBAD
      go_wp2_with fail
      refine CA.out.mono ?_
      rintro e w4 ⟨A4, m, c4, rfl, ho, _, hb⟩
      have hml := ho.len
      rw [Ar.asd_len, HLN.out] at hml
      subst hml
      have HR4 := Lib.hid ((HR2.out.below hb).more hb.size)
      have HL4 := Lib.hid ho.rd
      have HB4 := Lib.hid (HB2.out.trans (hb.mono HB2.out.size)); clear ho hb HB2 CA HR2
      go_wp2
      go_loopw [11] (fun i wr => ∃ k : Nat, k ≤ n ∧ i = .int .i64 k ∧ Below w4.heap.size w4 wr) (fun i _ => n - (intOf i).toNat)
      case atStart => exact ⟨0, Nat.zero_le _, rfl, Below.refl _ _⟩
      case round =>
        rename World => wr
        obtain ⟨i, hi, rfl, hb⟩ := hrel
        by_cases hlt : i < n
        · have hil : i < ss.length := by rw [HLN.out]; exact hlt
          obtain ⟨g, o, rfl, hg4, hc⟩ := HL4.out.at_ hlt
          have hd := (hb.cell (p := ⟨g, o + i, none⟩) hg4).trans hc
          have hin := Ar.asd_ok HBD.out hil
          obtain ⟨z, hz⟩ : ∃ z, z = (Ar.assigned ss).getD i 0 := ⟨_, rfl⟩
          rw [← hz] at hd hin hc
          obtain ⟨hz0, hz1⟩ := hin
          have HZ := Lib.hid hz
          have HC := Lib.hid hc
          have HB := Lib.hid hb; clear hb hz hc
          have i1 : (0 : Int) ≤ (i : Int) := by omega
          have i2 : (i : Int) < (n : Int) := by omega
          go_wp2
          go_loopw [12] (fun v wk => ∃ k : Nat, k ≤ i ∧ v = .int .i64 k ∧ Below w4.heap.size w4 wk) (fun v _ => i - (intOf v).toNat)
          case atStart => exact ⟨0, Nat.zero_le _, rfl, HB.out⟩
          case round =>
            rename World => wk
            obtain ⟨k, hk, rfl, hb⟩ := hrel
            have HB5 := Lib.hid hb
            by_cases hlk : k < i
            · have hkl : k < ss.length := by rw [HLN.out]; omega
              have hkn : k < n := by omega
              have hne := fun h => Ar.asd_ne HV.out hil hkl (by omega) h
              have hzi := (hb.cell (p := ⟨g, o + i, none⟩) hg4).trans HC.out
              obtain ⟨g', o', eA, _, hf⟩ := HL4.out.at_ hkn
              injection eA with eA; injection eA with e1 e2; subst e1; subst e2
              have hzk := (hb.cell (p := ⟨g, o + k, none⟩) hg4).trans hf
              clear hf
              obtain ⟨y, hy⟩ : ∃ y, y = (Ar.assigned ss).getD k 0 := ⟨_, rfl⟩
              rw [← hy] at hzk hne
              rw [← HZ.out] at hne
              have hrd := HR4.out.below hb
              obtain ⟨gq, oq, eq, _, c0, c1⟩ := hrd.at_ hlt
              obtain ⟨gq', oq', eq', _, q0, q1⟩ := hrd.at_ hkn
              rw [eq] at eq'
              injection eq' with eq'; injection eq' with e1 e2; subst e1; subst e2
              subst eq
              rw [Ar.meets] at hne
              obtain ⟨X, hX⟩ : ∃ X, X = Rg.nth ss i := ⟨_, rfl⟩
              obtain ⟨Y, hY⟩ : ∃ Y, Y = Rg.nth ss k := ⟨_, rfl⟩
              rw [← hX] at c0 c1 hne
              rw [← hY] at q0 q1 hne
              obtain ⟨fx, tx⟩ := X
              obtain ⟨fy, ty⟩ := Y
              simp only at c0 c1 q0 q1 hne
              have d0 := BelBy.cell hzi
              have d1 := BelBy.cell hzk
              have d2 := BelBy.cell c0
              have d3 := BelBy.cell c1
              have d4 := BelBy.cell q0
              have d5 := BelBy.cell q1
              have j1 : (0 : Int) ≤ (k : Int) := by omega
              have j2 : (k : Int) < (n : Int) := by omega
              have j3 : (k : Int) < (i : Int) := by omega
              clear hzi hzk c0 c1 q0 q1 hX hY hy hrd hb hd
              by_cases h1 : fx < ty
              · have dd1 : decide (fx < ty) = true := decide_eq_true h1
                by_cases h2 : fy < tx
                · have dd2 : decide (fy < tx) = true := decide_eq_true h2
                  have dd4 : z ≠ y := hne (by rw [dd1, dd2]; rfl)
                  have dd3 : (z == y) = false := beq_eq_false_iff_ne.2 dd4
                  clear h1 h2 hne dd4
                  go_wp2
                  refine wp_region_quiet_bel (by kernel_rfl) (by kernel_rfl) ?_
                  repeat (go_big_quiet_step (fail))
                  refine wpQuiet_nil ?_
                  rintro wA ⟨⟨_, hbo⟩, rfl⟩
                  have HBA := Lib.hid (HB5.out.trans (hbo.mono HB5.out.size))
                  clear hbo d0 d1 d2 d3 d4 d5
                  go_wp2
                  go_roundw
                  case rel => exact ⟨k + 1, by omega, by go_num, HBA.out⟩
                  case measure => simp [intOf]; omega
                · have dd2 : decide (fy < tx) = false := decide_eq_false h2
                  clear h1 h2 hne
                  go_wp2
                  refine wp_region_quiet_bel (by kernel_rfl) (by kernel_rfl) ?_
                  repeat (go_big_quiet_step (fail))
                  refine wpQuiet_nil ?_
                  rintro wA ⟨⟨_, hbo⟩, rfl⟩
                  have HBA := Lib.hid (HB5.out.trans (hbo.mono HB5.out.size))
                  clear hbo d0 d1 d2 d3 d4 d5
                  go_wp2
                  go_roundw
                  case rel => exact ⟨k + 1, by omega, by go_num, HBA.out⟩
                  case measure => simp [intOf]; omega
              · have dd1 : decide (fx < ty) = false := decide_eq_false h1
                clear h1 hne
                go_wp2
                refine wp_region_quiet_bel (by kernel_rfl) (by kernel_rfl) ?_
                repeat (go_big_quiet_step (fail))
                refine wpQuiet_nil ?_
                rintro wA ⟨⟨_, hbo⟩, rfl⟩
                have HBA := Lib.hid (HB5.out.trans (hbo.mono HB5.out.size))
                clear hbo d0 d1 d2 d3 d4 d5
                go_wp2
                go_roundw
                case rel => exact ⟨k + 1, by omega, by go_num, HBA.out⟩
                case measure => simp [intOf]; omega
            · clear hb
              go_wp2
              go_roundw
              case rel => exact ⟨i + 1, by omega, by go_num, HB5.out⟩
              case measure => simp [intOf]; omega
        · have HBA := Lib.hid (HB4.out.trans (hb.mono HB4.out.size)); clear hb
          go_wp2
          go_ret
          exact ⟨rfl, HBA.out⟩
    · rw [if_neg hw] at ca
      have CA := Lib.hid ca; clear ca HBAD
      go_wp2_with fail
      refine CA.out.mono ?_
      rintro e w4 ⟨A4, m, c4, rfl, ho, _, hb⟩
      have HR4 := Lib.hid ((HR2.out.below hb).more hb.size)
      have HB4 := Lib.hid (HB2.out.trans (hb.mono HB2.out.size)); clear ho hb HB2 CA HR2
      go_wp2_with fail
      refine (iValidRanges_any A n c ss _ _ (by omega) HR4.out).mono ?_
      rintro e w5 ⟨rfl, hb⟩
      have HB5 := Lib.hid (HB4.out.trans (hb.mono HB4.out.size)); clear hb HB4 HR4
      rw [HV.out]
      go_wp2
      go_ret
      exact ⟨rfl, HB5.out⟩
end Go.Proofs.YtfmplneopmbfoaaDoor.Wds
