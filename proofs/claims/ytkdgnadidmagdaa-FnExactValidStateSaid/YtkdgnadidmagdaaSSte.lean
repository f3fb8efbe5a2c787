/-
  The model's test on a state.
-/
import Derived.Test.YtkdgnadidmagdaaMch
import Derived.Test.YtkdgnadidmagdaaSteM
import Derived.Test.YtkdgnadidmagdaaLstRW
namespace Go.Proofs.Ytkdgnadidmagdaa.Wds
open Go.RowKit
set_option linter.unusedVariables false

/-- A machine in memory. -/
def McAt (w : World) (g : Nat) (l b : Int) : Prop := w.cell? ⟨g, 0, none⟩ = some (.int .i64 l) ∧ w.cell? ⟨g, 1, none⟩ = some (.int .i64 b)
/-- Three values in memory. -/
def At3 (w : World) (g : Nat) (x y z : Value) : Prop := w.cell? ⟨g, 0, none⟩ = some x ∧ w.cell? ⟨g, 1, none⟩ = some y ∧ w.cell? ⟨g, 2, none⟩ = some z
theorem later {w w' : World} {p : Addr} {v : Value} (h : w.cell? p = some v) (hb : Below w.heap.size w w') : w'.cell? p = some v := (hb.cell (World.block_lt_of_cell? w _ h)).trans h
theorem McAt.below {w w' : World} {g : Nat} {l b : Int} (h : McAt w g l b) (hb : Below w.heap.size w w') : McAt w' g l b := ⟨later h.1 hb, later h.2 hb⟩
theorem At3.below {w w' : World} {g : Nat} {x y z : Value} (h : At3 w g x y z) (hb : Below w.heap.size w w') : At3 w' g x y z := ⟨later h.1 hb, later h.2.1 hb, later h.2.2 hb⟩
theorem wds_bits {l b : Int} (h : Mc.mok l b = true) (z : List Int) : ((z.all fun x => decide (Wd.IsWord b x)) && decide (Wd.IsBits b)) = Mc.wds b z := by
  rw [decide_eq_true (Mc.mok_bits h), Bool.and_true]; rfl
theorem bitIn (z : Int) : decide (0 ≤ z ∧ z ≤ 1) = (z == 0 || z == 1) := by
  rw [Bool.eq_iff_iff]; simp; omega
set_option maxHeartbeats 4000000 in
set_option maxRecDepth 100000 in
theorem sState_any (l b : Int) (gm gs : Nat) (A : Option Addr) (n c : Nat) (V : List (List Int)) (A' : Option Addr) (n' c' : Nat) (M : List (List Int)) (A'' : Option Addr) (n'' c'' : Nat) (Y : List Int) (B B' B'' : Nat) (w : World)
    (hm : Mc.mok l b = true) (hM : McAt w gm l b) (hS : At3 w gs (.slice A n c) (.slice A' n' c') (.slice A'' n'' c'')) (tV : Ln.totL V ≤ 1048576) (tM : Ln.totL M ≤ 1048576) (tY : n'' ≤ 1048576) (hV : RdR w B A n V) (hMr : RdR w B' A' n' M) (hY : Rd w B'' A'' n'' Y) :
    Calls Try.prog 44 #[.pointer (some ⟨gm, 0, none⟩), .pointer (some ⟨gs, 0, none⟩)] w (RetB (Mc.sOk l b V M Y) w) := by
  have lV := hV.len
  have lM := hMr.len
  have lY := hY.len
  have nV : n ≤ 1048576 := by unfold Ln.totL at tV; omega
  have nM : n' ≤ 1048576 := by unfold Ln.totL at tM; omega
  have CW := Lib.hid (fun (p : BelBy w) => wds_bits hm Y ▸ sWords_any b A'' n'' c'' Y B'' p.W tY (hY.below p.h))
  have HLV := Lib.hid lV
  have HLM := Lib.hid lM
  have HLY := Lib.hid lY
  have HTV := Lib.hid tV
  have HTM := Lib.hid tM
  have HV := Lib.hid hV
  have HMR := Lib.hid hMr
  have HM := Lib.hid hM
  have HS := Lib.hid hS
  have HMO := Lib.hid hm
  have q0 := BelBy.cell hM.1
  have q1 := BelBy.cell hM.2
  have s0 := BelBy.cell hS.1
  have s1 := BelBy.cell hS.2.1
  have s2 := BelBy.cell hS.2.2
  clear hm hM hS tV tM tY hV hMr hY lV lM lY
  by_cases e1 : n = 8
  rotate_left
  · have f1 : ((n : Int) != 8) = true := by simp; omega
    have HR := Lib.hid (Mc.sOk_V (l := l) (b := b) (V := V) (M := M) (Y := Y) (by rw [HLV.out, decide_eq_false e1]; rfl))
    clear e1 CW
    go_enter Try.func44, Try.ntmps44
    go_wp2
    refine wp_region_quiet_bel (by kernel_rfl) (by kernel_rfl) ?_
    repeat (go_big_quiet_step (fail))
    refine wpQuiet_nil ?_
    rintro _ ⟨⟨wq, hwq⟩, rfl⟩
    go_wp2
    go_ret
    exact ⟨ret_bool HR.out.symm, hwq⟩
  by_cases e2 : n' = 4
  rotate_left
  · have f1 : ((n : Int) != 8) = false := by simp; omega
    have f2 : ((n' : Int) != 4) = true := by simp; omega
    have HR := Lib.hid (Mc.sOk_M (l := l) (b := b) (V := V) (M := M) (Y := Y) (by rw [HLM.out, decide_eq_false e2]; rfl))
    clear e1 e2 CW
    go_enter Try.func44, Try.ntmps44
    go_wp2
    refine wp_region_quiet_bel (by kernel_rfl) (by kernel_rfl) ?_
    repeat (go_big_quiet_step (fail))
    refine wpQuiet_nil ?_
    rintro _ ⟨⟨wq, hwq⟩, rfl⟩
    go_wp2
    go_ret
    exact ⟨ret_bool HR.out.symm, hwq⟩
  by_cases e3 : n'' = 64
  rotate_left
  · have f1 : ((n : Int) != 8) = false := by simp; omega
    have f2 : ((n' : Int) != 4) = false := by simp; omega
    have f3 : ((n'' : Int) != 64) = true := by simp; omega
    have HR := Lib.hid (Mc.sOk_mem (l := l) (b := b) (V := V) (M := M) (Y := Y) (by unfold Mc.memOk; rw [HLY.out, decide_eq_false e3]; rfl))
    clear e1 e2 e3 CW
    go_enter Try.func44, Try.ntmps44
    go_wp2
    refine wp_region_quiet_bel (by kernel_rfl) (by kernel_rfl) ?_
    repeat (go_big_quiet_step (fail))
    refine wpQuiet_nil ?_
    rintro _ ⟨⟨wq, hwq⟩, rfl⟩
    go_wp2
    go_ret
    exact ⟨ret_bool HR.out.symm, hwq⟩
  subst e1; subst e2; subst e3
  obtain ⟨ww, hww⟩ : ∃ x, x = Mc.wds b Y := ⟨_, rfl⟩
  rw [← hww] at CW
  have HWW := Lib.hid hww
  clear hww
  cases ww
  · have HR := Lib.hid (Mc.sOk_mem (l := l) (b := b) (V := V) (M := M) (Y := Y) (by unfold Mc.memOk; rw [← HWW.out]; simp))
    go_enter Try.func44, Try.ntmps44
    go_wp2
    refine wp_region_quiet_bel (by kernel_rfl) (by kernel_rfl) ?_
    repeat (go_big_quiet_step ((go_at_call 51; exact calls_bel (CW.out _))))
    refine wpQuiet_nil ?_
    rintro _ ⟨⟨wq, hwq⟩, rfl⟩
    go_wp2
    go_ret
    exact ⟨ret_bool HR.out.symm, hwq⟩
  · have HMEM := Lib.hid (show Mc.memOk b Y = true by unfold Mc.memOk; rw [← HWW.out, HLY.out]; rfl)
    clear HWW
    go_enter Try.func44, Try.ntmps44
    go_wp2
    refine wp_region_quiet_bel (by kernel_rfl) (by kernel_rfl) ?_
    repeat (go_big_quiet_step ((go_at_call 51; exact calls_bel (CW.out _))))
    refine wpQuiet_nil ?_
    rintro w1 ⟨⟨_, hw1⟩, rfl⟩
    have HB1 : Hid (Below w.heap.size w w1) := hw1
    clear CW hw1 q0 q1 s0 s1 s2
    go_wp2
    go_loopw [5] (fun i wr => ∃ k : Nat, k ≤ 8 ∧ i = .int .i64 k ∧ (V.take k).all (Mc.vecR l b) = true ∧ Below w.heap.size w wr) (fun i _ => 8 - (intOf i).toNat)
    case atStart => exact ⟨0, Nat.zero_le _, rfl, by simp, HB1.out⟩
    case round =>
      rename World => wr
      obtain ⟨k, hk, rfl, hall, hb⟩ := hrel
      obtain ⟨hm0, hm1⟩ := HM.out.below hb
      obtain ⟨hs0, hs1, hs2⟩ := HS.out.below hb
      by_cases hlt : k < 8
      · obtain ⟨g, o, R, m, cm, rfl, hg, hc, _, hr⟩ := (HV.out.below hb).at_ hlt
        have hz := hr.len
        have hsn := Mc.allR_snoc (Mc.vecR l b) V k (by rw [HLV.out]; exact hlt)
        rw [hall, Bool.true_and] at hsn
        have hno := fun h => Mc.allR_not (p := Mc.vecR l b) (zs := V) (k := k) (by rw [HLV.out]; exact hlt) h
        have hmm : m ≤ 1048576 := by
          have h1 := Ln.row_le V k (by rw [HLV.out]; exact hlt)
          have h3 := HTV.out
          unfold Ln.totL at h3
          omega
        obtain ⟨z, hz2⟩ : ∃ z, z = V.getD k [] := ⟨_, rfl⟩
        rw [← hz2] at hr hz hsn hno
        have CR := Lib.hid (fun (p : BelBy wr) => wds_bits HMO.out z ▸ sWords_any b R m cm z B p.W hmm (hr.below p.h))
        have HB := Lib.hid hb
        have HSN := Lib.hid hsn
        have HNO := Lib.hid hno
        have HZ := Lib.hid hz
        have q0 := BelBy.cell hm0
        have q1 := BelBy.cell hm1
        have s0 := BelBy.cell hs0
        have r0 := BelBy.cell hc
        clear hall hb hr hz hsn hno hz2
        have i1 : (0 : Int) ≤ (k : Int) := by omega
        have i2 : (k : Int) < 8 := by omega
        by_cases hml : (m : Int) = l
        · have f1 : ((m : Int) != l) = false := by simp; omega
          have HML := Lib.hid hml
          clear hml
          obtain ⟨ww, hww⟩ : ∃ x, x = Mc.wds b z := ⟨_, rfl⟩
          rw [← hww] at CR
          have HWW := Lib.hid hww
          clear hww
          cases ww
          · clear hs1 hs2
            go_wp2
            refine wp_region_quiet_bel (by kernel_rfl) (by kernel_rfl) ?_
            repeat (go_big_quiet_step ((go_at_call 51; exact calls_bel (CR.out _))))
            refine wpQuiet_nil ?_
            rintro _ ⟨⟨wq, hwq⟩, rfl⟩
            go_wp2
            go_ret
            refine ⟨ret_bool (Mc.sOk_V ?_).symm, HB.out.trans (hwq.mono HB.out.size)⟩
            rw [HNO.out (by unfold Mc.vecR; rw [← HWW.out]; simp), Bool.and_false]
          · clear hs1 hs2
            go_wp2
            refine wp_region_quiet_bel (by kernel_rfl) (by kernel_rfl) ?_
            repeat (go_big_quiet_step ((go_at_call 51; exact calls_bel (CR.out _))))
            refine wpQuiet_nil ?_
            rintro _ ⟨⟨wq, hwq⟩, rfl⟩
            go_wp2
            go_roundw
            case rel => exact ⟨k + 1, by omega, by go_num, by rw [HSN.out]; unfold Mc.vecR; rw [← HWW.out, HZ.out, decide_eq_true HML.out]; rfl, HB.out.trans (hwq.mono HB.out.size)⟩
            case measure => simp [intOf]; omega
        · have f1 : ((m : Int) != l) = true := by simp; omega
          have HML := Lib.hid hml
          clear hml hs1 hs2 CR
          go_wp2
          refine wp_region_quiet_bel (by kernel_rfl) (by kernel_rfl) ?_
          repeat (go_big_quiet_step (fail))
          refine wpQuiet_nil ?_
          rintro _ ⟨⟨wq, hwq⟩, rfl⟩
          go_wp2
          go_ret
          refine ⟨ret_bool (Mc.sOk_V ?_).symm, HB.out.trans (hwq.mono HB.out.size)⟩
          rw [HNO.out (by unfold Mc.vecR; rw [HZ.out, decide_eq_false HML.out]; rfl), Bool.and_false]
      · have hkn : k = 8 := by omega
        subst hkn
        have HVV := Lib.hid (Mc.allR_end (p := Mc.vecR l b) (zs := V) (k := 8) (by rw [HLV.out]; exact Nat.le_refl _) hall)
        have HB2 := Lib.hid hb
        clear hall hb hm0 hm1 hs2
        go_wp2
        go_loopw [6, 7] (fun i _ wr => ∃ k : Nat, k ≤ 4 ∧ i = .int .i64 k ∧ (M.take k).all (Mc.mskR l) = true ∧ Below w.heap.size w wr) (fun i _ _ => 4 - (intOf i).toNat)
        case atStart => exact ⟨0, Nat.zero_le _, rfl, by simp, HB2.out⟩
        case round =>
          rename World => wo
          clear hs0 hs1
          obtain ⟨k, hk, rfl, hall, hb⟩ := hrel
          obtain ⟨hm0, _⟩ := HM.out.below hb
          obtain ⟨_, hs1, _⟩ := HS.out.below hb
          by_cases hlt : k < 4
          · obtain ⟨g, o, R, m, cm, rfl, hg, hc, _, hr⟩ := (HMR.out.below hb).at_ hlt
            have hz := hr.len
            have hsn := Mc.allR_snoc (Mc.mskR l) M k (by rw [HLM.out]; exact hlt)
            rw [hall, Bool.true_and] at hsn
            have hno := fun h => Mc.allR_not (p := Mc.mskR l) (zs := M) (k := k) (by rw [HLM.out]; exact hlt) h
            have hmm : m ≤ 1048576 := by
              have h1 := Ln.row_le M k (by rw [HLM.out]; exact hlt)
              have h3 := HTM.out
              unfold Ln.totL at h3
              omega
            obtain ⟨z, hz2⟩ : ∃ z, z = M.getD k [] := ⟨_, rfl⟩
            rw [← hz2] at hr hz hsn hno
            have HRR := Lib.hid hr
            have HB := Lib.hid hb
            have HSN := Lib.hid hsn
            have HNO := Lib.hid hno
            have HZ := Lib.hid hz
            have HC := Lib.hid hc
            have q0 := BelBy.cell hm0
            have s0 := BelBy.cell hs1
            have r0 := BelBy.cell hc
            clear hall hb hr hz hsn hno hz2
            have i1 : (0 : Int) ≤ (k : Int) := by omega
            have i2 : (k : Int) < 4 := by omega
            by_cases hml : (m : Int) = l
            · have f1 : ((m : Int) != l) = false := by simp; omega
              have HML := Lib.hid hml
              clear hml
              go_wp2
              refine wp_region_quiet_bel (by kernel_rfl) (by kernel_rfl) ?_
              repeat (go_big_quiet_step (fail))
              refine wpQuiet_nil ?_
              rintro w3 ⟨⟨_, hw3⟩, rfl⟩
              have HB3 : Hid (Below wo.heap.size wo w3) := hw3
              clear q0 s0 r0 hm0 hs1 hc hw3 f1
              go_wp2
              go_loopw [7] (fun i wr => ∃ j : Nat, j ≤ m ∧ i = .int .i64 j ∧ (z.take j).all (fun x => x == 0 || x == 1) = true ∧ Below wo.heap.size wo wr) (fun i _ => m - (intOf i).toNat)
              case atStart => exact ⟨0, Nat.zero_le _, rfl, by simp, HB3.out⟩
              case round =>
                rename World => wi
                obtain ⟨j, hj, rfl, hall, hb⟩ := hrel
                have HBI := Lib.hid (HB.out.trans (hb.mono HB.out.size))
                obtain ⟨_, hs1, _⟩ := HS.out.below HBI.out
                have hc := later HC.out hb
                by_cases hlt2 : j < m
                · obtain ⟨g2, o2, rfl, hg2, hx⟩ := (HRR.out.below hb).at_ hlt2
                  have hsn := Ln.all_snoc (fun x => x == 0 || x == 1) z j (by rw [HZ.out]; exact hlt2)
                  rw [hall, Bool.true_and] at hsn
                  have hbi := bitIn (z.getD j 0)
                  have HB4 := Lib.hid hb
                  have j1 : (0 : Int) ≤ (j : Int) := by omega
                  have j2 : (j : Int) < (m : Int) := by omega
                  by_cases hw : (z.getD j 0 == 0 || z.getD j 0 == 1) = true
                  · rw [hw] at hsn hbi
                    obtain ⟨x, hx2⟩ : ∃ x, x = z.getD j 0 := ⟨_, rfl⟩
                    rw [← hx2] at hx hbi
                    have HX := Lib.hid (of_decide_eq_true hbi)
                    have HSN2 := Lib.hid hsn
                    clear hall hb hsn hbi hx2 hw
                    go_wp2_with (go_at_call 67; refine (in_yes _ _ _ _ HX.out).mono ?_; rintro e w' ⟨rfl, rfl⟩)
                    go_roundw
                    case rel => first | exact ⟨j + 1, by omega, by go_num, HSN2.out, HB4.out⟩ | ((repeat apply Exists.intro); exact ⟨⟨j + 1, by omega, by go_num, HSN2.out, HB4.out⟩, rfl⟩)
                    case measure => simp [intOf]; omega
                  · have hw' : (z.getD j 0 == 0 || z.getD j 0 == 1) = false := by simpa using hw
                    have hno2 : (z.all fun x => x == 0 || x == 1) = false := Ln.all_not (p := fun x => x == 0 || x == 1) (k := j) (by rw [HZ.out]; exact hlt2) hw'
                    rw [hw'] at hbi
                    obtain ⟨x, hx2⟩ : ∃ x, x = z.getD j 0 := ⟨_, rfl⟩
                    rw [← hx2] at hx hbi
                    have HX := Lib.hid (of_decide_eq_false hbi)
                    have HN2 := Lib.hid hno2
                    clear hall hb hsn hbi hx2 hw hw' hno2
                    go_wp2_with (go_at_call 67; refine (in_no _ _ _ _ HX.out).mono ?_; rintro e w' ⟨rfl, rfl⟩)
                    go_ret
                    refine ⟨ret_bool (Mc.sOk_M ?_).symm, HBI.out⟩
                    rw [HNO.out (by unfold Mc.mskR Mc.bts; rw [HN2.out, Bool.and_false]), Bool.and_false]
                · have hkm : j = m := by omega
                  subst hkm
                  have HAL := Lib.hid (Ln.all_end (p := fun x => x == 0 || x == 1) (zs := z) (k := j) (by rw [HZ.out]; exact Nat.le_refl _) hall)
                  clear hall hb
                  go_wp2
                  go_roundw
                  case rel => exact ⟨k + 1, by omega, by go_num, by rw [HSN.out]; unfold Mc.mskR Mc.bts; rw [HAL.out, HZ.out, decide_eq_true HML.out]; rfl, HBI.out⟩
                  case measure => simp [intOf]; omega
            · have f1 : ((m : Int) != l) = true := by simp; omega
              have HML := Lib.hid hml
              clear hml
              go_wp2
              refine wp_region_quiet_bel (by kernel_rfl) (by kernel_rfl) ?_
              repeat (go_big_quiet_step (fail))
              refine wpQuiet_nil ?_
              rintro _ ⟨⟨wq, hwq⟩, rfl⟩
              go_wp2
              go_ret
              refine ⟨ret_bool (Mc.sOk_M ?_).symm, HB.out.trans (hwq.mono HB.out.size)⟩
              rw [HNO.out (by unfold Mc.mskR; rw [HZ.out, decide_eq_false HML.out]; rfl), Bool.and_false]
          · have hkn : k = 4 := by omega
            subst hkn
            have HMM := Lib.hid (Mc.allR_end (p := Mc.mskR l) (zs := M) (k := 4) (by rw [HLM.out]; exact Nat.le_refl _) hall)
            have HB3 := Lib.hid hb
            clear hall hb hm0
            go_wp2
            go_ret
            exact ⟨ret_bool (Mc.sOk_all HMEM.out HLV.out HVV.out HLM.out HMM.out).symm, HB3.out⟩
end Go.Proofs.Ytkdgnadidmagdaa.Wds
