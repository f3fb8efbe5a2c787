/-
  The bound of a port, and the greatest one: the code's functions and the model's, one contract each.
-/
import Derived.Test.YtafmpjlelpkdaaaVTask2
import Derived.Test.YtafmpjlelpkdaaaMaxM
import Derived.Test.YtafmpjlelpkdaaaPrM
namespace Go.Proofs.Ytafmpjlelpkdaaa.Wds
open Go.RowKit
set_option linter.unusedVariables false

set_option maxHeartbeats 1000000 in
theorem boundOf_any (q : Int) (A : Option Addr) (n c : Nat) (ts : List Tk.T) (B : Nat) (w : World) (hv : Tk.valid ts = true) (h : RdT w B A n ts) :
    Calls Try.prog 72 #[.int .i64 q, .slice A n c] w fun e w' => e = .returned (.int .i64 (Tk.boundOf ts q)) ∧ Below w.heap.size w w' := by
  have hl := h.len
  have h8 : n ≤ 8 := by rw [← hl]; exact Tk.len_of_valid hv
  have HV := Lib.hid hv
  have HL := Lib.hid hl
  have H := Lib.hid h; clear h hl hv
  go_enter Try.func72, Try.ntmps72
  go_wp2
  go_loopw [5, 6, 11] (fun cv lv i wr => ∃ k : Nat, k ≤ n ∧ i = .int .i64 k ∧ cv = .int .i64 (Tk.portAt ts q k).1 ∧ lv = .int .i64 (Tk.portAt ts q k).2 ∧ Below w.heap.size w wr) (fun _ _ i _ => n - (intOf i).toNat)
  case atStart => exact ⟨0, Nat.zero_le _, rfl, rfl, rfl, Below.refl _ _⟩
  case round =>
    rename World => wo
    obtain ⟨k, hk, rfl, rfl, rfl, hb⟩ := hrel
    have hbd := Tk.portAt_bd HV.out q k (by rw [HL.out]; exact hk)
    by_cases hlt : k < n
    · obtain ⟨g, o, R, m, cm, rfl, hg, hc, hmc, hr⟩ := (H.out.below hb).at_ hlt
      have HN := Lib.hid (show Tk.portAt ts q (k + 1) = if (Tk.nth ts k).p = q then ((Tk.portAt ts q k).1 + 1, min (Tk.portAt ts q k).2 (Tk.nth ts k).l) else Tk.portAt ts q k by rw [Tk.portAt])
      have hl6 := (Tk.tok_parts (Tk.tok_of_valid HV.out (k := k) (by rw [HL.out]; exact hlt))).2.1
      obtain ⟨tk, htk⟩ : ∃ x, x = Tk.nth ts k := ⟨_, rfl⟩
      rw [← htk] at hc HN hl6
      obtain ⟨tp, tl, tz⟩ := tk
      obtain ⟨c0, c1, c2⟩ := hc
      simp only at c0 c1 c2 HN hl6
      obtain ⟨cv, hcv⟩ : ∃ x, x = (Tk.portAt ts q k).1 := ⟨_, rfl⟩
      obtain ⟨lv, hlv⟩ : ∃ x, x = (Tk.portAt ts q k).2 := ⟨_, rfl⟩
      rw [← hcv, ← hlv] at hbd ⊢
      have HC := Lib.hid (And.intro hcv hlv)
      have j0 : 0 ≤ cv := hbd.1
      have j1 : cv ≤ 8 := by omega
      have j2 : 1 ≤ lv := hbd.2.2.1
      have j3 : lv ≤ 6 := hbd.2.2.2
      have j4 : 1 ≤ tl := hl6.1
      have j5 : tl ≤ 6 := hl6.2
      have i1 : (0 : Int) ≤ (k : Int) := by omega
      have i2 : (k : Int) < (n : Int) := by omega
      have hk0 := BlkT.new wo #[.int .i64 tp, .int .i64 tl, .slice R m cm]
      have p1 := BelBy.cell (hk0.cell 1)
      have HB := Lib.hid (hb.alloc hb.size (.cells #[.int .i64 tp, .int .i64 tl, .slice R m cm] 37))
      clear hb htk hmc hr hcv hlv hbd hl6 hk0
      by_cases he : tp = q
      · have HN2 := Lib.hid (show Tk.portAt ts q (k + 1) = (cv + 1, min lv tl) by rw [HN.out, if_pos he, HC.out.1, HC.out.2])
        subst he
        have hs : IntKind.i64.wrap (cv + 1) = cv + 1 := IntWalk.i64_in _ (by omega)
        go_wp2
        refine wp_region_quiet_bel (by kernel_rfl) (by kernel_rfl) ?_
        repeat (go_big_quiet_step (fail))
        refine wpQuiet_nil ?_
        rintro _ ⟨⟨wq, hwq⟩, rfl⟩
        go_wp2
        go_roundw
        case rel => exact ⟨k + 1, by omega, by go_num, by rw [HN2.out], by rw [HN2.out]; congr 1; omega, HB.out.trans (hwq.mono HB.out.size)⟩
        case measure => simp [intOf]; omega
      · have HN2 := Lib.hid (show Tk.portAt ts q (k + 1) = (cv, lv) by rw [HN.out, if_neg he, HC.out.1, HC.out.2])
        have d1 : (tp == q) = false := beq_eq_false_iff_ne.2 he
        have d2 : decide (tp = q) = false := decide_eq_false he
        clear he p1
        go_wp2
        go_roundw
        case rel => exact ⟨k + 1, by omega, by go_num, by rw [HN2.out], by rw [HN2.out], HB.out⟩
        case measure => simp [intOf]; omega
    · have hkn : k = n := by omega
      subst hkn
      have HF := Lib.hid (show Tk.boundOf ts q = if (Tk.portAt ts q k).1 = 0 then 0 else (Tk.portAt ts q k).1 + (Tk.portAt ts q k).2 - 1 by rw [Tk.boundOf, HL.out])
      obtain ⟨cv, hcv⟩ : ∃ x, x = (Tk.portAt ts q k).1 := ⟨_, rfl⟩
      obtain ⟨lv, hlv⟩ : ∃ x, x = (Tk.portAt ts q k).2 := ⟨_, rfl⟩
      rw [← hcv, ← hlv] at hbd HF ⊢
      have HB := Lib.hid hb; clear hb hcv hlv
      have j0 : 0 ≤ cv := hbd.1
      have j1 : cv ≤ 8 := by omega
      have j2 : 1 ≤ lv := hbd.2.2.1
      have j3 : lv ≤ 6 := hbd.2.2.2
      clear hbd
      by_cases h0 : cv = 0
      · have HF2 := Lib.hid (show 0 = Tk.boundOf ts q by rw [HF.out, if_pos h0])
        subst h0
        go_wp2
        go_ret
        exact ⟨ret_i HF2.out, HB.out⟩
      · have HF2 := Lib.hid (show cv + lv - 1 = Tk.boundOf ts q by rw [HF.out, if_neg h0])
        have d1 : (cv == 0) = false := beq_eq_false_iff_ne.2 h0
        have d2 : decide (cv = 0) = false := decide_eq_false h0
        have d3 : 0 ≤ cv + lv := by omega
        have d4 : 1 ≤ cv + lv := by omega
        clear h0
        go_wp2
        go_ret
        exact ⟨ret_i HF2.out, HB.out⟩
theorem bounds_bd {ts : List Tk.T} (hv : Tk.valid ts = true) (q : Nat) : 0 ≤ Tk.bounds ts q ∧ Tk.bounds ts q ≤ 14 := by
  induction q with
  | zero => simp [Tk.bounds]
  | succ q ih => rw [Tk.bounds]; have := Tk.boundOf_bd hv q; omega
set_option maxHeartbeats 1000000 in
theorem iPortBound_any (A : Option Addr) (n c : Nat) (ts : List Tk.T) (B : Nat) (w : World) (hn : Ln.totL (Tk.nss ts) ≤ 1048576) (h : RdT w B A n ts) :
    Calls Try.prog 24 #[.slice A n c] w (RetIB (Tk.portBound ts).1 (Tk.portBound ts).2 w) := by
  have CV := Lib.hid (iValidTasks_any A n c ts B w hn h)
  obtain ⟨v, hv⟩ : ∃ z, z = Tk.valid ts := ⟨_, rfl⟩
  unfold Tk.portBound
  rw [← hv] at CV ⊢
  have H := Lib.hid h; clear h
  cases v
  · clear hv
    go_enter Try.func24, Try.ntmps24
    go_wp2_with fail
    refine CV.out.mono ?_
    rintro e w1 ⟨rfl, hb⟩
    have HB := Lib.hid hb; clear hb
    go_wp2
    go_ret2
    exact ⟨rfl, HB.out⟩
  · rw [if_pos rfl]
    have HV := Lib.hid hv.symm; clear hv
    go_enter Try.func24, Try.ntmps24
    go_wp2_with fail
    refine CV.out.mono ?_
    rintro e w1 ⟨rfl, hb⟩
    have H1 := Lib.hid (H.out.below hb)
    have HB := Lib.hid hb; clear hb
    go_wp2_with fail
    go_loopw [4, 9] (fun v i wr => ∃ k : Nat, k ≤ 3 ∧ i = .int .i64 k ∧ v = .int .i64 (Tk.bounds ts k) ∧ Below w1.heap.size w1 wr) (fun _ i _ => 3 - (intOf i).toNat)
    case atStart => exact ⟨0, Nat.zero_le _, rfl, rfl, Below.refl _ _⟩
    case round =>
      obtain ⟨k, hk, rfl, rfl, hb⟩ := hrel
      have hbd := bounds_bd HV.out k
      have hbo := Tk.boundOf_bd HV.out (k : Int)
      have HN := Lib.hid (show Tk.bounds ts (k + 1) = max (Tk.bounds ts k) (Tk.boundOf ts k) by rw [Tk.bounds])
      by_cases hlt : k < 3
      · have CB := Lib.hid (boundOf_any (k : Int) A n c ts B _ HV.out (H1.out.below hb))
        obtain ⟨bv, hbv⟩ : ∃ x, x = Tk.bounds ts k := ⟨_, rfl⟩
        obtain ⟨ov, hov⟩ : ∃ x, x = Tk.boundOf ts (k : Int) := ⟨_, rfl⟩
        rw [← hbv] at hbd HN ⊢
        rw [← hov] at CB HN hbo
        have HB2 := Lib.hid hb; clear hb hbv hov
        have j0 : 0 ≤ bv := hbd.1
        have j1 : bv ≤ 14 := hbd.2
        have j2 : 0 ≤ ov := hbo.1
        have j3 : ov ≤ 14 := hbo.2
        have i1 : (0 : Int) ≤ (k : Int) := by omega
        have i2 : (k : Int) < 3 := by omega
        clear hbd hbo
        go_wp2_with fail
        refine CB.out.mono ?_
        rintro e w2 ⟨rfl, hb2⟩
        have HB3 := Lib.hid (HB2.out.trans (hb2.mono HB2.out.size)); clear hb2
        go_wp2
        go_roundw
        case rel => exact ⟨k + 1, by omega, by go_num, by rw [HN.out]; congr 1; omega, HB3.out⟩
        case measure => simp [intOf]; omega
      · obtain rfl : k = 3 := by omega
        have HB2 := Lib.hid (HB.out.trans (hb.mono HB.out.size)); clear hb hbd hbo
        go_wp2
        go_ret2
        exact ⟨rfl, HB2.out⟩
set_option maxHeartbeats 2000000 in
theorem sPortBound_any (A : Option Addr) (n c : Nat) (ts : List Tk.T) (B : Nat) (w : World) (hn : Ln.totL (Tk.nss ts) ≤ 1048576) (h : RdT w B A n ts) :
    Calls Try.prog 43 #[.slice A n c] w (RetIB (Tk.portBound ts).1 (Tk.portBound ts).2 w) := by
  have CV := Lib.hid (sIsT_any A n c ts B w hn h)
  obtain ⟨v, hv⟩ : ∃ z, z = Tk.valid ts := ⟨_, rfl⟩
  have hl := h.len
  unfold Tk.portBound
  rw [← hv] at CV ⊢
  have HL := Lib.hid hl; clear hl
  have H := Lib.hid h; clear h
  cases v
  · clear hv
    go_enter Try.func43, Try.ntmps43
    go_wp2_with fail
    refine CV.out.mono ?_
    rintro e w1 ⟨rfl, hb⟩
    have HB := Lib.hid hb; clear hb
    go_wp2
    go_ret2
    exact ⟨rfl, HB.out⟩
  · rw [if_pos rfl]
    have h8 : n ≤ 8 := by rw [← HL.out]; exact Tk.len_of_valid hv.symm
    have HV := Lib.hid hv.symm; clear hv
    go_enter Try.func43, Try.ntmps43
    go_wp2_with fail
    refine CV.out.mono ?_
    rintro e w1 ⟨rfl, hb⟩
    have H1 := Lib.hid (H.out.below hb)
    have HB := Lib.hid hb; clear hb
    go_wp2_with fail
    go_loopw [4, 5] (fun v i wr => ∃ k : Nat, k ≤ 3 ∧ i = .int .i64 k ∧ v = .int .i64 (Tk.bounds ts k) ∧ Below w1.heap.size w1 wr) (fun _ i _ => 3 - (intOf i).toNat)
    case atStart => exact ⟨0, Nat.zero_le _, rfl, rfl, Below.refl _ _⟩
    case round =>
      rename World => wo
      obtain ⟨q, hq, rfl, rfl, hb⟩ := hrel
      have hbd := bounds_bd HV.out q
      have HN := Lib.hid (show Tk.bounds ts (q + 1) = max (Tk.bounds ts q) (Tk.boundOf ts q) by rw [Tk.bounds])
      by_cases hltq : q < 3
      · obtain ⟨bv, hbv⟩ : ∃ x, x = Tk.bounds ts q := ⟨_, rfl⟩
        rw [← hbv] at hbd HN ⊢
        have j0 : 0 ≤ bv := hbd.1
        have j1 : bv ≤ 14 := hbd.2
        have q1 : (0 : Int) ≤ (q : Int) := by omega
        have q2 : (q : Int) < 3 := by omega
        have H2 := Lib.hid (H1.out.below hb)
        have HB2 := Lib.hid hb
        clear hb hbv hbd
        go_wp2
        go_loopw [6, 7, 8] (fun cv lv i wr => ∃ k : Nat, k ≤ n ∧ i = .int .i64 k ∧ cv = .int .i64 (Tk.portAt ts q k).1 ∧ lv = .int .i64 (Tk.portAt ts q k).2 ∧ Below wo.heap.size wo wr) (fun _ _ i _ => n - (intOf i).toNat)
        case atStart => exact ⟨0, Nat.zero_le _, rfl, rfl, rfl, Below.refl _ _⟩
        case round =>
          rename World => wi
          obtain ⟨k, hk, rfl, rfl, rfl, hb⟩ := hrel
          have hbd := Tk.portAt_bd HV.out q k (by rw [HL.out]; exact hk)
          by_cases hlt : k < n
          · obtain ⟨g, o, R, m, cm, rfl, hg, hc, hmc, hr⟩ := (H2.out.below hb).at_ hlt
            have HN3 := Lib.hid (show Tk.portAt ts q (k + 1) = if (Tk.nth ts k).p = q then ((Tk.portAt ts q k).1 + 1, min (Tk.portAt ts q k).2 (Tk.nth ts k).l) else Tk.portAt ts q k by rw [Tk.portAt])
            have hl6 := (Tk.tok_parts (Tk.tok_of_valid HV.out (k := k) (by rw [HL.out]; exact hlt))).2.1
            obtain ⟨tk, htk⟩ : ∃ x, x = Tk.nth ts k := ⟨_, rfl⟩
            rw [← htk] at hc HN3 hl6
            obtain ⟨tp, tl, tz⟩ := tk
            obtain ⟨c0, c1, c2⟩ := hc
            simp only at c0 c1 c2 HN3 hl6
            obtain ⟨cv, hcv⟩ : ∃ x, x = (Tk.portAt ts q k).1 := ⟨_, rfl⟩
            obtain ⟨lv, hlv⟩ : ∃ x, x = (Tk.portAt ts q k).2 := ⟨_, rfl⟩
            rw [← hcv, ← hlv] at hbd ⊢
            have HC := Lib.hid (And.intro hcv hlv)
            have j2 : 0 ≤ cv := hbd.1
            have j3 : cv ≤ 8 := by omega
            have j4 : 1 ≤ lv := hbd.2.2.1
            have j5 : lv ≤ 6 := hbd.2.2.2
            have j6 : 1 ≤ tl := hl6.1
            have j7 : tl ≤ 6 := hl6.2
            have i1 : (0 : Int) ≤ (k : Int) := by omega
            have i2 : (k : Int) < (n : Int) := by omega
            have HB3 := Lib.hid hb
            clear hb htk hmc hr hcv hlv hbd hl6
            by_cases he : tp = (q : Int)
            · have HN2 := Lib.hid (show Tk.portAt ts q (k + 1) = (cv + 1, min lv tl) by rw [HN3.out, if_pos he, HC.out.1, HC.out.2])
              subst he
              go_wp2_with fail
              refine (minM_any _ _ _).mono ?_
              rintro e w2 ⟨rfl, rfl⟩
              go_wp2
              go_roundw
              case rel => exact ⟨k + 1, by omega, by go_num, by rw [HN2.out], by rw [HN2.out], HB3.out⟩
              case measure => simp [intOf]; omega
            · have HN2 := Lib.hid (show Tk.portAt ts q (k + 1) = (cv, lv) by rw [HN3.out, if_neg he, HC.out.1, HC.out.2])
              have d1 : (tp == (q : Int)) = false := beq_eq_false_iff_ne.2 he
              have d2 : decide (tp = (q : Int)) = false := decide_eq_false he
              clear he
              go_wp2
              go_roundw
              case rel => exact ⟨k + 1, by omega, by go_num, by rw [HN2.out], by rw [HN2.out], HB3.out⟩
              case measure => simp [intOf]; omega
          · have hkn : k = n := by omega
            subst hkn
            have HF := Lib.hid (show Tk.boundOf ts q = if (Tk.portAt ts q k).1 = 0 then 0 else (Tk.portAt ts q k).1 + (Tk.portAt ts q k).2 - 1 by rw [Tk.boundOf, HL.out])
            obtain ⟨cv, hcv⟩ : ∃ x, x = (Tk.portAt ts q k).1 := ⟨_, rfl⟩
            obtain ⟨lv, hlv⟩ : ∃ x, x = (Tk.portAt ts q k).2 := ⟨_, rfl⟩
            rw [← hcv, ← hlv] at hbd HF ⊢
            have HB3 := Lib.hid (HB2.out.trans (hb.mono HB2.out.size)); clear hb hcv hlv
            have j2 : 0 ≤ cv := hbd.1
            have j3 : cv ≤ 8 := by omega
            have j4 : 1 ≤ lv := hbd.2.2.1
            have j5 : lv ≤ 6 := hbd.2.2.2
            clear hbd
            by_cases h0 : cv = 0
            · have HF2 := Lib.hid (show Tk.bounds ts (q + 1) = bv by rw [HN.out, HF.out, if_pos h0]; omega)
              subst h0
              go_wp2
              go_roundw
              case rel => exact ⟨q + 1, by omega, by go_num, by rw [HF2.out], HB3.out⟩
              case measure => simp [intOf]; omega
            · have HF2 := Lib.hid (show Tk.bounds ts (q + 1) = max bv (cv + lv - 1) by rw [HN.out, HF.out, if_neg h0])
              have d1 : decide (0 < cv) = true := decide_eq_true (by omega)
              have d2 : 0 < cv := by omega
              have d3 : 0 ≤ cv + lv := by omega
              have d4 : 1 ≤ cv + lv := by omega
              clear h0
              go_wp2_with fail
              refine (maxM_any _ _ _).mono ?_
              rintro e w2 ⟨rfl, rfl⟩
              go_wp2
              go_roundw
              case rel => exact ⟨q + 1, by omega, by go_num, by rw [HF2.out], HB3.out⟩
              case measure => simp [intOf]; omega
      · obtain rfl : q = 3 := by omega
        have HB2 := Lib.hid (HB.out.trans (hb.mono HB.out.size)); clear hb hbd
        go_wp2
        go_ret2
        exact ⟨rfl, HB2.out⟩
end Go.Proofs.Ytafmpjlelpkdaaa.Wds
