/-
  Halving a vector: the code's function and the model's; one contract each.
-/
import Derived.Test.YteggioppoldaaaaGreatDoorLWise
import Derived.Test.YteggioppoldaaaaGreatDoorLan7
import Derived.Test.YteggioppoldaaaaGreatDoorSld
namespace Go.Proofs.YteggioppoldaaaaGreatDoor.Wds
open Go.RowKit Go.Proofs.YteggioppoldaaaaGreatDoor.Err
set_option linter.unusedVariables false

theorem half_of (op b : Int) (zs : List Int) (m : Nat) (hm : m + m ≤ zs.length) : Ln.tab (fun i => Wd.doOp op b (((zs.drop 0).take m).getD i 0) (((zs.drop m).take m).getD i 0)) m = Ln.half1 op b zs m := by
  unfold Ln.half1
  refine Ln.tab_congr fun i hi => ?_
  rw [List.drop_zero, List.getD_eq_getElem?_getD, List.getElem?_take_of_lt hi, ← List.getD_eq_getElem?_getD, List.getD_eq_getElem?_getD (l := (zs.drop m).take m), List.getElem?_take_of_lt hi, List.getElem?_drop, ← List.getD_eq_getElem?_getD]
theorem cut_words {b : Int} {zs : List Int} {m : Nat} (hw : ∀ k, k < m + m → Wd.IsWord b (zs.getD k 0)) : (∀ k, k < m → Wd.IsWord b (((zs.drop 0).take m).getD k 0)) ∧ (∀ k, k < m → Wd.IsWord b (((zs.drop m).take m).getD k 0)) := by
  refine ⟨fun k hk => ?_, fun k hk => ?_⟩
  · rw [List.drop_zero, List.getD_eq_getElem?_getD, List.getElem?_take_of_lt hk, ← List.getD_eq_getElem?_getD]
    exact hw k (by omega)
  · rw [List.getD_eq_getElem?_getD, List.getElem?_take_of_lt hk, List.getElem?_drop, ← List.getD_eq_getElem?_getD]
    exact hw (m + k) (by omega)
/-- The relation of the loop that halves: what is left comes to the same. -/
def Halving (op b R : Int) (w : World) (v : Value) (wr : World) : Prop :=
  ∃ (f n c B : Nat) (g o : Nat) (zs : List Int), v = .slice (some ⟨g, o, none⟩) n c ∧ n = 2 ^ f ∧ f ≤ 4 ∧ n ≤ c ∧ Rd wr B (some ⟨g, o, none⟩) n zs ∧ (∀ k, k < n → Wd.IsWord b (zs.getD k 0)) ∧ Ln.red op b f zs = R ∧ Below w.heap.size w wr
theorem halving_step {op b R : Int} {w wr w' : World} {f c2 g o B : Nat} {A : Option Addr} {m : Nat} {zs : List Int} (h0 : 0 ≤ op) (h1 : op ≤ 17) (hf : f + 1 ≤ 4) (hm : m = 2 ^ f) (hc : m ≤ c2) (hw : ∀ k, k < m + m → Wd.IsWord b (zs.getD k 0)) (hr : Ln.red op b (f + 1) zs = R)
    (hrd : Rd w' B A m (Ln.half1 op b zs m)) (hb : Below w.heap.size w w') : Halving op b R w (.slice A m c2) w' := by
  have hp : 0 < m := by rw [hm]; exact Nat.pow_pos (by decide)
  obtain ⟨g', o', e, _, _⟩ := hrd.at_ hp
  subst e
  exact ⟨f, m, c2, B, g', o', _, rfl, hm, by omega, hc, hrd, Ln.half1_word h0 h1 hw, by rw [← hr, hm]; rfl, hb⟩
theorem pow_two (f : Nat) : 2 ^ (f + 1) = 2 ^ f + 2 ^ f := by rw [Nat.pow_succ]; omega
theorem pow_small {f : Nat} (h : f ≤ 4) : 2 ^ f ≤ 16 := by
  have : 2 ^ f ≤ 2 ^ 4 := Nat.pow_le_pow_right (by decide) h
  simpa using this
set_option maxRecDepth 100000 in
set_option maxHeartbeats 1000000 in
theorem sRed_any (op b : Int) (ad : Addr) (n c : Nat) (xs : List Int) (B : Nat) (w : World) (h0 : 0 ≤ op) (h1 : op ≤ 17) (hl : n = 2 ∨ n = 4 ∨ n = 8 ∨ n = 16) (r : Rd w B (some ad) n xs) (hw : ∀ k, k < n → Wd.IsWord b (xs.getD k 0)) :
    Calls Tryz.prog 54 #[.int .i64 op, .int .i64 b, .slice (some ad) n c] w fun e w' => e = .returned (.int .i64 (Ln.red op b (Ln.lg n) xs)) ∧ Below w.heap.size w w' := by
  have hp := Ln.lg_pow hl
  have hf4 : Ln.lg n ≤ 4 := by rcases hl with rfl | rfl | rfl | rfl <;> decide
  obtain ⟨R, hR⟩ : ∃ R, R = Ln.red op b (Ln.lg n) xs := ⟨_, rfl⟩
  rw [← hR]
  have C := Lib.hid (fun W zs m (A1 A2 : Option Addr) (c1 c2 B1 B2 : Nat) (hm : m ≤ 16) (e1 : Rd W B1 A1 m ((zs.drop 0).take m)) (e2 : Rd W B2 A2 m ((zs.drop m).take m)) (hz : ∀ k, k < m + m → Wd.IsWord b (List.getD zs k 0)) => sWise_any op b A1 A2 m c1 c2 _ _ B1 B2 W h0 h1 (by omega) e1 e2 (cut_words hz).1 (cut_words hz).2)
  have RR := Lib.hid r
  have HW := Lib.hid hw
  have HR := Lib.hid hR
  have HP := Lib.hid hp
  have H01 := Lib.hid (And.intro h0 h1)
  have hn16 : n ≤ 16 := by omega
  have hn0 : 0 < n := by omega
  clear r hw hR hp h0 h1 hl
  go_enter Tryz.func54, Tryz.ntmps54
  go_wp2_with fail
  refine (sOwn_any _ n _ xs B _ (by omega) RR.out).mono ?_
  rintro e w1 ⟨A1, n1, c1, rfl, ho, _, hc1, hb⟩
  obtain rfl : n = n1 := RR.out.len.symm.trans ho.len
  obtain ⟨g1, o1, rfl, _, _⟩ := ho.rd.at_ hn0
  have HO1 := Lib.hid ho.rd
  have HC1 := Lib.hid hc1
  have HB1 := Lib.hid hb; clear ho hb hc1
  go_wp2_with fail
  go_loopw [7] (fun v wr => Halving op b R w v wr) (fun v _ => match v with | .slice _ m _ => m | _ => 0)
  case atStart => exact ⟨Ln.lg n, n, c1, _, g1, o1, xs, rfl, HP.out, hf4, HC1.out, HO1.out, HW.out, HR.out.symm, HB1.out⟩
  case round =>
    obtain ⟨f, n', c', B', g, o, zs, rfl, hnf, hf, hc', hrd, hwz, hred, hb⟩ := hrel
    cases f with
    | zero =>
      have hn1 : n' = 1 := hnf
      subst hn1
      obtain ⟨g', o', e', _, hcell⟩ := hrd.at_ (k := 0) (by omega)
      injection e' with e'; injection e' with e1 e2; subst e1; subst e2
      have hcc : wr.cell? ⟨g, o + 0, none⟩ = some (Value.int .i64 (zs.getD 0 0)) := hcell
      rw [Nat.add_zero] at hcc
      rw [show zs.getD 0 0 = R from hred] at hcc
      have HB := Lib.hid hb
      clear hb hrd hwz hred hcell hnf
      go_wp2
      go_ret
      exact ⟨rfl, HB.out⟩
    | succ f =>
      obtain ⟨m, hm⟩ : ∃ m, m = 2 ^ f := ⟨_, rfl⟩
      have hnm : n' = m + m := by rw [hnf, pow_two, hm]
      have hm16 : m ≤ 16 := by rw [hm]; exact pow_small (by omega)
      have hmp : 0 < m := by rw [hm]; exact Nat.pow_pos (by decide)
      subst hnm
      have ra := hrd.cut 0 m (by omega)
      have rb := hrd.cut m m (by omega)
      rw [Nat.add_zero] at ra
      have HA := Lib.hid ra
      have HBb := Lib.hid rb
      have HLZ := Lib.hid hrd.len
      have HWZ := Lib.hid hwz
      have HRED := Lib.hid hred
      have HM := Lib.hid hm
      have HB := Lib.hid hb
      have HF := Lib.hid hf
      have q1 : (((m + m : Nat) : Int)) / 2 = (m : Int) := by omega
      have q0 : (m + m) / 2 = m := by omega
      have q7 : m + m - m = m := by omega
      have q2 : (1 : Int) < ((m + m : Nat) : Int) := by omega
      have q3 : (m : Int) ≤ (c' : Int) := by omega
      have q4 : (m : Int) ≤ ((m + m : Nat) : Int) := by omega
      have q5 : ((m + m : Nat) : Int) ≤ (c' : Int) := by omega
      have q6 : m < c' := by omega
      clear ra rb hrd hwz hred hm hb hf hnf
      go_wp2
      go_region_with (go_at_call 48; (with_reducible refine (C.out _ zs m _ _ _ _ B' B' hm16 ?_ ?_ HWZ.out).mono ?_); (exact HA.out); (exact HBb.out); rintro e w5 ⟨A5, n5, c5, rfl, ho5, hn5, hc5, hb5⟩; have HO5 := Lib.hid ho5; have HC5 := Lib.hid hc5; have HB5 := Lib.hid (HB.out.drew.trans (hb5.mono HB.out.size)); clear ho5 hb5 hc5)
      all_goals go_simp
      all_goals (try go_wp2)
      all_goals
        go_roundw
        case rel =>
          have ho := HO5.out
          rw [half_of op b zs m (by rw [HLZ.out]; exact Nat.le_refl _)] at ho
          obtain rfl : m = n5 := by have := ho.len; rw [Ln.half1_len] at this; exact this
          exact halving_step (g := g) (o := o) (wr := wr) H01.out.1 H01.out.2 HF.out HM.out HC5.out HWZ.out HRED.out ho.rd HB5.out
        case measure =>
          have := HO5.out.len
          rw [Ln.tab_len] at this
          simp
          omega
theorem sReduceLanes_any (op b : Int) (A : Option Addr) (n c : Nat) (xs : List Int) (B : Nat) (w : World) (hn : n ≤ 1048576) (r : Rd w B A n xs) :
    Calls Tryz.prog 30 #[.int .i64 op, .int .i64 b, .slice A n c] w (RetIB (Ln.reduce op b xs).1 (Ln.reduce op b xs).2 w) := by
  have k0 := sopIs_any op w
  have k1 := sIs_any b A n c xs B w hn r
  unfold Ln.reduce
  by_cases hop : Ln.isOp op = true
  · by_cases hv : Ln.vec b xs = true
    · rw [hop, hv, r.len]
      rw [hop] at k0
      rw [hv] at k1
      have h00 := isOp_bd hop
      have hl := r.len
      obtain ⟨g1, o1, rfl, _, _⟩ := r.at_ (k := 0) (by have := Ln.vec_len hv; omega)
      have k3 : ∀ w1, Below w.heap.size w w1 → Calls Tryz.prog 54 #[.int .i64 op, .int .i64 b, .slice (some ⟨g1, o1, none⟩) n c] w1 fun e w' => e = .returned (.int .i64 (Ln.red op b (Ln.lg n) xs)) ∧ Below w1.heap.size w1 w' := fun w1 hbw =>
        sRed_any op b _ n c xs B w1 h00.1 h00.2 (by have := Ln.vec_len hv; omega) (r.below hbw) (fun k hk => Ln.vec_word hv (by omega))
      generalize Ln.red op b (Ln.lg n) xs = R at *
      have C0 := Lib.hid k0
      have C1 := Lib.hid k1
      have C3 := Lib.hid k3
      clear k0 k1 k3 r hop hv h00 hl
      go_enter Tryz.func30, Tryz.ntmps30
      go_wp2_with fail
      refine C0.out.mono ?_
      rintro e w1 ⟨rfl, rfl⟩
      go_wp2_with fail
      refine C1.out.mono ?_
      rintro e w2 ⟨rfl, hb⟩
      have HB2 := Lib.hid hb; clear hb
      go_wp2_with fail
      refine (C3.out _ HB2.out).mono ?_
      rintro e w3 ⟨rfl, hb⟩
      have HB3 := Lib.hid (HB2.out.trans (hb.mono HB2.out.size)); clear hb
      go_wp2_with fail
      go_ret2
      exact ⟨rfl, HB3.out⟩
    · have hv' : Ln.vec b xs = false := by simpa using hv
      rw [hop, hv']
      rw [hop] at k0
      rw [hv'] at k1
      have C0 := Lib.hid k0
      have C1 := Lib.hid k1
      clear k0 k1 r hop hv hv'
      go_enter Tryz.func30, Tryz.ntmps30
      go_wp2_with fail
      refine C0.out.mono ?_
      rintro e w1 ⟨rfl, rfl⟩
      go_wp2_with fail
      refine C1.out.mono ?_
      rintro e w2 ⟨rfl, hb⟩
      have HB2 := Lib.hid hb; clear hb
      go_wp2_with fail
      go_ret2
      exact ⟨rfl, HB2.out⟩
  · have hop' : Ln.isOp op = false := by simpa using hop
    rw [hop']
    rw [hop'] at k0
    have C0 := Lib.hid k0
    clear k0 k1 r hop hop'
    go_enter Tryz.func30, Tryz.ntmps30
    go_wp2_with fail
    refine C0.out.mono ?_
    rintro e w1 ⟨rfl, rfl⟩
    go_wp2_with fail
    go_ret2
    exact ⟨rfl, Below.refl _ _⟩

set_option maxRecDepth 100000 in
set_option maxHeartbeats 1000000 in
theorem iRed8_yes (op b : Int) (A : Option Addr) (n c : Nat) (xs : List Int) (B : Nat) (w : World) (hop : Ln.isOp op = true) (hbb : (b = 4 ∨ b = 8)) (hn : n ≤ 1048576) (hnc : n ≤ c) (r : Rd w B A n xs) (hv : Ln.vec b xs = true) (hg : ErrT w) :
    Calls Tryz.prog 14 #[.int .i64 op, .int .i64 b, .slice A n c] w (RetIB (Ln.red op b (Ln.lg n) xs) true w) := by
  have h00 := isOp_bd hop
  have hln := r.len
  have hl : n = 2 ∨ n = 4 ∨ n = 8 ∨ n = 16 := by have := Ln.vec_len hv; omega
  have hp := Ln.lg_pow hl
  have hf4 : Ln.lg n ≤ 4 := by rcases hl with rfl | rfl | rfl | rfl <;> decide
  have hn0 : 0 < n := by omega
  have hn16 : n ≤ 16 := by omega
  have k0 := iopIs_any op w
  rw [hop] at k0
  have k1 : ∀ w1, Below w.heap.size w w1 → Calls Tryz.prog 19 #[.int .i64 b, .slice A n c] w1 (RetB true w1) := fun w1 hbw => by
    have := isVec_any b A n c xs B w1 hn (r.below hbw); rwa [hv] at this
  have k2 := fun W => resultOf8_any op b W hbb
  obtain ⟨R, hR⟩ : ∃ R, R = Ln.red op b (Ln.lg n) xs := ⟨_, rfl⟩
  rw [← hR]
  have C := Lib.hid (fun W zs m (A1 A2 : Option Addr) (c1 c2 B1 B2 : Nat) (hm : m ≤ 16) (hbW : Below w.heap.size w W) (e1 : Rd W B1 A1 m ((zs.drop 0).take m)) (e2 : Rd W B2 A2 m ((zs.drop m).take m)) (hz : ∀ k, k < m + m → Wd.IsWord b (List.getD zs k 0)) => inPairs8_any op b A1 A2 m c1 c2 _ _ B1 B2 W h00.1 h00.2 hbb (by omega) e1 e2 (cut_words hz).1 (cut_words hz).2 (hg.below hbW hg.lt))
  obtain ⟨g1, o1, rfl, _, _⟩ := r.at_ hn0
  have C0 := Lib.hid k0
  have C1 := Lib.hid k1
  have C2 := Lib.hid k2
  have RR := Lib.hid r
  have HW := Lib.hid (show ∀ k, k < n → Wd.IsWord b (xs.getD k 0) from fun k hk => Ln.vec_word hv (by omega))
  have HR := Lib.hid hR
  have HP := Lib.hid hp
  have H01 := Lib.hid h00
  clear k0 k1 k2 r hv hR hp hl hln hg hop hbb h00
  go_enter Tryz.func14, Tryz.ntmps14
  go_wp2_with fail
  refine C0.out.mono ?_
  rintro e w1 ⟨rfl, hb⟩
  have HB1 := Lib.hid hb; clear hb
  go_wp2_with fail
  refine (C1.out _ HB1.out).mono ?_
  rintro e w2 ⟨rfl, hb⟩
  have HB2 := Lib.hid (HB1.out.trans (hb.mono HB1.out.size)); clear hb
  go_wp2_with fail
  refine (C2.out _).mono ?_
  rintro e w3 ⟨rfl, hb⟩
  have HB3 := Lib.hid (HB2.out.trans (hb.mono HB2.out.size)); clear hb
  go_wp2_with fail
  go_loopw [2] (fun v wr => Halving op b R w v wr) (fun v _ => match v with | .slice _ m _ => m | _ => 0)
  case atStart => exact ⟨Ln.lg n, n, c, _, g1, o1, xs, rfl, HP.out, hf4, hnc, RR.out.below HB3.out, HW.out, HR.out.symm, HB3.out⟩
  case round =>
    obtain ⟨f, n', c', B', g, o, zs, rfl, hnf, hf, hc', hrd, hwz, hred, hb⟩ := hrel
    cases f with
    | zero =>
      have hn1 : n' = 1 := hnf
      subst hn1
      obtain ⟨g', o', e', _, hcell⟩ := hrd.at_ (k := 0) (by omega)
      injection e' with e'; injection e' with e1 e2; subst e1; subst e2
      have hcc : wr.cell? ⟨g, o + 0, none⟩ = some (Value.int .i64 (zs.getD 0 0)) := hcell
      rw [Nat.add_zero] at hcc
      rw [show zs.getD 0 0 = R from hred] at hcc
      have HB := Lib.hid hb
      clear hb hrd hwz hred hcell hnf
      go_wp2
      go_ret2
      exact ⟨rfl, HB.out⟩
    | succ f =>
      obtain ⟨m, hm⟩ : ∃ m, m = 2 ^ f := ⟨_, rfl⟩
      have hnm : n' = m + m := by rw [hnf, pow_two, hm]
      have hm16 : m ≤ 16 := by rw [hm]; exact pow_small (by omega)
      have hmp : 0 < m := by rw [hm]; exact Nat.pow_pos (by decide)
      subst hnm
      have ra := hrd.cut 0 m (by omega)
      have rb := hrd.cut m m (by omega)
      rw [Nat.add_zero] at ra
      have HA := Lib.hid ra
      have HBb := Lib.hid rb
      have HLZ := Lib.hid hrd.len
      have HWZ := Lib.hid hwz
      have HRED := Lib.hid hred
      have HM := Lib.hid hm
      have HB := Lib.hid hb
      have HF := Lib.hid hf
      have CH := Lib.hid (fun W => halves_any g o (m + m) m c' W hmp (by omega) (by omega) hc')
      have q2 : (1 : Int) < ((m + m : Nat) : Int) := by omega
      clear ra rb hrd hwz hred hm hb hf hnf hc'
      go_wp2_with fail
      refine (CH.out _).mono ?_
      rintro e w4 ⟨rfl, hb4⟩
      have HA4 := Lib.hid (HA.out.below hb4)
      have HBb4 := Lib.hid (HBb.out.below hb4)
      have HB4 := Lib.hid (HB.out.trans (hb4.mono HB.out.size)); clear hb4
      go_wp2_with fail
      refine (C.out _ zs m _ _ _ _ B' B' hm16 HB4.out HA4.out HBb4.out HWZ.out).mono ?_
      rintro e w5 ⟨A5, n5, c5, rfl, ho5, hn5, hc5, hb5⟩
      have HO5 := Lib.hid ho5
      have HC5 := Lib.hid hc5
      have HB5 := Lib.hid (HB4.out.trans (hb5.mono HB4.out.size)); clear ho5 hb5 hc5
      go_wp2_with fail
      go_roundw
      case rel =>
        have ho := HO5.out
        rw [half_of op b zs m (by rw [HLZ.out]; exact Nat.le_refl _)] at ho
        obtain rfl : m = n5 := by have := ho.len; rw [Ln.half1_len] at this; exact this
        exact halving_step (g := g) (o := o) (wr := wr) H01.out.1 H01.out.2 HF.out HM.out HC5.out HWZ.out HRED.out ho.rd HB5.out
      case measure =>
        have := HO5.out.len
        rw [Ln.tab_len] at this
        simp
        omega

set_option maxRecDepth 100000 in
set_option maxHeartbeats 1000000 in
theorem iRed16_yes (op b : Int) (A : Option Addr) (n c : Nat) (xs : List Int) (B : Nat) (w : World) (hop : Ln.isOp op = true) (hbb : (16 ≤ b ∧ b ≤ 16)) (hn : n ≤ 1048576) (hnc : n ≤ c) (r : Rd w B A n xs) (hv : Ln.vec b xs = true) (hg : ErrT w) :
    Calls Tryz.prog 14 #[.int .i64 op, .int .i64 b, .slice A n c] w (RetIB (Ln.red op b (Ln.lg n) xs) true w) := by
  have h00 := isOp_bd hop
  have hln := r.len
  have hl : n = 2 ∨ n = 4 ∨ n = 8 ∨ n = 16 := by have := Ln.vec_len hv; omega
  have hp := Ln.lg_pow hl
  have hf4 : Ln.lg n ≤ 4 := by rcases hl with rfl | rfl | rfl | rfl <;> decide
  have hn0 : 0 < n := by omega
  have hn16 : n ≤ 16 := by omega
  have k0 := iopIs_any op w
  rw [hop] at k0
  have k1 : ∀ w1, Below w.heap.size w w1 → Calls Tryz.prog 19 #[.int .i64 b, .slice A n c] w1 (RetB true w1) := fun w1 hbw => by
    have := isVec_any b A n c xs B w1 hn (r.below hbw); rwa [hv] at this
  have k2 := fun W => resultOf16_any op b W hbb
  obtain ⟨R, hR⟩ : ∃ R, R = Ln.red op b (Ln.lg n) xs := ⟨_, rfl⟩
  rw [← hR]
  have C := Lib.hid (fun W zs m (A1 A2 : Option Addr) (c1 c2 B1 B2 : Nat) (hm : m ≤ 16) (hbW : Below w.heap.size w W) (e1 : Rd W B1 A1 m ((zs.drop 0).take m)) (e2 : Rd W B2 A2 m ((zs.drop m).take m)) (hz : ∀ k, k < m + m → Wd.IsWord b (List.getD zs k 0)) => inPairs16_any op b A1 A2 m c1 c2 _ _ B1 B2 W h00.1 h00.2 hbb (by omega) e1 e2 (cut_words hz).1 (cut_words hz).2 (hg.below hbW hg.lt))
  obtain ⟨g1, o1, rfl, _, _⟩ := r.at_ hn0
  have C0 := Lib.hid k0
  have C1 := Lib.hid k1
  have C2 := Lib.hid k2
  have RR := Lib.hid r
  have HW := Lib.hid (show ∀ k, k < n → Wd.IsWord b (xs.getD k 0) from fun k hk => Ln.vec_word hv (by omega))
  have HR := Lib.hid hR
  have HP := Lib.hid hp
  have H01 := Lib.hid h00
  clear k0 k1 k2 r hv hR hp hl hln hg hop hbb h00
  go_enter Tryz.func14, Tryz.ntmps14
  go_wp2_with fail
  refine C0.out.mono ?_
  rintro e w1 ⟨rfl, hb⟩
  have HB1 := Lib.hid hb; clear hb
  go_wp2_with fail
  refine (C1.out _ HB1.out).mono ?_
  rintro e w2 ⟨rfl, hb⟩
  have HB2 := Lib.hid (HB1.out.trans (hb.mono HB1.out.size)); clear hb
  go_wp2_with fail
  refine (C2.out _).mono ?_
  rintro e w3 ⟨rfl, hb⟩
  have HB3 := Lib.hid (HB2.out.trans (hb.mono HB2.out.size)); clear hb
  go_wp2_with fail
  go_loopw [2] (fun v wr => Halving op b R w v wr) (fun v _ => match v with | .slice _ m _ => m | _ => 0)
  case atStart => exact ⟨Ln.lg n, n, c, _, g1, o1, xs, rfl, HP.out, hf4, hnc, RR.out.below HB3.out, HW.out, HR.out.symm, HB3.out⟩
  case round =>
    obtain ⟨f, n', c', B', g, o, zs, rfl, hnf, hf, hc', hrd, hwz, hred, hb⟩ := hrel
    cases f with
    | zero =>
      have hn1 : n' = 1 := hnf
      subst hn1
      obtain ⟨g', o', e', _, hcell⟩ := hrd.at_ (k := 0) (by omega)
      injection e' with e'; injection e' with e1 e2; subst e1; subst e2
      have hcc : wr.cell? ⟨g, o + 0, none⟩ = some (Value.int .i64 (zs.getD 0 0)) := hcell
      rw [Nat.add_zero] at hcc
      rw [show zs.getD 0 0 = R from hred] at hcc
      have HB := Lib.hid hb
      clear hb hrd hwz hred hcell hnf
      go_wp2
      go_ret2
      exact ⟨rfl, HB.out⟩
    | succ f =>
      obtain ⟨m, hm⟩ : ∃ m, m = 2 ^ f := ⟨_, rfl⟩
      have hnm : n' = m + m := by rw [hnf, pow_two, hm]
      have hm16 : m ≤ 16 := by rw [hm]; exact pow_small (by omega)
      have hmp : 0 < m := by rw [hm]; exact Nat.pow_pos (by decide)
      subst hnm
      have ra := hrd.cut 0 m (by omega)
      have rb := hrd.cut m m (by omega)
      rw [Nat.add_zero] at ra
      have HA := Lib.hid ra
      have HBb := Lib.hid rb
      have HLZ := Lib.hid hrd.len
      have HWZ := Lib.hid hwz
      have HRED := Lib.hid hred
      have HM := Lib.hid hm
      have HB := Lib.hid hb
      have HF := Lib.hid hf
      have CH := Lib.hid (fun W => halves_any g o (m + m) m c' W hmp (by omega) (by omega) hc')
      have q2 : (1 : Int) < ((m + m : Nat) : Int) := by omega
      clear ra rb hrd hwz hred hm hb hf hnf hc'
      go_wp2_with fail
      refine (CH.out _).mono ?_
      rintro e w4 ⟨rfl, hb4⟩
      have HA4 := Lib.hid (HA.out.below hb4)
      have HBb4 := Lib.hid (HBb.out.below hb4)
      have HB4 := Lib.hid (HB.out.trans (hb4.mono HB.out.size)); clear hb4
      go_wp2_with fail
      refine (C.out _ zs m _ _ _ _ B' B' hm16 HB4.out HA4.out HBb4.out HWZ.out).mono ?_
      rintro e w5 ⟨A5, n5, c5, rfl, ho5, hn5, hc5, hb5⟩
      have HO5 := Lib.hid ho5
      have HC5 := Lib.hid hc5
      have HB5 := Lib.hid (HB4.out.trans (hb5.mono HB4.out.size)); clear ho5 hb5 hc5
      go_wp2_with fail
      go_roundw
      case rel =>
        have ho := HO5.out
        rw [half_of op b zs m (by rw [HLZ.out]; exact Nat.le_refl _)] at ho
        obtain rfl : m = n5 := by have := ho.len; rw [Ln.half1_len] at this; exact this
        exact halving_step (g := g) (o := o) (wr := wr) H01.out.1 H01.out.2 HF.out HM.out HC5.out HWZ.out HRED.out ho.rd HB5.out
      case measure =>
        have := HO5.out.len
        rw [Ln.tab_len] at this
        simp
        omega

theorem iReduceLanes_any (op b : Int) (A : Option Addr) (n c : Nat) (xs : List Int) (B : Nat) (w : World) (hn : n ≤ 1048576) (hnc : n ≤ c) (r : Rd w B A n xs) (hg : ErrT w) :
    Calls Tryz.prog 14 #[.int .i64 op, .int .i64 b, .slice A n c] w (RetIB (Ln.reduce op b xs).1 (Ln.reduce op b xs).2 w) := by
  unfold Ln.reduce
  have k0 := iopIs_any op w
  have k1 : ∀ w1, Below w.heap.size w w1 → Calls Tryz.prog 19 #[.int .i64 b, .slice A n c] w1 (RetB (Ln.vec b xs) w1) := fun w1 hbw => isVec_any b A n c xs B w1 hn (r.below hbw)
  by_cases hop : Ln.isOp op = true
  · by_cases hv : Ln.vec b xs = true
    · rw [hop, hv, r.len]
      rcases bits_split (Ln.vec_bits hv) with hb | hb
      · exact iRed8_yes op b A n c xs B w hop hb hn hnc r hv hg
      · exact iRed16_yes op b A n c xs B w hop hb hn hnc r hv hg
    · have hv' : Ln.vec b xs = false := by simpa using hv
      rw [hop, hv']
      rw [hop] at k0
      simp only [hv'] at k1
      have C0 := Lib.hid k0
      have C1 := Lib.hid k1
      clear k0 k1 r hg hop hv hv'
      go_enter Tryz.func14, Tryz.ntmps14
      go_wp2_with fail
      refine C0.out.mono ?_
      rintro e w1 ⟨rfl, hb⟩
      have HB1 := Lib.hid hb; clear hb
      go_wp2_with fail
      refine (C1.out _ HB1.out).mono ?_
      rintro e w2 ⟨rfl, hb⟩
      have HB2 := Lib.hid (HB1.out.trans (hb.mono HB1.out.size)); clear hb
      go_wp2_with fail
      go_ret2
      exact ⟨rfl, HB2.out⟩
  · have hop' : Ln.isOp op = false := by simpa using hop
    rw [hop']
    rw [hop'] at k0
    have C0 := Lib.hid k0
    clear k0 k1 r hg hop hop'
    go_enter Tryz.func14, Tryz.ntmps14
    go_wp2_with fail
    refine C0.out.mono ?_
    rintro e w1 ⟨rfl, hb⟩
    have HB1 := Lib.hid hb; clear hb
    go_wp2_with fail
    go_ret2
    exact ⟨rfl, HB1.out⟩
end Go.Proofs.YteggioppoldaaaaGreatDoor.Wds
