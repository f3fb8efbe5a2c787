/-
  Registers: the model's function. One contract.
-/
import Derived.Test.YtfmplneopmbfoaaDoorArM
import Derived.Test.YtfmplneopmbfoaaDoorSSpl
import Derived.Test.YtfmplneopmbfoaaDoorPutM
import Derived.Test.YtfmplneopmbfoaaDoorHasM
import Derived.Test.YtfmplneopmbfoaaDoorPush
namespace Go.Proofs.YtfmplneopmbfoaaDoor.Wds
open Go.RowKit
set_option linter.unusedVariables false

theorem Own.partsA {w : World} {lo hi n k : Nat} {A : Option Addr} {zs : List Int} (h : Own w lo hi A n zs) (hk : k < n) : ∃ g o, A = some ⟨g, o, none⟩ ∧ w.cell? ⟨g, o + k, none⟩ = some (.int .i64 (zs.getD k 0)) ∧ w.frozen? ⟨g, o + k, none⟩ = false ∧ lo ≤ g ∧ g < hi := by
  obtain ⟨g, o, cs, e, h1, h2, hb, _⟩ := h.2 (by omega)
  obtain ⟨g', o', e', _, hc⟩ := h.rd.at_ hk
  rw [e] at e'
  injection e' with e'; injection e' with e1 e2; subst e1; subst e2
  exact ⟨g, o, e, hc, hb.frozen _, h1, h2⟩
theorem rep_snoc (k : Nat) : List.replicate (k + 1) (-1 : Int) = List.replicate k (-1) ++ [-1] := List.replicate_succ'
set_option maxRecDepth 100000 in
set_option maxHeartbeats 8000000 in
theorem sAssignRegisters_any (A : Option Addr) (n c : Nat) (ss : List Rg.R) (B : Nat) (r : Int) (w : World) (hn : n ≤ 1048576) (h : RdG w B A n ss) :
    Calls Tryd.prog 16 #[.slice A n c, .int .i64 r] w (Ret1 (Ar.assign ss r).1 (Ar.assign ss r).2 w) := by
  obtain ⟨i0, hi, hz0, hz1, hz2⟩ := info_parts A_info64
  have CV := Lib.hid (sReg_any A n c ss B r w hn h)
  have hl := h.len
  obtain ⟨v, hv⟩ : ∃ z, z = (Rg.valid ss && Sp.isReg r) := ⟨_, rfl⟩
  unfold Ar.assign
  rw [← hv] at CV ⊢
  have H := Lib.hid h; clear h
  cases v
  · clear hv hl
    go_enter Tryd.func16, Tryd.ntmps16
    go_wp2_with fail
    refine CV.out.mono ?_
    rintro e w1 ⟨rfl, hb⟩
    have HB := Lib.hid hb; clear hb
    go_wp2
    go_ret2
    exact Ret1.no HB.out
  · have hvv : Rg.valid ss = true := by have := hv.symm; rw [Bool.and_eq_true] at this; exact this.1
    have hrr : Sp.isReg r = true := by have := hv.symm; rw [Bool.and_eq_true] at this; exact this.2
    have hn12 : n ≤ 12 := by rw [← hl]; exact Rg.len_of_valid hvv
    have hr12 : 0 ≤ r ∧ r ≤ 12 := of_decide_eq_true hrr
    have HL := Lib.hid hl
    obtain ⟨ans, hans⟩ : ∃ a, a = (if (true && !Ar.badAt ss r ss.length) = true then (Ar.assigned ss, true) else ([], false)) := ⟨_, rfl⟩
    rw [← hans]
    have HANS := Lib.hid hans
    obtain ⟨L, hL⟩ : ∃ L, L = Ar.ord ss ss.length := ⟨_, rfl⟩
    have LAT := Lib.hid (fun k (hk : k < n) => show L.getD k 0 < n by have := Ar.ord_at_lt (rs := ss) (i := ss.length) (a := k) (by rw [HL.out]; exact hk); rw [← hL, HL.out] at this; exact this)
    have ALEN := Lib.hid (fun m => show (Ar.asg ss L (-1) m).length = n by rw [Ar.asg_len, HL.out])
    have BNO := Lib.hid (fun m k (hb : Ar.badAt ss r m = false) (hk : k < m) => show (Ar.rg ss L k : Int) < r by rw [hL]; exact Ar.bad_no hb hk)
    have BSU := Lib.hid (fun m => show Ar.badAt ss r (m + 1) = (Ar.badAt ss r m || decide (r ≤ (Ar.rg ss L m : Int))) by rw [hL]; exact Ar.bad_succ ss r m)
    have TKB := Lib.hid (fun m (hb : Ar.badAt ss r m = false) => show (Ar.tkn ss L (Ar.rg ss L) m m).testBit 12 = false by rw [hL]; exact Ar.tkn_bits hr12.2 hb 12 (Nat.le_refl _))
    have RGE := Lib.hid (fun m => show Ar.lm (Ar.tkn ss L (Ar.rg ss L) m m) = Ar.rg ss L m from (Ar.rg_eq ss L m).symm)
    have TKI := Lib.hid (fun m (hm : m < n) => show Ar.tknI ss (Ar.asg ss L (-1) m) (L.getD m 0) n = Ar.tkn ss L (Ar.rg ss L) m m by rw [hL, ← HL.out]; exact Ar.tkn_tknI ss (by rw [HL.out]; exact hm))
    have FIN := Lib.hid (fun m at_ (hm : m < n) (hc : Ar.Cho ss m n at_) => show at_ = (L.getD m 0 : Nat) by rw [hL]; exact Ar.Cho.fin (by rw [HL.out]; exact hm) (by rw [HL.out]; exact hc))
    have HAL := Lib.hid (show Ar.assigned ss = Ar.asg ss L (-1) n by rw [Ar.assigned, Ar.asg_full ss 0 (-1), ← hL, HL.out])
    have AVAL := Lib.hid (fun m k (hm : m ≤ n) (hk : k < n) => show (Ar.asg ss L (-1) m).getD k 0 = -1 ∨ ∃ j, j < m ∧ (Ar.asg ss L (-1) m).getD k 0 = (Ar.rg ss L j : Int) by
      obtain ⟨a, ha, e⟩ := Ar.ord_has (rs := ss) (i := ss.length) (z := k) (by rw [HL.out]; exact hk)
      rw [hL]
      rcases Nat.lt_or_ge a m with h1 | h1
      · have := Ar.asg_at ss (-1) (m := m) (j := a) (by rw [HL.out]; exact hm) h1
        rw [e] at this
        exact .inr ⟨a, h1, this⟩
      · exact .inl (Ar.asg_not ss (-1) (by rw [HL.out]; exact hk) fun j hj he => by have := Ar.ord_inj (rs := ss) (i := ss.length) (by rw [HL.out]; omega) ha (he.trans e.symm); omega))
    have ASU := Lib.hid (fun m => show Ar.asg ss L (-1) (m + 1) = (Ar.asg ss L (-1) m).set (L.getD m 0) (Ar.rg ss L m : Int) by rw [Ar.asg])
    have CHS := Lib.hid (fun m => Ar.Cho.start ss m)
    have HLL := Lib.hid hL
    clear hv hl hvv hrr hans hL
    go_enter Tryd.func16, Tryd.ntmps16
    go_wp2_with fail
    refine CV.out.mono ?_
    rintro e w1 ⟨rfl, hb⟩
    have HB1 := Lib.hid hb
    have hs1 := hb.size
    clear hb
    go_wp2
    go_loopw [6, 7] (fun v i wr => ∃ k : Nat, k ≤ n ∧ i = .int .i64 k ∧ wr.ownsRow w1.heap.size 2 1 v k ((List.replicate k (-1 : Int)).map (Value.int .i64)) ∧ Below w1.heap.size w1 wr) (fun _ i _ => n - (intOf i).toNat)
    case atStart => exact ⟨0, Nat.zero_le _, rfl, World.ownsRow_made w1 #[] 0 (Nat.le_refl _) (by decide) rfl, (Below.refl _ _).alloc (Nat.le_refl _) _⟩
    case round =>
      rename World => wr
      obtain ⟨k, hk, rfl, hown, hb⟩ := hrel
      by_cases hlt : k < n
      · have hsz := hb.size
        have HB := Lib.hid hb; clear hb
        have i1 : (k : Int) < (n : Int) := by omega
        go_wp2_with (at_builtin; refine wpList_push _ rfl _ _ rfl i0 Tryd.underlying29 hi hz0 hz1 hz2 _ _ _ _ _ rfl hown rfl (by omega) hsz ?_; intro v' w3 hown1 hb1; have HO1 := Lib.hid hown1; have HB3 := Lib.hid (HB.out.trans hb1); clear hown1 hb1)
        go_roundw
        case rel => exact ⟨k + 1, by omega, by go_num, by rw [rep_snoc]; exact HO1.out, HB3.out⟩
        case measure => simp [intOf]; omega
      · obtain rfl : k = n := by omega
        obtain ⟨A', c', rfl, _, ho⟩ := own_form hown
        have HO := Lib.hid (show Own wr w1.heap.size wr.heap.size A' k (Ar.asg ss L (-1) 0) by rw [Ar.asg, HL.out]; exact ho)
        have HB2 := Lib.hid (HB1.out.trans (hb.mono hs1))
        have hsr : w1.heap.size ≤ wr.heap.size := hb.size
        have HBr := Lib.hid hb
        clear hown ho hb hlt hk
        go_wp2
        go_loopw [8] (fun v wo => ∃ m : Nat, m ≤ k ∧ v = .int .i64 m ∧ Ar.badAt ss r m = false ∧ Own wo w1.heap.size wr.heap.size A' k (Ar.asg ss L (-1) m) ∧ Below w1.heap.size w1 wo ∧ wr.heap.size ≤ wo.heap.size) (fun v _ => k - (intOf v).toNat)
        case atStart => exact ⟨0, Nat.zero_le _, rfl, rfl, HO.out, HBr.out, Nat.le_refl _⟩
        case round =>
          rename World => wo
          obtain ⟨m, hm, rfl, hbad, ho, hb, hso⟩ := hrel
          by_cases hlt : m < k
          · have HBAD := Lib.hid hbad
            have HO := Lib.hid ho
            have HB := Lib.hid hb
            have hbs : w1.heap.size ≤ wo.heap.size := hb.size
            have i1 : (0 : Int) ≤ (m : Int) := by omega
            have i2 : (m : Int) < (k : Int) := by omega
            clear hbad ho hb
            have HG := Lib.hid (fun (W : World) (hW : Below wo.heap.size wo W) => (H.out.below (HB1.out.trans ((HB.out.trans (hW.mono hbs)).mono hs1))))
            go_wp2
            go_loopw [9, 10] (fun av v wi => ∃ (i : Nat) (at_ : Int), i ≤ k ∧ v = .int .i64 i ∧ av = .int .i64 at_ ∧ Hid (Ar.Cho ss m i at_) ∧ Below wo.heap.size wo wi) (fun _ v _ => k - (intOf v).toNat)
            case atStart => exact ⟨0, -1, Nat.zero_le _, rfl, rfl, Lib.hid (CHS.out m), Below.refl _ _⟩
            case round =>
              rename World => wi
              obtain ⟨i, at_, hi', rfl, rfl, HCH, hb⟩ := hrel
              by_cases hli : i < k
              · obtain ⟨g, o, eA, hc, _, _, _⟩ := (HO.out.below hb).partsA hli
                have HB3 := Lib.hid hb
                obtain ⟨e, he⟩ : ∃ e, e = (Ar.asg ss L (-1) m).getD i 0 := ⟨_, rfl⟩
                rw [← he] at hc
                have HE := Lib.hid (And.intro he HLL.out)
                subst eA
                have d0 := BelBy.cell hc
                have j1 : (0 : Int) ≤ (i : Int) := by omega
                have j2 : (i : Int) < (k : Int) := by omega
                by_cases hen : e < 0
                · have de : decide (e < 0) = true := decide_eq_true hen
                  have hen2 : (Ar.asg ss (Ar.ord ss ss.length) (-1) m).getD i 0 < 0 := by rw [← HE.out.2, ← HE.out.1]; exact hen
                  have HEN := Lib.hid hen2
                  clear hc he hen2 hb
                  by_cases hat : at_ = -1
                  · subst hat
                    have HN := Lib.hid (HCH.out.first HEN.out)
                    go_wp2
                    refine wp_region_quiet_bel (by kernel_rfl) (by kernel_rfl) ?_
                    repeat (go_big_quiet_step (fail))
                    refine wpQuiet_nil ?_
                    rintro wq ⟨⟨_, hwq⟩, rfl⟩
                    have HB4 := Lib.hid (HB3.out.trans (hwq.mono HB3.out.size))
                    clear hwq d0
                    go_wp2
                    go_roundw
                    case rel => exact ⟨i + 1, (i : Int), by omega, by go_num, rfl, Lib.hid HN.out, HB4.out⟩
                    case measure => simp [intOf]; omega
                  · obtain ⟨a, rfl⟩ : ∃ a : Nat, at_ = (a : Int) := by
                      rcases HCH.out.h with ⟨h1, _⟩ | ⟨a, h1, _⟩
                      · exact absurd h1 hat
                      · exact ⟨a, h1⟩
                    have hai := HCH.out.lt
                    have da : decide ((a : Int) < 0) = false := decide_eq_false (by omega)
                    have hrd := HG.out wi HB3.out
                    obtain ⟨gq, oq, eq, _, c0, _⟩ := hrd.at_ hli
                    obtain ⟨gq', oq', eq', _, q0, _⟩ := hrd.at_ (k := a) (by omega)
                    rw [eq] at eq'
                    injection eq' with eq'; injection eq' with e1 e2; subst e1; subst e2
                    subst eq
                    obtain ⟨x, hx⟩ : ∃ x, x = (Rg.nth ss i).f := ⟨_, rfl⟩
                    obtain ⟨y, hy⟩ : ∃ x, x = (Rg.nth ss a).f := ⟨_, rfl⟩
                    have HXY := Lib.hid (show (Ar.fr ss i < Ar.fr ss a) = (x < y) by unfold Ar.fr; rw [hx, hy])
                    rw [← hx] at c0
                    rw [← hy] at q0
                    have d1 := BelBy.cell c0
                    have d2 := BelBy.cell q0
                    have j3 : (0 : Int) ≤ (a : Int) := by omega
                    have j4 : (a : Int) < (k : Int) := by omega
                    clear hrd c0 q0 hx hy hat
                    by_cases hxy : x < y
                    · have dx : decide (x < y) = true := decide_eq_true hxy
                      have HN := Lib.hid (HCH.out.take HEN.out (by rw [HXY.out]; exact hxy))
                      clear hxy
                      go_wp2
                      refine wp_region_quiet_bel (by kernel_rfl) (by kernel_rfl) ?_
                      repeat (go_big_quiet_step (fail))
                      refine wpQuiet_nil ?_
                      rintro wq ⟨⟨_, hwq⟩, rfl⟩
                      have HB4 := Lib.hid (HB3.out.trans (hwq.mono HB3.out.size))
                      clear hwq d0 d1 d2
                      go_wp2
                      go_roundw
                      case rel => exact ⟨i + 1, (i : Int), by omega, by go_num, rfl, Lib.hid HN.out, HB4.out⟩
                      case measure => simp [intOf]; omega
                    · have dx : decide (x < y) = false := decide_eq_false hxy
                      have HN := Lib.hid (HCH.out.keep (by rw [HXY.out]; exact hxy))
                      clear hxy
                      go_wp2
                      refine wp_region_quiet_bel (by kernel_rfl) (by kernel_rfl) ?_
                      repeat (go_big_quiet_step (fail))
                      refine wpQuiet_nil ?_
                      rintro wq ⟨⟨_, hwq⟩, rfl⟩
                      have HB4 := Lib.hid (HB3.out.trans (hwq.mono HB3.out.size))
                      clear hwq d0 d1 d2
                      go_wp2
                      go_roundw
                      case rel => exact ⟨i + 1, (a : Int), by omega, by go_num, rfl, Lib.hid HN.out, HB4.out⟩
                      case measure => simp [intOf]; omega
                · have de : decide (e < 0) = false := decide_eq_false hen
                  have HN := Lib.hid (HCH.out.pass (by rw [← HE.out.2, ← HE.out.1]; omega))
                  clear hc he hb hen
                  go_wp2
                  refine wp_region_quiet_bel (by kernel_rfl) (by kernel_rfl) ?_
                  repeat (go_big_quiet_step (fail))
                  refine wpQuiet_nil ?_
                  rintro wq ⟨⟨_, hwq⟩, rfl⟩
                  have HB4 := Lib.hid (HB3.out.trans (hwq.mono HB3.out.size))
                  clear hwq d0
                  go_wp2
                  go_roundw
                  case rel => exact ⟨i + 1, at_, by omega, by go_num, rfl, Lib.hid HN.out, HB4.out⟩
                  case measure => simp [intOf]; omega
              · have hik : i = k := by omega
                subst hik
                have hz := FIN.out m at_ hlt HCH.out
                have hzl := LAT.out m hlt
                obtain ⟨z, hzz⟩ : ∃ z, z = L.getD m 0 := ⟨_, rfl⟩
                rw [← hzz] at hz hzl
                subst hz
                have HZ := Lib.hid hzz
                have HB3 := Lib.hid hb
                clear hzz hb HCH
                have HB3' := Lib.hid (HB3.out.alloc HB3.out.size (.cells #[] 2))
                go_wp2
                go_loopw [11, 12] (fun tv v wr => ∃ (x n2 c2 : Nat) (A2 : Option Addr), x ≤ i ∧ v = .int .i64 x ∧ tv = .slice A2 n2 c2 ∧ n2 ≤ 32 ∧ Rd wr wr.heap.size A2 n2 (Sc.memsI (Ar.tknI ss (Ar.asg ss L (-1) m) z x)) ∧ Below wo.heap.size wo wr) (fun _ v _ => i - (intOf v).toNat)
                case atStart => exact ⟨0, 0, 0, _, Nat.zero_le _, rfl, rfl, by omega, by rw [Ar.tknI, Sc.memsI, Sc.mems_zero]; exact Rd.nil _ _ _, HB3'.out⟩
                case round =>
                  rename World => wk
                  obtain ⟨x, n2, c2, A2, hx, rfl, rfl, hn2, hr2, hb⟩ := hrel
                  have HB4 := Lib.hid hb
                  have HR4 := Lib.hid hr2
                  clear hr2
                  by_cases hlx : x < i
                  · obtain ⟨g, o, eA, hc, _, _, _⟩ := (HO.out.below hb).partsA hlx
                    have hval := AVAL.out m x (by omega) hlx
                    have HT := Lib.hid (show Ar.tknI ss (Ar.asg ss L (-1) m) z (x + 1) = if (decide (0 ≤ (Ar.asg ss L (-1) m).getD x 0) && Ar.meets (Rg.nth ss z) (Rg.nth ss x)) = true then Ar.tknI ss (Ar.asg ss L (-1) m) z x ||| 2 ^ ((Ar.asg ss L (-1) m).getD x 0).toNat else Ar.tknI ss (Ar.asg ss L (-1) m) z x by rw [Ar.tknI])
                    obtain ⟨e, he⟩ : ∃ e, e = (Ar.asg ss L (-1) m).getD x 0 := ⟨_, rfl⟩
                    rw [← he] at hc hval HT
                    have HEA := Lib.hid eA
                    have hrd := HG.out wk HB4.out
                    obtain ⟨gq, oq, eq, _, c0, c1⟩ := hrd.at_ hzl
                    obtain ⟨gq', oq', eq', _, q0, q1⟩ := hrd.at_ hlx
                    rw [eq] at eq'
                    injection eq' with eq'; injection eq' with e1 e2; subst e1; subst e2
                    subst eq
                    subst eA
                    obtain ⟨Y, hY⟩ : ∃ Y, Y = Rg.nth ss z := ⟨_, rfl⟩
                    obtain ⟨Z, hZ⟩ : ∃ Z, Z = Rg.nth ss x := ⟨_, rfl⟩
                    rw [← hY] at c0 c1 HT
                    rw [← hZ] at q0 q1 HT
                    obtain ⟨fz, tz⟩ := Y
                    obtain ⟨fx, tx⟩ := Z
                    rw [Ar.meets] at HT
                    simp only at c0 c1 q0 q1 HT
                    have d0 := BelBy.cell hc
                    have d1 := BelBy.cell q0
                    have d2 := BelBy.cell c1
                    have d3 := BelBy.cell c0
                    have d4 := BelBy.cell q1
                    have HCE := Lib.hid hc
                    have j1 : (0 : Int) ≤ (x : Int) := by omega
                    have j2 : (x : Int) < (i : Int) := by omega
                    have j3 : (0 : Int) ≤ (z : Int) := by omega
                    have j4 : (z : Int) < (i : Int) := by omega
                    clear hc c0 c1 q0 q1 hY hZ he hrd hb
                    by_cases hen : 0 ≤ e
                    · have de : decide (0 ≤ e) = true := decide_eq_true hen
                      have he31 : e ≤ 31 := by
                        rcases hval with h1 | ⟨j, hj, h1⟩
                        · omega
                        · have := BNO.out m j HBAD.out hj; omega
                      rw [de, Bool.true_and] at HT
                      by_cases h1 : fx < tz
                      · have dd1 : decide (fx < tz) = true := decide_eq_true h1
                        rw [dd1, Bool.and_true] at HT
                        clear h1
                        by_cases h2 : fz < tx
                        · have dd2 : decide (fz < tx) = true := decide_eq_true h2
                          rw [dd2, if_pos rfl] at HT
                          clear h2 hval
                          go_wp2
                          refine wp_region_quiet_bel (by kernel_rfl) (by kernel_rfl) ?_
                          repeat (go_big_quiet_step (fail))
                          refine wpQuiet_nil ?_
                          rintro wq ⟨⟨_, hwq⟩, rfl⟩
                          have HB5 := Lib.hid (HB4.out.trans (hwq.mono HB4.out.size))
                          have HR5 := Lib.hid ((HR4.out.below hwq).more hwq.size)
                          have hce := (hwq.cell (p := ⟨g, o + x, none⟩) (World.block_lt_of_cell? wk _ HCE.out)).trans HCE.out
                          clear hwq d0 d1 d2 d3 d4
                          have HPM := Lib.hid (Sc.put_memsI (Ar.tknI ss (Ar.asg ss L (-1) m) z x) hen he31)
                          go_wp2_with fail
                          refine (sPut_any A2 n2 c2 _ _ e wq (by omega) HR5.out).mono ?_
                          rintro e' w6 ⟨A6, n6, c6, rfl, ho6, _, _, hb6⟩
                          rw [HPM.out] at ho6
                          have HT2 := Lib.hid (show Ar.tknI ss (Ar.asg ss L (-1) m) z (x + 1) = Ar.tknI ss (Ar.asg ss L (-1) m) z x ||| Sc.bt e from HT.out)
                          have hl6 := ho6.len
                          rw [← HT2.out] at ho6 hl6
                          have hl6' : n6 ≤ 32 := by rw [Sc.memsI, List.length_map] at hl6; have := Sc.mems_len (Ar.tknI ss (Ar.asg ss L (-1) m) z (x + 1)); omega
                          have HR6 := Lib.hid ho6.rd
                          have HB6 := Lib.hid (HB5.out.trans (hb6.mono HB5.out.size))
                          clear ho6 hl6 hb6 hce
                          go_wp2
                          go_roundw
                          case rel => exact ⟨x + 1, n6, c6, A6, by omega, by go_num, rfl, hl6', HR6.out, HB6.out⟩
                          case measure => simp [intOf]; omega
                        · have dd2 : decide (fz < tx) = false := decide_eq_false h2
                          rw [dd2, if_neg (by decide)] at HT
                          have HN2 := HT
                          clear h2 HT
                          go_wp2
                          refine wp_region_quiet_bel (by kernel_rfl) (by kernel_rfl) ?_
                          repeat (go_big_quiet_step (fail))
                          refine wpQuiet_nil ?_
                          rintro wq ⟨⟨_, hwq⟩, rfl⟩
                          have HB5 := Lib.hid (HB4.out.trans (hwq.mono HB4.out.size))
                          have HR5 := Lib.hid ((HR4.out.below hwq).more hwq.size)
                          clear hwq d0 d1 d2 d3 d4
                          go_wp2
                          go_roundw
                          case rel => exact ⟨x + 1, n2, c2, A2, by omega, by go_num, rfl, hn2, by rw [HN2.out]; exact HR5.out, HB5.out⟩
                          case measure => simp [intOf]; omega
                      · have dd1 : decide (fx < tz) = false := decide_eq_false h1
                        rw [dd1, Bool.and_false, if_neg (by decide)] at HT
                        have HN2 := HT
                        clear h1 HT
                        go_wp2
                        refine wp_region_quiet_bel (by kernel_rfl) (by kernel_rfl) ?_
                        repeat (go_big_quiet_step (fail))
                        refine wpQuiet_nil ?_
                        rintro wq ⟨⟨_, hwq⟩, rfl⟩
                        have HB5 := Lib.hid (HB4.out.trans (hwq.mono HB4.out.size))
                        have HR5 := Lib.hid ((HR4.out.below hwq).more hwq.size)
                        clear hwq d0 d1 d2 d3 d4
                        go_wp2
                        go_roundw
                        case rel => exact ⟨x + 1, n2, c2, A2, by omega, by go_num, rfl, hn2, by rw [HN2.out]; exact HR5.out, HB5.out⟩
                        case measure => simp [intOf]; omega
                    · have de : decide (0 ≤ e) = false := decide_eq_false hen
                      rw [de, Bool.false_and, if_neg (by decide)] at HT
                      have HN2 := HT
                      clear hen HT hval
                      go_wp2
                      refine wp_region_quiet_bel (by kernel_rfl) (by kernel_rfl) ?_
                      repeat (go_big_quiet_step (fail))
                      refine wpQuiet_nil ?_
                      rintro wq ⟨⟨_, hwq⟩, rfl⟩
                      have HB5 := Lib.hid (HB4.out.trans (hwq.mono HB4.out.size))
                      have HR5 := Lib.hid ((HR4.out.below hwq).more hwq.size)
                      clear hwq d0 d1 d2 d3 d4
                      go_wp2
                      go_roundw
                      case rel => exact ⟨x + 1, n2, c2, A2, by omega, by go_num, rfl, hn2, by rw [HN2.out]; exact HR5.out, HB5.out⟩
                      case measure => simp [intOf]; omega
                  · have hxk : x = i := by omega
                    subst hxk
                    have hrr := HR4.out
                    rw [HZ.out, TKI.out m hlt] at hrr
                    have hbit := TKB.out m HBAD.out
                    obtain ⟨t1, t2, t3⟩ := Ar.lm_spec (by decide) hbit
                    rw [RGE.out] at t1 t2 t3
                    have HBS := Lib.hid (BSU.out m)
                    have HAS := Lib.hid (show Ar.asg ss L (-1) (m + 1) = (Ar.asg ss L (-1) m).set z (Ar.rg ss L m : Int) by rw [ASU.out, ← HZ.out])
                    have HLQ := Lib.hid (fun t (ht : t < 32) h1 h2 => (RGE.out m).symm.trans (Ar.lm_eq (s := Ar.tkn ss L (Ar.rg ss L) m m) (t := t) ht h1 h2))
                    generalize Ar.tkn ss L (Ar.rg ss L) m m = tk at hrr hbit HLQ
                    have HRR := Lib.hid hrr
                    have HBIT := Lib.hid hbit
                    generalize Ar.rg ss L m = rx at HBS HAS HLQ
                    clear hrr hb hbit t1 t2 t3 HR4
                    go_wp2
                    go_loopw [13] (fun v wr => ∃ t : Nat, t ≤ 12 ∧ v = .int .i64 t ∧ Hid (∀ j, j < t → tk.testBit j = true) ∧ Below wk.heap.size wk wr) (fun v _ => 13 - (intOf v).toNat)
                    case atStart => exact ⟨0, Nat.zero_le _, rfl, Lib.hid (fun j hj => absurd hj (Nat.not_lt_zero _)), Below.refl _ _⟩
                    case round =>
                      rename World => wt
                      obtain ⟨t, ht, rfl, HALL, hb⟩ := hrel
                      have hmc := Sc.mem_memsI (s := tk) (n := (t : Int)) (by omega) (by omega)
                      rw [Int.toNat_natCast] at hmc
                      have CH := Lib.hid (sHas_any A2 n2 c2 _ _ (t : Int) wt (by omega) (HRR.out.below hb))
                      rw [hmc] at CH
                      have HB6 := Lib.hid hb
                      obtain ⟨bt, hbt⟩ : ∃ b, b = tk.testBit t := ⟨_, rfl⟩
                      rw [← hbt] at CH
                      have HBT := Lib.hid hbt
                      clear hmc hb hbt
                      cases bt
                      · have hrt := HLQ.out t (by omega) HBT.out.symm HALL.out
                        subst hrt
                        go_wp2_with fail
                        refine CH.out.mono ?_
                        rintro e' w7 ⟨rfl, hb7⟩
                        have HB7 := Lib.hid (HB4.out.trans ((HB6.out.trans (hb7.mono HB6.out.size)).mono HB4.out.size))
                        clear hb7
                        by_cases hge : r ≤ (rx : Int)
                        · have dg : decide (r ≤ (rx : Int)) = true := decide_eq_true hge
                          rw [dg, Bool.or_true] at HBS
                          have HA2 := Lib.hid (show ans = ([], false) by rw [HANS.out, Ar.bad_more (show m + 1 ≤ ss.length by rw [HL.out]; omega) HBS.out]; rfl)
                          clear hge
                          go_wp2
                          go_ret2
                          rw [HA2.out]
                          exact Ret1.no (HB1.out.trans ((HB.out.trans (HB7.out.mono hbs)).mono hs1))
                        · have dg : decide (r ≤ (rx : Int)) = false := decide_eq_false hge
                          rw [dg, HBAD.out] at HBS
                          have HB8 := Lib.hid (show Ar.badAt ss r (m + 1) = false from HBS.out)
                          clear HBS hge
                          have how := HO.out.below HB7.out
                          obtain ⟨g, o, eA, ca, fa, hlo, hhi⟩ := how.partsA hzl
                          subst eA
                          have hst := how.store hzl (rx : Int)
                          rw [← HAS.out] at hst
                          have HST := Lib.hid hst
                          have HB9 := Lib.hid ((HB.out.trans (HB7.out.mono hbs)).setCell (p := ⟨g, o + z, none⟩) hlo (.int .i64 (rx : Int)))
                          have hsz9 : wr.heap.size ≤ w7.heap.size := by have := HB7.out.size; omega
                          obtain ⟨old, hold⟩ : ∃ q, q = (Ar.asg ss L (-1) m).getD z 0 := ⟨_, rfl⟩
                          rw [← hold] at ca
                          have j3 : (0 : Int) ≤ (z : Int) := by omega
                          have j4 : (z : Int) < (x : Int) := by omega
                          clear how hst hold
                          go_wp2
                          go_roundw
                          case rel => exact ⟨m + 1, by omega, by go_num, HB8.out, HST.out, HB9.out, by simpa [World.setCell] using hsz9⟩
                          case measure => simp [intOf]; omega
                      · have ht12 : t < 12 := by
                          rcases Nat.lt_or_ge t 12 with h1 | h1
                          · exact h1
                          · obtain rfl : t = 12 := by omega
                            have := HBT.out
                            rw [HBIT.out] at this; cases this
                        go_wp2_with fail
                        refine CH.out.mono ?_
                        rintro e' w7 ⟨rfl, hb7⟩
                        have HB7 := Lib.hid (HB6.out.trans (hb7.mono HB6.out.size))
                        clear hb7
                        go_wp2
                        go_roundw
                        case rel =>
                          refine ⟨t + 1, by omega, by go_num, Lib.hid (fun j hj => ?_), HB7.out⟩
                          rcases Nat.lt_or_ge j t with h1 | h1
                          · exact HALL.out j h1
                          · obtain rfl : j = t := by omega
                            exact HBT.out.symm
                        case measure => simp [intOf]; omega
          · have hmk : m = k := by omega
            subst hmk
            have HA2 := Lib.hid (show ans = (Ar.asg ss L (-1) m, true) by rw [HANS.out, HL.out, hbad, HAL.out]; rfl)
            have HO := Lib.hid ((ho.more hs1 hso))
            have HB := Lib.hid (HB1.out.trans (hb.mono hs1))
            clear hbad ho hb
            go_wp2
            go_ret2
            rw [HA2.out]
            exact ⟨A', m, c', rfl, HO.out, by omega, HB.out⟩
end Go.Proofs.YtfmplneopmbfoaaDoor.Wds
