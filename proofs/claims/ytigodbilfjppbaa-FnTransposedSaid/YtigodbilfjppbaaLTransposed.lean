/-
  The walk of the law FnTransposed: for every input that can be read it returns true, and nothing that was there has changed.
-/
import Derived.Test.YtigodbilfjppbaaTrpB
import Derived.Test.YtigodbilfjppbaaTrpM
import Derived.Test.YtigodbilfjppbaaTrn
import Derived.Test.YtigodbilfjppbaaTst2
namespace Go.Proofs.Ytigodbilfjppbaa.Wds
open Go.RowKit
set_option linter.unusedVariables false

theorem tp_tot {b : Int} {zss : List (List Int)} {n : Nat} (h : Ln.rowsOk b zss = true) : Ln.totL zss ≤ 1048576 := Ln.totL_sq h
theorem tp_row {b : Int} {zss : List (List Int)} {n : Nat} (h : Ln.rowsOk b zss = true) (hn : zss.length = n) (hn16 : n ≤ 16) : ∀ k, k < n → (zss.getD k []).length ≤ 1048576 := by
  intro k hk
  have := ((Ln.rowsOk_at h).2.2 k (by omega)).1
  omega
theorem tp_in {g n : Nat} (hg : g = 1 ∨ g = 2 ∨ g = 4 ∨ g = 8 ∨ g = 16) (hgn : g < n) (hn : n ≤ 16) : g = 1 ∨ g = 2 ∨ g = 4 ∨ g = 8 := by omega

set_option maxHeartbeats 40000000 in
set_option maxRecDepth 100000 in
theorem law_transposed (a0 : Option Addr) (len0 cap0 : Nat) (z0 : List Int) (a1 : Option Addr) (len1 cap1 : Nat) (z1 : List Int) (w : World) (r0 : IsRow .u8 w a0 len0 cap0 z0) (r1 : IsRow .u8 w a1 len1 cap1 z1) :
    Calls Try.prog 3 #[.slice a0 len0 cap0, .slice a1 len1 cap1] w fun e w' => e = .returned (.bool true) ∧ Below w.heap.size w w' := by
  obtain ⟨i0, hi0, hz0, hz1, hz2⟩ := info_parts A_infoR
  obtain ⟨j0, hj0, y0, y1, y2⟩ := info_parts A_infoB
  have cl := r8long_any a0 a1 len0 cap0 len1 cap1 w r0.len' r1.len'
  by_cases hlong : 48 < len0 ∨ 48 < len1
  · rw [decide_eq_true hlong] at cl
    have CL := Lib.hid cl
    clear cl hlong r0 r1
    go_enter Try.func3, Try.ntmps3
    go_wp2_with fail
    refine CL.out.mono ?_
    rintro e w' ⟨rfl, rfl⟩
    go_wp2_with fail
    go_ret
    exact ⟨rfl, Below.refl _ _⟩
  · rw [decide_eq_false hlong] at cl
    have CL := Lib.hid cl
    have hl48 : len0 ≤ 48 := by omega
    have R0 := Lib.hid (fun (W : World) (hb : Below w.heap.size w W) => r0.below hb r0.block)
    have R1 := Lib.hid (fun (W : World) (hb : Below w.heap.size w W) => r1.below hb r1.block)
    clear cl hlong r0 r1
    go_enter Try.func3, Try.ntmps3
    go_wp2_with fail
    refine CL.out.mono ?_
    rintro e w' ⟨rfl, rfl⟩
    go_wp2_with fail
    refine (r8bits_any _ _ _ z0 _ (R0.out _ (Below.refl _ _))).mono ?_
    rintro e w1 ⟨b, rfl, hb, hb1⟩
    have HBits := Lib.hid hb
    have HB1 := Lib.hid hb1; clear hb hb1
    go_wp2_with fail
    refine (r8lanes_any _ _ _ z1 _ (R1.out _ HB1.out)).mono ?_
    rintro e w2 ⟨n, rfl, hl, hb⟩
    have HL := Lib.hid hl
    have hn : n ≤ 16 := by have := Ln.lanes_cases hl; omega
    have hn0 : 1 < n := by have := Ln.lanes_cases hl; omega
    have HN4 := Lib.hid (Ln.sq_four hl)
    have HB2 := Lib.hid (HB1.out.trans (hb.mono HB1.out.size)); clear hl hb
    go_wp2_with fail
    go_loopw [7, 8] (fun v i wr => DrawsR b n w2 v i wr) (fun _ i _ => n - (intOf i).toNat)
    case atStart => exact DrawsR.start _ _ _
    case round =>
      rename World => wr
      obtain ⟨f, k, vals, hk, rfl, hf, hown, hv, hb⟩ := hrel
      by_cases hlt : k < n
      · have HR := Lib.hid (R0.out wr (HB2.out.trans (hb.mono HB2.out.size)))
        have HO := Lib.hid hown
        have HV := Lib.hid hv
        have HB := Lib.hid hb
        have HF := Lib.hid hf
        have i1 : (0 : Int) ≤ (k : Int) := by omega
        have i2 : (k : Int) < (n : Int) := by omega
        have u1 : IntKind.u8.wrap (k : Int) = (k : Int) := by rw [IntKind.wrap_u8]; omega
        clear hown hv hb hf
        go_wp2_with (at_builtin; refine wpList_headed _ _ rfl _ _ rfl j0 Try.underlying22 hj0 y0 y1 y2 (by omega) (by omega) rfl _ _ _ z0 rfl HR.out hl48 ?_; intro w3 A3 c3 z3 hs3 hb3; have HS3 := Lib.hid hs3; have HB3 := Lib.hid hb3; clear hs3 hb3)
        refine (r8vecS_any b n _ _ _ z3 _ HBits.out HL.out HS3.out).mono ?_
        rintro e w4 ⟨g4, c4, ws, rfl, ho4, hc4, hv4, hb4⟩
        have HB4 := Lib.hid (HB3.out.trans (hb4.mono HB3.out.size))
        have HO4 := Lib.hid ho4
        have HV4 := Lib.hid hv4
        have HOW := Lib.hid (rowB HO.out HB4.out)
        have HVW := Lib.hid (HV.out.below HB4.out)
        have hsz : w2.heap.size ≤ w4.heap.size := Nat.le_trans HB.out.size HB4.out.size
        have hlo : w2.heap.size ≤ w3.heap.size := Nat.le_trans HB.out.size HB3.out.size
        clear ho4 hv4 hb4
        go_wp2_with (at_builtin; refine wpList_pushR _ rfl _ _ rfl i0 Try.underlying25 hi0 hz0 hz1 hz2 _ _ _ _ _ _ _ rfl HOW.out rfl (by omega) hsz ?_; intro v' w5 hown1 hb1 HK; have HO1 := Lib.hid hown1; have HBB := Lib.hid hb1; clear hown1 hb1)
        have HF := Lib.hid (show DrawsR b n w2 v' (.int .i64 (k + 1 : Nat)) w5 from
          ⟨fun j => if j = k then ws else f j, k + 1, _, by omega, rfl, fun j hj => by
            dsimp only
            by_cases e : j = k
            · subst e
              rw [if_pos rfl]
              exact ⟨HO4.out.len, HV4.out⟩
            · rw [if_neg e]
              exact HF.out j (by omega),
          HO1.out, (HVW.out.congr (f' := fun j => if j = k then ws else f j) (fun j hj => by rw [if_neg (by omega)])).push HK.out HBB.out.size hc4 (HK.out _ _ _ _ _ (by simpa using HO4.out)) hlo HBB.out.size, (HB.out.trans (HB4.out.mono HB.out.size)).trans HBB.out⟩)
        go_roundw
        case rel => exact HF.out
        case measure => simp [intOf]; omega
      · have hkn : k = n := by omega
        subst hkn
        obtain ⟨A, c, rfl⟩ := owns_shape hown
        have hok : Ln.rowsOk b (Ln.tabR f k) = true := Ln.rowsOk_of HL.out hf
        have hrd := hv.rdR hown rfl
        have hlen : (Ln.tabR f k).length = k := Ln.tabR_len _ _
        obtain ⟨zss, hz⟩ : ∃ zss, zss = Ln.tabR f k := ⟨_, rfl⟩
        rw [← hz] at hok hrd hlen
        have HRD := Lib.hid hrd
        have HOK := Lib.hid hok
        have HLEN := Lib.hid hlen
        have HB3 := Lib.hid (HB2.out.trans (hb.mono HB2.out.size))
        have CT := Lib.hid (iTransposeLanes_any b A k c zss wr.heap.size wr (Ln.totL_sq hok) hrd)
        rw [Ln.transpose_ok hok] at CT
        clear hown hv hb hf hok hrd hlen hz hlt hk
        go_wp2_with fail
        refine CT.out.mono ?_
        rintro e w3 ⟨A3, n3, c3, rfl, ho3, hb3⟩
        obtain rfl : k = n3 := by have := ho3.len; rw [Ln.trL_len, HLEN.out] at this; exact this
        have CT2 := Lib.hid (iTransposeLanes_any b A3 k c3 (Ln.trL zss) w3.heap.size w3 (Ln.totL_sq (Ln.tr_ok HOK.out)) ho3.rd)
        rw [Ln.transpose_ok (Ln.tr_ok HOK.out), Ln.tr_tr HOK.out] at CT2
        have HT3 := Lib.hid ho3.rd
        have HR3 := Lib.hid (HRD.out.below hb3)
        have HB4 := Lib.hid (HB3.out.trans (hb3.mono HB3.out.size))
        have hs3 : wr.heap.size ≤ w3.heap.size := hb3.size
        clear ho3 hb3 CT
        go_wp2_with fail
        refine CT2.out.mono ?_
        rintro e w4 ⟨A4, n4, c4, rfl, ho4, hb4⟩
        obtain rfl : k = n4 := by have := ho4.len; rw [HLEN.out] at this; exact this
        have HT4 := Lib.hid (HT3.out.below hb4)
        have HR4 := Lib.hid (HR3.out.below hb4)
        have HB5 := Lib.hid (HB4.out.trans (hb4.mono HB4.out.size))
        have hs4 : w3.heap.size ≤ w4.heap.size := hb4.size
        have CC := Lib.hid (r8rows_any A4 A k c4 c zss _ _ w4 hn (tp_row HOK.out HLEN.out hn) ho4.rd HR4.out)
        clear ho4 hb4 CT2 HT3 HR3
        go_wp2_with fail
        refine CC.out.mono ?_
        rintro e w5 ⟨rfl, hb5⟩
        have HT5 := Lib.hid (HT4.out.below hb5)
        have HR5 := Lib.hid (HR4.out.below hb5)
        have HB6 := Lib.hid (HB5.out.trans (hb5.mono HB5.out.size))
        have hs5 : w4.heap.size ≤ w5.heap.size := hb5.size
        clear hb5 CC HT4 HR4
        go_wp2_with fail
        go_loopw [13, 14] (fun v i wu => ∃ (g : Nat) (B : Option Addr) (cb : Nat), (g = 1 ∨ g = 2 ∨ g = 4 ∨ g = 8 ∨ g = 16) ∧ g ≤ k ∧ i = .int .i64 g ∧ v = .slice B k cb ∧ RdR wu wu.heap.size B k (Ln.upL zss k g) ∧ Below w5.heap.size w5 wu) (fun _ i _ => 32 - (intOf i).toNat)
        case atStart => exact ⟨1, A, c, .inl rfl, by omega, rfl, rfl, by rw [Ln.up_one HOK.out HLEN.out]; exact HR5.out.more (by omega), Below.refl _ _⟩
        case round =>
          rename World => wu
          obtain ⟨g, B, cb, hg, hgk, rfl, rfl, hru, hbu⟩ := hrel
          by_cases hlt : g < k
          · have hg4 := tp_in hg hlt hn
            have CS := Lib.hid (iTransposeStep_any b B k cb (Ln.upL zss k g) wu.heap.size (g : Int) wu (Ln.totL_sq (Ln.up_ok HOK.out HLEN.out hg hgk).1) hru)
            rw [Ln.tstep_up HOK.out HLEN.out hg4 hlt] at CS
            have HBU := Lib.hid hbu
            have i1 : (0 : Int) ≤ (g : Int) := by omega
            have i2 : (g : Int) < (k : Int) := by omega
            have s1 : IntKind.i64.wrap ((g : Int) * 2) = (g : Int) * 2 := IntWalk.i64_in _ (by omega)
            have m1 : 0 < g ∧ g < 16 := by omega
            have HG4 := Lib.hid (show g * 2 = 1 ∨ g * 2 = 2 ∨ g * 2 = 4 ∨ g * 2 = 8 ∨ g * 2 = 16 by omega)
            have HG5 := Lib.hid (show g * 2 ≤ k by have := HN4.out; omega)
            clear hg hg4 hru hbu
            go_wp2_with fail
            refine CS.out.mono ?_
            rintro e w6 ⟨A6, n6, c6, rfl, ho6, hb6⟩
            obtain rfl : k = n6 := by have := ho6.len; rw [show (Ln.upL zss k (g * 2)).length = k from Ln.sqP_len _ _ _ _] at this; exact this
            have HO6 := Lib.hid ho6.rd
            have HB6' := Lib.hid (HBU.out.trans (hb6.mono HBU.out.size))
            clear ho6 hb6 CS
            go_wp2
            go_roundw
            case rel => exact ⟨g * 2, A6, c6, HG4.out, HG5.out, by go_num, rfl, HO6.out, HB6'.out⟩
            case measure => simp [intOf]; omega
          · obtain rfl : g = k := by omega
            rw [Ln.up_all zss HLEN.out] at hru
            have HU := Lib.hid hru
            have HR7 := Lib.hid (HR5.out.below hbu)
            have HT7 := Lib.hid (HT5.out.below hbu)
            have HB7 := Lib.hid (HB6.out.trans (hbu.mono HB6.out.size))
            have hsz7 : wr.heap.size ≤ wu.heap.size := by have := hbu.size; omega
            obtain ⟨cg, hcg⟩ : ∃ cg, cg = g / 2 := ⟨_, rfl⟩
            have q1 : (g : Int) / 2 = (cg : Int) := by omega
            have q2 : (0 : Int) ≤ (g : Int) := by omega
            have HCG := Lib.hid hcg
            clear hru hbu hg hgk hlt hcg
            go_wp2
            go_loopw [17, 18] (fun v i wd => ∃ (p pf : Nat) (B' : Option Addr) (cb' : Nat), pf = p / 2 ∧ (p = 1 ∨ p = 2 ∨ p = 4 ∨ p = 8 ∨ p = 16) ∧ p ≤ g ∧ i = .int .i64 (pf : Int) ∧ v = .slice B' g cb' ∧ RdR wd wd.heap.size B' g (Ln.dnL zss g p) ∧ Below wu.heap.size wu wd) (fun _ i _ => (intOf i).toNat)
            case atStart => exact ⟨g, cg, A, c, HCG.out, by have := HN4.out; omega, Nat.le_refl _, by go_num, rfl, by rw [Ln.dn_all HOK.out HLEN.out]; exact HR7.out.more hsz7, Below.refl _ _⟩
            case round =>
              rename World => wd
              obtain ⟨p, pf, B', cb', hpf, hp, hpk, rfl, rfl, hrd, hbd⟩ := hrel
              by_cases hlt : 1 < p
              · obtain ⟨q, rfl⟩ : ∃ q, p = q * 2 := ⟨p / 2, by omega⟩
                have hq1 : 1 ≤ q := by omega
                have hq4 : q = 1 ∨ q = 2 ∨ q = 4 ∨ q = 8 := by omega
                have hqg : q < g := by omega
                obtain rfl : q = pf := by omega
                have CS := Lib.hid (iTransposeStep_any b B' g cb' (Ln.dnL zss g (q * 2)) wd.heap.size (q : Int) wd (Ln.totL_sq (Ln.up_ok HOK.out HLEN.out hp hpk).2) hrd)
                rw [Ln.tstep_dn HOK.out HLEN.out hq4 hqg hpk] at CS
                have HBD := Lib.hid hbd
                have i1 : (0 : Int) < (q : Int) := by omega
                have i2 : (q : Int) < (g : Int) := by omega
                obtain ⟨cq, hcq⟩ : ∃ cq, cq = q / 2 := ⟨_, rfl⟩
                have q2 : (q : Int) / 2 = (cq : Int) := by omega
                have HCQ := Lib.hid hcq
                have q3 : (0 : Int) ≤ (q : Int) := by omega
                have HQ4 := Lib.hid hq4
                clear hrd hbd hp hpf hq4 hcq
                go_wp2_with fail
                refine CS.out.mono ?_
                rintro e w6 ⟨A6, n6, c6, rfl, ho6, hb6⟩
                obtain rfl : g = n6 := by have := ho6.len; rw [show (Ln.dnL zss g q).length = g from Ln.sqP_len _ _ _ _] at this; exact this
                have HO6 := Lib.hid ho6.rd
                have HB6' := Lib.hid (HBD.out.trans (hb6.mono HBD.out.size))
                clear ho6 hb6 CS
                go_wp2
                go_roundw
                case rel => exact ⟨q, cq, A6, c6, HCQ.out, by have := HQ4.out; omega, by omega, by go_num, rfl, HO6.out, HB6'.out⟩
                case measure => simp [intOf]; omega
              · obtain rfl : p = 1 := by omega
                rw [Ln.dn_one zss HLEN.out] at hrd
                have hU := HU.out.below hbd
                have hT := HT7.out.below hbd
                have hR := HR7.out.below hbd
                have hrow := tp_row (Ln.tr_ok HOK.out) ((Ln.trL_len _).trans HLEN.out) hn
                have C1 := Lib.hid (fun (p : BelBy wd) => calls_bel (r8rows_any B A3 g cb c3 (Ln.trL zss) _ _ p.W hn hrow (hU.below p.h) (hT.below p.h)))
                have C2 := Lib.hid (fun (p : BelBy wd) => calls_bel (r8rows_any B' A3 g cb' c3 (Ln.trL zss) _ _ p.W hn hrow (hrd.below p.h) (hT.below p.h)))
                obtain ⟨m, rfl⟩ : ∃ m, g = m + 1 := ⟨g - 1, by omega⟩
                obtain ⟨g3, o3, R3, m3, k3, rfl, _, hc3, _, hr3⟩ := hT.at_ (k := 0) (by omega)
                obtain ⟨g4, o4, R4, m4, k4, rfl, _, hc4, _, hr4⟩ := hR.at_ (k := m) (by omega)
                have hl3 : m3 = m + 1 := by
                  have h1 := hr3.len
                  have h2 := ((Ln.rowsOk_at (Ln.tr_ok HOK.out)).2.2 0 (by rw [Ln.trL_len, HLEN.out]; omega)).1
                  rw [Ln.trL_len, HLEN.out] at h2
                  omega
                have hl4 : m4 = m + 1 := by
                  have h1 := hr4.len
                  have h2 := ((Ln.rowsOk_at HOK.out).2.2 m (by rw [HLEN.out]; omega)).1
                  rw [HLEN.out] at h2
                  omega
                subst hl3
                subst hl4
                obtain ⟨g5, o5, rfl, _, hc5⟩ := hr3.at_ (k := m) (by omega)
                obtain ⟨g6, o6, rfl, _, hc6⟩ := hr4.at_ (k := 0) (by omega)
                have hx : ((Ln.trL zss).getD 0 []).getD m 0 = (zss.getD m []).getD 0 0 := Ln.el_tr zss 0 m (by rw [HLEN.out]; omega) (by rw [HLEN.out]; omega)
                rw [hx] at hc5
                obtain ⟨x, hxx⟩ : ∃ x, x = (zss.getD m []).getD 0 0 := ⟨_, rfl⟩
                rw [← hxx] at hc5 hc6
                have d1 := BelBy.cell hc3
                have d2 := BelBy.cell hc4
                have d3 := BelBy.cell hc5
                have d4 := BelBy.cell hc6
                rw [Nat.add_zero] at d1 d4
                have HBD := Lib.hid (HB7.out.trans (hbd.mono HB7.out.size))
                have i1 : ((m + 1 : Nat) : Int) - 1 = (m : Int) := by omega
                have hp0 : pf = 0 := by omega
                subst hp0
                clear hrd hbd hU hT hR hrow hc3 hc4 hc5 hc6 hr3 hr4 hx hxx hp hpk hlt
                go_wp2
                refine wp_region_quiet_bel (by kernel_rfl) (by kernel_rfl) ?_
                iterate 4 (go_big_quiet_step (first | (go_at_call 10; exact C1.out _)))
                repeat (go_big_quiet_step (first | (go_at_call 10; exact C2.out _)))
                refine wpQuiet_nil ?_
                rintro wA ⟨⟨_, hbo⟩, rfl⟩
                have HBA := Lib.hid (HBD.out.trans (hbo.mono HBD.out.size))
                clear hbo d1 d2 d3 d4
                go_wp2
                go_ret
                exact ⟨rfl, HBA.out⟩
end Go.Proofs.Ytigodbilfjppbaa.Wds
