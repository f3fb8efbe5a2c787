/-
  Registers: the code's function, and its helpers. One contract each.
-/
import Derived.Test.YtfmplneopmbfoaaDoorSrtI
import Derived.Test.YtfmplneopmbfoaaDoorMem
import Derived.Test.YtfmplneopmbfoaaDoorBxM
namespace Go.Proofs.YtfmplneopmbfoaaDoor.Wds
open Go.RowKit
set_option linter.unusedVariables false

theorem meets_any (f t f' t' : Int) (w : World) :
    Calls Tryd.prog 34 #[.agg #[.int .i64 f, .int .i64 t], .agg #[.int .i64 f', .int .i64 t']] w fun e w' => e = .returned (.bool (Ar.meets ⟨f, t⟩ ⟨f', t'⟩)) ∧ Below w.heap.size w w' := by
  have HB0 := Lib.hid (((Below.refl w.heap.size w).alloc (Nat.le_refl _) (.cells #[.int .i64 f, .int .i64 t] 34)).alloc (by simp) (.cells #[.int .i64 f', .int .i64 t'] 34))
  obtain ⟨r, hr⟩ : ∃ z, z = Ar.meets ⟨f, t⟩ ⟨f', t'⟩ := ⟨_, rfl⟩
  rw [← hr]
  rw [Ar.meets] at hr
  simp only at hr
  have hk := (BlkG.new w #[.int .i64 f, .int .i64 t]).alloc (.cells #[.int .i64 f', .int .i64 t'] 34)
  have p0 := hk.cell 0
  have p1 := hk.cell 1
  have hk2 := BlkG.new (w.alloc (.cells #[.int .i64 f, .int .i64 t] 34)) #[.int .i64 f', .int .i64 t']
  rw [World.size_alloc] at hk2
  have q0 := hk2.cell 0
  have q1 := hk2.cell 1
  clear hk hk2
  by_cases h0 : f < t'
  · have d0 : decide (f < t') = true := decide_eq_true h0
    by_cases h1 : f' < t
    · have d1 : decide (f' < t) = true := decide_eq_true h1
      obtain rfl : r = true := by rw [hr, d0, d1]; rfl
      clear hr
      go_enter Tryd.func34, Tryd.ntmps34
      go_wp2
      go_ret
      exact ⟨ret_bool (by simp), HB0.out⟩
    · have d1 : decide (f' < t) = false := decide_eq_false h1
      obtain rfl : r = false := by rw [hr, d1, Bool.and_false]
      clear hr
      go_enter Tryd.func34, Tryd.ntmps34
      go_wp2
      go_ret
      exact ⟨ret_bool (by simp), HB0.out⟩
  · have d0 : decide (f < t') = false := decide_eq_false h0
    obtain rfl : r = false := by rw [hr, d0, Bool.false_and]
    clear hr
    go_enter Tryd.func34, Tryd.ntmps34
    go_wp2
    go_ret
    exact ⟨ret_bool (by simp), HB0.out⟩
theorem RdG.tight {w : World} {B n : Nat} {A : Option Addr} {ss : List Rg.R} (h : RdG w B A n ss) : RdG w w.heap.size A n ss :=
  ⟨h.1, fun hn => by
    obtain ⟨g, o, e, _, hc⟩ := h.2 hn
    obtain ⟨g', o', e', _, hat⟩ := h.at_ (k := 0) hn
    rw [e] at e'
    injection e' with e'; injection e' with e1 e2; subst e1; subst e2
    exact ⟨g, o, e, World.block_lt_of_cell? w _ hat.1, hc⟩⟩
theorem memsI_ones {n : Nat} (hn : n ≤ 32) : Sc.memsI (2 ^ n - 1) = ints (List.range n) := by
  unfold Sc.memsI Sc.mems ints
  congr 1
  rw [Sc.filter_range_le hn fun k hk => by rw [Nat.testBit_two_pow_sub_one, decide_eq_false (by omega)]]
  rw [List.filter_eq_self]
  intro k hk
  rw [Nat.testBit_two_pow_sub_one, decide_eq_true (List.mem_range.1 hk)]
theorem tkn_lt {ss : List Rg.R} {L : List Nat} {g : Nat → Nat} {m x : Nat} (h : ∀ j, j < x → g j < 12) : Ar.tkn ss L g m x < 4096 := by
  refine Nat.lt_pow_two_of_testBit (n := 12) _ fun i hi => ?_
  cases e : (Ar.tkn ss L g m x).testBit i
  · rfl
  · obtain ⟨j, h1, _, h3⟩ := (Ar.tb_tkn _ _ _ _ _ _).1 e
    have := h j h1
    omega
set_option maxRecDepth 100000 in
set_option maxHeartbeats 8000000 in
theorem iAssignRegisters_any (A : Option Addr) (n c : Nat) (ss : List Rg.R) (B : Nat) (r : Int) (w : World) (hn : n ≤ 1048576) (h : RdG w B A n ss) (hTab : TabT w) :
    Calls Tryd.prog 11 #[.slice A n c, .int .i64 r] w (Ret1 (Ar.assign ss r).1 (Ar.assign ss r).2 w) := by
  obtain ⟨i0, hi, hz0, hz1, hz2⟩ := info_parts A_info64
  have CV := Lib.hid (fun (W : World) (hb : Below w.heap.size w W) => iValidRanges_any A n c ss B W hn (h.below hb))
  have CR := Lib.hid (fun W => isReg_any r W)
  have hl := h.len
  obtain ⟨v, hv⟩ : ∃ z, z = Rg.valid ss := ⟨_, rfl⟩
  obtain ⟨q, hq⟩ : ∃ z, z = Sp.isReg r := ⟨_, rfl⟩
  unfold Ar.assign
  rw [← hv] at CV
  rw [← hv, ← hq]
  rw [show decide (0 ≤ r ∧ r ≤ 12) = Sp.isReg r from rfl, ← hq] at CR
  have H := Lib.hid h.tight
  have HT := Lib.hid hTab
  clear h hTab
  have HB0 := Lib.hid ((Below.refl w.heap.size w).alloc (Nat.le_refl _) (.cells #[.slice A n c] 24))
  have k0 := Bx.new w 24 #[.slice A n c]
  have c0 := k0.cell 0
  cases v
  · clear hv hq k0
    go_enter Tryd.func11, Tryd.ntmps11
    go_wp2_with fail
    refine (CV.out _ HB0.out).mono ?_
    rintro e w1 ⟨rfl, hb⟩
    have HB1 := Lib.hid (HB0.out.trans (hb.mono HB0.out.size)); clear hb
    go_wp2
    go_ret2
    exact Ret1.no HB1.out
  cases q
  · clear hv hq
    go_enter Tryd.func11, Tryd.ntmps11
    go_wp2_with fail
    refine (CV.out _ HB0.out).mono ?_
    rintro e w1 ⟨rfl, hb⟩
    have HB1 := Lib.hid (HB0.out.trans (hb.mono HB0.out.size)); clear hb
    go_wp2_with fail
    refine (CR.out _).mono ?_
    rintro e w2 ⟨rfl, hb⟩
    have HB2 := Lib.hid (HB1.out.trans (hb.mono HB1.out.size)); clear hb
    go_wp2
    go_ret2
    exact Ret1.no HB2.out
  · have hvv : Rg.valid ss = true := hv.symm
    have hn12 : n ≤ 12 := by rw [← hl]; exact Rg.len_of_valid hvv
    have hr12 : 0 ≤ r ∧ r ≤ 12 := of_decide_eq_true hq.symm
    have HL := Lib.hid hl
    have CO := Lib.hid (fun W => ones_any n W (by omega))
    obtain ⟨ans, hans⟩ : ∃ a, a = (if (true && true && !Ar.badAt ss r ss.length) = true then (Ar.assigned ss, true) else ([], false)) := ⟨_, rfl⟩
    rw [← hans]
    have HANS := Lib.hid hans
    clear hv hq hl hvv hans
    go_enter Tryd.func11, Tryd.ntmps11
    go_wp2_with fail
    refine (CV.out _ HB0.out).mono ?_
    rintro e w1 ⟨rfl, hb⟩
    have k1 := k0.keep hb
    have HB1 := Lib.hid (HB0.out.trans (hb.mono HB0.out.size)); clear hb c0
    go_wp2_with fail
    refine (CR.out _).mono ?_
    rintro e w2 ⟨rfl, hb⟩
    have k2 := k1.keep hb
    have HB2 := Lib.hid (HB1.out.trans (hb.mono HB1.out.size)); clear hb
    have c2 := k2.cell 0
    go_wp2_with fail
    refine (CO.out _).mono ?_
    rintro e w3 ⟨rfl, rfl⟩
    have hs2 : w.heap.size < w2.heap.size := k2.lt
    go_wp2_with fail
    refine (members_any (2 ^ n - 1) w2 (by have := Sc.pow_lt (show n ≤ 31 by omega); omega) (HT.out.below HB2.out HT.out.lt)).mono ?_
    rintro e w3 ⟨A3, n3, c3, rfl, ho3, _, hc3, hb3⟩
    rw [memsI_ones (show n ≤ 32 by omega)] at ho3
    obtain rfl : n = n3 := by have := ho3.len; rw [ints_len, List.length_range] at this; exact this
    have k3 := k2.keep hb3
    have c3' := k3.cell 0
    have HB3 := Lib.hid (HB2.out.trans (hb3.mono HB2.out.size))
    have hs3 := hb3.size
    have CS := Lib.hid (stabS_any w.heap.size A n c ss A3 c3 w2.heap.size w3.heap.size w3 hn12 HL.out hs3 c3' hs2 ((H.out.below HB3.out).more (by omega)) ho3)
    clear hb3 ho3 c2
    go_wp2_with fail
    refine CS.out.mono ?_
    rintro e w4 ⟨rfl, ho4, hb4⟩
    have c4 : w4.cell? ⟨w.heap.size, 0, none⟩ = some (.slice A n c) := (hb4.cell (p := ⟨w.heap.size, 0, none⟩) hs2).trans c3'
    have HB4 := Lib.hid (HB3.out.trans (hb4.mono (by omega)))
    have hs4 := hb4.size
    have HO4 := Lib.hid (ho4.rd.more (show w3.heap.size ≤ w4.heap.size from hs4))
    have HC4 := Lib.hid c4
    clear ho4 hb4 CS c3' k0 k1 k2 k3
    go_wp2_with (refine wpList_make_blk _ rfl _ _ _ rfl i0 Tryd.underlying29 hi hz0 hz1 hz2 _ _ _ _ n rfl rfl rfl rfl (by omega) ?_)
    obtain ⟨L, hL⟩ : ∃ L, L = Ar.ord ss ss.length := ⟨_, rfl⟩
    have HLL := Lib.hid hL
    have hLn : Ar.ord ss n = L := by rw [hL, HL.out]
    rw [hLn] at HO4
    have LAT := Lib.hid (fun k (hk : k < n) => show L.getD k 0 < n by have := Ar.ord_at_lt (rs := ss) (i := ss.length) (a := k) (by rw [HL.out]; exact hk); rw [← hL, HL.out] at this; exact this)
    have ALEN := Lib.hid (fun m => show (Ar.asg ss L 0 m).length = n by rw [Ar.asg_len, HL.out])
    have AAT := Lib.hid (fun m j (hm : m ≤ n) (hj : j < m) => show (Ar.asg ss L 0 m).getD (L.getD j 0) 0 = (Ar.rg ss L j : Int) by rw [hL]; exact Ar.asg_at ss 0 (by rw [HL.out]; exact hm) hj)
    have BNO := Lib.hid (fun m k (hb : Ar.badAt ss r m = false) (hk : k < m) => show (Ar.rg ss L k : Int) < r by rw [hL]; exact Ar.bad_no hb hk)
    have BSU := Lib.hid (fun m => show Ar.badAt ss r (m + 1) = (Ar.badAt ss r m || decide (r ≤ (Ar.rg ss L m : Int))) by rw [hL]; exact Ar.bad_succ ss r m)
    have TKB := Lib.hid (fun m (hb : Ar.badAt ss r m = false) => show (Ar.tkn ss L (Ar.rg ss L) m m).testBit 12 = false by rw [hL]; exact Ar.tkn_bits hr12.2 hb 12 (Nat.le_refl _))
    have RGE := Lib.hid (fun m => show Ar.lm (Ar.tkn ss L (Ar.rg ss L) m m) = Ar.rg ss L m from (Ar.rg_eq ss L m).symm)
    have HAL := Lib.hid (show Ar.assigned ss = Ar.asg ss L 0 n by rw [Ar.assigned, ← hL, HL.out])
    have b0 : Blk (w4.alloc (.cells (Array.replicate n (Value.int .i64 0)) 2)) w4.heap.size (clls (Ar.asg ss L 0 0)) := by
      rw [Ar.asg, HL.out, ← clls_zero]; exact Blk.new w4 _
    have HBK0 := Lib.hid b0
    clear hL hLn b0
    go_loopw [33] (fun v wr => ∃ k : Nat, k ≤ n ∧ v = .int .i64 k ∧ Ar.badAt ss r k = false ∧ Blk wr w4.heap.size (clls (Ar.asg ss L 0 k)) ∧ Below w4.heap.size w4 wr) (fun v _ => n - (intOf v).toNat)
    case atStart => exact ⟨0, Nat.zero_le _, rfl, rfl, HBK0.out, (Below.refl _ _).alloc (Nat.le_refl _) _⟩
    case round =>
      rename World => wo
      obtain ⟨k, hk, rfl, hbad, hblk, hb⟩ := hrel
      by_cases hlt : k < n
      · have HBAD := Lib.hid hbad
        have HBLK := Lib.hid hblk
        have HB := Lib.hid hb
        have HO5 := Lib.hid (HO4.out.below hb)
        have H5 := Lib.hid ((H.out.below HB4.out).belowB hb HB4.out.size)
        have HC5 := Lib.hid ((hb.cell (p := ⟨w.heap.size, 0, none⟩) (World.block_lt_of_cell? w4 _ HC4.out)).trans HC4.out)
        clear hbad hblk hb
        obtain ⟨g, o, rfl, hg, hck⟩ := HO5.out.at_ hlt
        rw [ints_at] at hck
        have hin := LAT.out k hlt
        obtain ⟨i, hii⟩ : ∃ i, i = L.getD k 0 := ⟨_, rfl⟩
        rw [← hii] at hck hin
        have HI := Lib.hid hii
        clear hii
        have i1 : (0 : Int) ≤ (k : Int) := by omega
        have i2 : (k : Int) < (n : Int) := by omega
        have i3 : (k : Int) ≤ (c3 : Int) := by omega
        have i4 : (0 : Int) ≤ (i : Int) := by omega
        have i5 : (i : Int) < (n : Int) := by omega
        go_wp2
        go_loopw [10, 42] (fun tv v wr => ∃ x : Nat, x ≤ k ∧ v = .int .i64 x ∧ tv = .int .u32 ((Ar.tkn ss L (Ar.rg ss L) k x : Nat) : Int) ∧ Below wo.heap.size wo wr) (fun _ v _ => k - (intOf v).toNat)
        case atStart => exact ⟨0, Nat.zero_le _, rfl, rfl, Below.refl _ _⟩
        case round =>
          rename World => wi
          obtain ⟨x, hx, rfl, rfl, hb⟩ := hrel
          have htl := tkn_lt (ss := ss) (L := L) (g := Ar.rg ss L) (m := k) (x := x) (fun j hj => by have := BNO.out k j HBAD.out (by omega); omega)
          by_cases hlx : x < k
          · have hxn : x < n := by omega
            obtain ⟨g', o', e', _, hcx⟩ := (HO5.out.below hb).at_ hxn
            injection e' with e'; injection e' with e1 e2; subst e1; subst e2
            rw [ints_at] at hcx
            have hxl := LAT.out x hxn
            have hrx := AAT.out k x (by omega) hlx
            have hr12' := BNO.out k x HBAD.out hlx
            have HN := Lib.hid (show Ar.tkn ss L (Ar.rg ss L) k (x + 1) = if Ar.meets (Rg.nth ss (L.getD k 0)) (Rg.nth ss (L.getD x 0)) = true then Ar.tkn ss L (Ar.rg ss L) k x ||| 2 ^ Ar.rg ss L x else Ar.tkn ss L (Ar.rg ss L) k x by rw [Ar.tkn])
            obtain ⟨y, hy⟩ : ∃ y, y = L.getD x 0 := ⟨_, rfl⟩
            rw [← hy] at hcx hxl hrx HN
            rw [← HI.out] at HN
            obtain ⟨gq, oq, eA, _, c0, c1⟩ := (H5.out.below hb).at_ hin
            obtain ⟨gq', oq', eA', _, q0, q1⟩ := (H5.out.below hb).at_ hxl
            rw [eA] at eA'
            injection eA' with eA'; injection eA' with e1 e2; subst e1; subst e2
            have hca := (HBLK.out.keep hb).cell y
            rw [clls_get (by rw [ALEN.out]; omega), hrx] at hca
            have hcb := (hb.cell (p := ⟨w.heap.size, 0, none⟩) (World.block_lt_of_cell? wo _ HC5.out)).trans HC5.out
            have HEA := Lib.hid eA
            rw [eA] at hcb
            clear eA hrx hy
            obtain ⟨Y, hY⟩ : ∃ Y, Y = Rg.nth ss i := ⟨_, rfl⟩
            obtain ⟨Z, hZ⟩ : ∃ Z, Z = Rg.nth ss y := ⟨_, rfl⟩
            rw [← hY] at c0 c1 HN
            rw [← hZ] at q0 q1 HN
            obtain ⟨f, t⟩ := Y
            obtain ⟨f', t'⟩ := Z
            simp only at c0 c1 q0 q1
            clear hY hZ
            generalize Ar.tkn ss L (Ar.rg ss L) k x = tk at htl HN ⊢
            generalize Ar.rg ss L x = rx at hr12' HN hca
            obtain ⟨mt, hmt⟩ : ∃ m, m = Ar.meets ⟨f, t⟩ ⟨f', t'⟩ := ⟨_, rfl⟩
            have CM := Lib.hid (fun (p : BelBy wi) => calls_bel (meets_any f t f' t' p.W))
            rw [← hmt] at HN CM
            have HB6 := Lib.hid hb
            have d0 := BelBy.cell hcb
            have d1 := BelBy.cell c0
            have d2 := BelBy.cell c1
            have d3 := BelBy.cell q0
            have d4 := BelBy.cell q1
            have HCA := Lib.hid hca
            have CW := Lib.hid (fun W => withN_any tk rx W (by omega) (by omega))
            have j1 : (0 : Int) ≤ (x : Int) := by omega
            have j2 : (x : Int) < (k : Int) := by omega
            have j3 : (0 : Int) ≤ (y : Int) := by omega
            have j4 : (y : Int) < (n : Int) := by omega
            clear hmt hcb c0 c1 q0 q1 hca hb
            cases mt
            · have HN2 := Lib.hid (show Ar.tkn ss L (Ar.rg ss L) k (x + 1) = tk from HN.out)
              clear HN
              go_wp2
              refine wp_region_quiet_bel (by kernel_rfl) (by kernel_rfl) ?_
              repeat (go_big_quiet_step (first | (go_at_call 34; exact CM.out _)))
              refine wpQuiet_nil ?_
              rintro wq ⟨⟨_, hwq⟩, rfl⟩
              have HB7 := Lib.hid (HB6.out.trans (hwq.mono HB6.out.size))
              clear hwq d0 d1 d2 d3 d4
              go_wp2
              go_roundw
              case rel => exact ⟨x + 1, by omega, by go_num, by rw [HN2.out], HB7.out⟩
              case measure => simp [intOf]; omega
            · have HN2 := Lib.hid (show Ar.tkn ss L (Ar.rg ss L) k (x + 1) = tk ||| 2 ^ rx from HN.out)
              clear HN
              go_wp2
              refine wp_region_quiet_bel (by kernel_rfl) (by kernel_rfl) ?_
              repeat (go_big_quiet_step (first | (go_at_call 34; exact CM.out _)))
              refine wpQuiet_nil ?_
              rintro wq ⟨⟨_, hwq⟩, rfl⟩
              have HB7 := Lib.hid (HB6.out.trans (hwq.mono HB6.out.size))
              have hcq : wq.cell? ⟨w4.heap.size, y, none⟩ = some (.int .i64 (rx : Int)) := (hwq.cell (p := ⟨w4.heap.size, y, none⟩) (World.block_lt_of_cell? wi _ HCA.out)).trans HCA.out
              clear hwq d0 d1 d2 d3 d4
              go_wp2_with fail
              refine (CW.out _).mono ?_
              rintro e w7 ⟨rfl, rfl⟩
              go_wp2
              go_roundw
              case rel => exact ⟨x + 1, by omega, by go_num, by rw [HN2.out], HB7.out⟩
              case measure => simp [intOf]; omega
          · have hxk : x = k := by omega
            subst hxk
            have hbit := TKB.out x HBAD.out
            obtain ⟨t1, t2, t3⟩ := Ar.lm_spec (by decide) hbit
            rw [RGE.out] at t1 t2 t3
            have CMS := Lib.hid (missing_any (Ar.tkn ss L (Ar.rg ss L) x x) (Ar.rg ss L x) wi (by omega) (by omega) t2 t3 (HT.out.below ((HB4.out.trans (HB.out.mono HB4.out.size)).trans (hb.mono (Nat.le_trans HB4.out.size HB.out.size))) HT.out.lt))
            have HBS := Lib.hid (BSU.out x)
            have HAS := Lib.hid (show Ar.asg ss L 0 (x + 1) = (Ar.asg ss L 0 x).set i (Ar.rg ss L x : Int) by rw [Ar.asg, ← HI.out])
            generalize Ar.tkn ss L (Ar.rg ss L) x x = tk at CMS ⊢
            generalize Ar.rg ss L x = rx at CMS HBS HAS t1
            have hbk := HBLK.out.keep hb
            have f1 := hbk.frozen i
            have ca : wi.cell? ⟨w4.heap.size, i, none⟩ = some (.int .i64 ((Ar.asg ss L 0 x).getD i 0)) := by rw [hbk.cell, clls_get (by rw [ALEN.out]; omega)]
            obtain ⟨old, hold⟩ : ∃ z, z = (Ar.asg ss L 0 x).getD i 0 := ⟨_, rfl⟩
            rw [← hold] at ca
            have hset := hbk.set_ i (.int .i64 (rx : Int))
            rw [clls_set, ← HAS.out] at hset
            have HST := Lib.hid hset
            have HB6 := Lib.hid ((HB.out.trans (hb.mono HB.out.size)).setCell (p := ⟨w4.heap.size, i, none⟩) (Nat.le_refl _) (.int .i64 (rx : Int)))
            clear hbk hset hb hold hbit t2 t3 htl
            go_wp2_with fail
            refine CMS.out.mono ?_
            rintro e w7 ⟨rfl, rfl⟩
            have cr : (wi.setCell ⟨w4.heap.size, i, none⟩ (.int .i64 (rx : Int))).cell? ⟨w4.heap.size, i, none⟩ = some (.int .i64 (rx : Int)) := by
              rw [HST.out.cell, clls_get (by rw [ALEN.out]; omega), HAS.out, List.getD_eq_getElem?_getD, List.getElem?_set, if_pos rfl, if_pos (by rw [ALEN.out]; omega)]; rfl
            by_cases hge : r ≤ (rx : Int)
            · have d1 : decide (r ≤ (rx : Int)) = true := decide_eq_true hge
              rw [d1, Bool.or_true] at HBS
              have HA2 := Lib.hid (show ans = ([], false) by rw [HANS.out, Ar.bad_more (show x + 1 ≤ ss.length by rw [HL.out]; omega) HBS.out]; rfl)
              clear hge
              go_wp2
              go_ret2
              rw [HA2.out]
              exact Ret1.no (HB4.out.trans (HB6.out.mono HB4.out.size))
            · have d1 : decide (r ≤ (rx : Int)) = false := decide_eq_false hge
              rw [d1, HBAD.out] at HBS
              have HB8 := Lib.hid (show Ar.badAt ss r (x + 1) = false from HBS.out)
              clear HBS
              go_wp2
              go_roundw
              case rel => exact ⟨x + 1, by omega, by go_num, HB8.out, HST.out, HB6.out⟩
              case measure => simp [intOf]; omega
      · have hkn : k = n := by omega
        subst hkn
        have HA2 := Lib.hid (show ans = (Ar.asg ss L 0 k, true) by rw [HANS.out, HL.out, hbad, HAL.out]; rfl)
        have HBK := Lib.hid hblk
        have HB := Lib.hid (HB4.out.trans (hb.mono HB4.out.size))
        clear hbad hblk hb
        go_wp2
        go_ret2
        rw [HA2.out]
        exact Ret1.of_blk HBK.out (ALEN.out _) HB4.out.size (by omega) HB.out
end Go.Proofs.YtfmplneopmbfoaaDoor.Wds
