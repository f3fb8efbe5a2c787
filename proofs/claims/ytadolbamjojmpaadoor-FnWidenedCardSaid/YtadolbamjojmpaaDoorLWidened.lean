/-
  The walk of the law FnWidened: for every input that can be read it returns true, and nothing that was there has changed.
-/
import Derived.Test.YtadolbamjojmpaaDoorDraw8
import Derived.Test.YtadolbamjojmpaaDoorLan6
import Derived.Test.YtadolbamjojmpaaDoorWid
import Derived.Test.YtadolbamjojmpaaDoorWdnM
namespace Go.Proofs.YtadolbamjojmpaaDoor.Wds
open Go.RowKit Go.Proofs.YtadolbamjojmpaaDoor.Err
set_option linter.unusedVariables false

theorem widC {b : Int} {s : Bool} {A : Option Addr} {n m c : Nat} {xs : List Int} {B : Nat} {w : World} (hb : b = 4 ∨ b = 8) (hm : n = 2 * m) (hm2 : 2 ≤ m) (hn : n ≤ 1048576) (h : Rd w B A n xs) (hv : Ln.vec b xs = true) :
    Calls Tryd.prog 8 #[.int .i64 b, .slice A n c, .bool s] w (Ret2 (Ln.tab (fun i => Ln.wide b s (xs.getD i 0)) m) (Ln.tab (fun i => Ln.wide b s (xs.getD (m + i) 0)) m) true w) :=
  iWid_yes b s A n m c xs B w hn hm hm2 (by omega) h hv
theorem narC {b mode : Int} {A1 A2 : Option Addr} {n c1 c2 : Nat} {xs ys : List Int} {B1 B2 : Nat} {w : World} (hb : b = 4 ∨ b = 8) (hm : 0 ≤ mode ∧ mode ≤ 2) (hn : n ≤ 8) (hn0 : 0 < n) (h1 : Rd w B1 A1 n xs) (h2 : Rd w B2 A2 n ys) (hbo : Ln.both (2 * b) xs ys = true) (hg : ErrT w) :
    Calls Tryd.prog 9 #[.int .i64 (2 * b), .slice A1 n c1, .slice A2 n c2, .int .i64 mode] w (Ret1 (Ln.tab (fun i => Ln.nf (2 * b) mode ((xs ++ ys).getD i 0)) (n + n)) true w) :=
  iNar_yes (2 * b) mode A1 A2 n c1 c2 xs ys B1 B2 w (by omega) hm hn hn0 h1 h2 hbo hg
theorem lanes_nat {n : Nat} (h : n = 2 ∨ n = 4 ∨ n = 8 ∨ n = 16) : Ln.lanes n = true := by rcases h with rfl | rfl | rfl | rfl <;> rfl
set_option maxHeartbeats 40000000 in
set_option maxRecDepth 100000 in
theorem law_widened (a0 : Option Addr) (len0 cap0 : Nat) (z0 : List Int) (a1 : Option Addr) (len1 cap1 : Nat) (z1 : List Int) (w : World) (r0 : IsRow .u8 w a0 len0 cap0 z0) (r1 : IsRow .u8 w a1 len1 cap1 z1) (hErr : ErrT w) :
    Calls Tryd.prog 3 #[.slice a0 len0 cap0, .slice a1 len1 cap1] w fun e w' => e = .returned (.bool true) ∧ Below w.heap.size w w' := by
  have cl := r8long_any a0 a1 len0 cap0 len1 cap1 w r0.len' r1.len'
  by_cases hlong : 48 < len0 ∨ 48 < len1
  · rw [decide_eq_true hlong] at cl
    have CL := Lib.hid cl
    clear cl hlong r0 r1 hErr
    go_enter Tryd.func3, Tryd.ntmps3
    go_wp2_with fail
    refine CL.out.mono ?_
    rintro e w' ⟨rfl, rfl⟩
    go_wp2_with fail
    go_ret
    exact ⟨rfl, Below.refl _ _⟩
  · rw [decide_eq_false hlong] at cl
    have CL := Lib.hid cl
    have R0 := Lib.hid (fun (W : World) (hb : Below w.heap.size w W) => r0.below hb r0.block)
    have R1 := Lib.hid (fun (W : World) (hb : Below w.heap.size w W) => r1.below hb r1.block)
    have HE := Lib.hid (fun (W : World) (hb : Below w.heap.size w W) => hErr.below hb hErr.lt)
    clear cl hlong r0 r1 hErr
    go_enter Tryd.func3, Tryd.ntmps3
    go_wp2_with fail
    refine CL.out.mono ?_
    rintro e w' ⟨rfl, rfl⟩
    go_wp2_with fail
    refine (r8at_any 40 2 _ _ _ z0 _ (by omega) (by omega) (by omega) (by omega) (R0.out _ (Below.refl _ _))).mono ?_
    rintro e w1 ⟨zb, rfl, zb0, zb1, rfl⟩
    obtain ⟨b, hb⟩ : ∃ b, 4 + 4 * zb = b := ⟨_, rfl⟩
    have s1 : IntKind.i64.wrap (4 * zb) = 4 * zb := IntWalk.i64_in _ (by omega)
    have s2 : IntKind.i64.wrap b = b := IntWalk.i64_in _ (by omega)
    have s3 : IntKind.i64.wrap (2 * b) = 2 * b := IntWalk.i64_in _ (by omega)
    have HBB := Lib.hid (show b = 4 ∨ b = 8 by omega)
    have HBI := Lib.hid (show Wd.IsBits b by unfold Wd.IsBits; omega)
    have HBI2 := Lib.hid (show Wd.IsBits (2 * b) by unfold Wd.IsBits; omega)
    go_wp2_with fail
    refine (r8at_any 40 2 _ _ _ z1 _ (by omega) (by omega) (by omega) (by omega) (R1.out _ (Below.refl _ _))).mono ?_
    rintro e w1 ⟨zl, rfl, zl0, zl1, rfl⟩
    obtain ⟨m, hm⟩ : ∃ m : Nat, m = (2 * (1 + zl)).toNat := ⟨_, rfl⟩
    obtain ⟨n, hnm⟩ : ∃ n : Nat, n = 2 * m := ⟨_, rfl⟩
    have hn : 4 * (1 + zl) = (n : Int) := by omega
    have s4 : IntKind.i64.wrap (1 + zl) = 1 + zl := IntWalk.i64_in _ (by omega)
    have s5 : IntKind.i64.wrap (n : Int) = (n : Int) := IntWalk.i64_in _ (by omega)
    have hn4 : n = 4 ∨ n = 8 := by omega
    have hm4 : m = 2 ∨ m = 4 := by omega
    have HN4 := Lib.hid hn4
    have HM := Lib.hid (And.intro hnm hm4)
    have hn0 : 0 < n := by omega
    have hn8 : n ≤ 8 := by omega
    have HLN := Lib.hid (lanes_nat (n := n) (by omega))
    clear hm hnm hn4 hm4
    go_wp2_with fail
    refine (r8vec_any b n _ _ _ z0 _ HBI.out HLN.out (R0.out _ (Below.refl _ _))).mono ?_
    rintro e w3 ⟨ga, ca, xs, rfl, hoa, hnc, hva, hb3⟩
    have HA := Lib.hid hoa.rd
    have HVA := Lib.hid hva
    have HLA := Lib.hid hoa.len
    have HB3 := Lib.hid hb3; clear hoa hva hb3 hnc
    go_wp2_with fail
    refine (r8at_any 41 2 _ _ _ z1 _ (by omega) (by omega) (by omega) (by omega) (R1.out _ HB3.out)).mono ?_
    rintro e w4 ⟨zs, rfl, zs0, zs1, rfl⟩
    have hs : zs = 0 ∨ zs = 1 := by omega
    rcases hs with rfl | rfl
    · have HW := Lib.hid (fun i (hi : i < n) => Ln.vec_word HVA.out (k := i) (by rw [HLA.out]; exact hi))
      have HLX := Lib.hid (show xs.length = m + m by rw [HLA.out]; have := HM.out.1; omega)
      have hm8 : m ≤ 4 := by have := HM.out.2; omega
      have hm0 : 0 < m := by have := HM.out.2; omega
      have hmm : m + m = n := by have := HM.out.1; omega
      have hlm := lanes_nat (n := m) (by have := HM.out.2; omega)
      have HBO := Lib.hid (Ln.both_of (Ln.vec_tab (b := 2 * b) (f := fun i => Ln.wide b false (xs.getD i 0)) hlm (fun i hi => wide_word HBB.out (HW.out i (by omega)))) (Ln.vec_tab (b := 2 * b) (f := fun i => Ln.wide b false (xs.getD (m + i) 0)) hlm (fun i hi => wide_word HBB.out (HW.out (m + i) (by omega)))) (by rw [Ln.tab_len, Ln.tab_len]))
      have BL1 := Lib.hid (back_list (b := b) (mode := 1) (s := false) HLX.out (fun i hi => nf_u HBB.out (HW.out i (by omega))))
      have BL0 := Lib.hid (back_list (b := b) (mode := 0) (s := false) HLX.out (fun i hi => nf_cut HBB.out (HW.out i (by omega))))
      have HMM := Lib.hid hmm
      have HNM := Lib.hid (show n = 2 * m by omega)
      clear hmm
      go_wp2_with fail
      refine (widC HBB.out HNM.out (by have := HM.out.2; omega) (by omega) HA.out HVA.out).mono ?_
      rintro e w5 ⟨Al, nl, kl, Ah, nh, kh, rfl, hol, hoh, _, _, _, hb⟩
      obtain rfl : m = nl := by have := hol.len; rw [Ln.tab_len] at this; exact this
      obtain rfl : m = nh := by have := hoh.len; rw [Ln.tab_len] at this; exact this
      have HLo := Lib.hid hol.rd
      have HHi := Lib.hid hoh.rd
      have HA5 := Lib.hid (HA.out.below hb)
      have HB5 := Lib.hid (HB3.out.trans (hb.mono HB3.out.size)); clear hol hoh hb HA
      go_wp2_with fail
      refine (narC HBB.out (by omega) (by omega) hm0 HLo.out HHi.out HBO.out (HE.out _ HB5.out)).mono ?_
      rw [BL1.out]
      rintro e w6 ⟨A6, n6, c6, rfl, ho6, _, hb⟩
      obtain rfl : n = n6 := by have := ho6.len; rw [HLA.out] at this; exact this
      have HLo6 := Lib.hid (HLo.out.below hb)
      have HHi6 := Lib.hid (HHi.out.below hb)
      have HA6 := Lib.hid (HA5.out.below hb)
      have HK6 := Lib.hid ho6.rd
      have HB6 := Lib.hid (HB5.out.trans (hb.mono HB5.out.size)); clear ho6 hb HA5 HLo HHi
      go_wp2_with fail
      refine (narC (mode := 0) HBB.out (by omega) (by omega) hm0 HLo6.out HHi6.out HBO.out (HE.out _ HB6.out)).mono ?_
      rw [BL0.out]
      rintro e w7 ⟨A7, n7, c7, rfl, ho7, _, hb⟩
      obtain rfl : n = n7 := by have := ho7.len; rw [HLA.out] at this; exact this
      have HA7 := Lib.hid (HA6.out.below hb)
      have HK7 := Lib.hid (HK6.out.below hb)
      have HC7 := Lib.hid ho7.rd
      have HB7 := Lib.hid (HB6.out.trans (hb.mono HB6.out.size)); clear ho7 hb HA6 HK6 HLo6 HHi6
      go_wp2_with fail
      refine (r8same_any _ _ n _ _ _ _ _ _ (by omega) HK7.out HA7.out).mono ?_
      rintro e w8 ⟨rfl, hb⟩
      have HA8 := Lib.hid (HA7.out.below hb)
      have HC8 := Lib.hid (HC7.out.below hb)
      have HB8 := Lib.hid (HB7.out.trans (hb.mono HB7.out.size)); clear hb HA7 HC7
      go_wp2_with fail
      refine (r8same_any _ _ n _ _ _ _ _ _ (by omega) HC8.out HA8.out).mono ?_
      rintro e w9 ⟨rfl, hb⟩
      have HB9 := Lib.hid (HB8.out.trans (hb.mono HB8.out.size)); clear hb HA8 HC8
      go_wp2_with fail
      refine (r8vec_any (2 * b) n _ _ _ z1 _ HBI2.out HLN.out (R1.out _ HB9.out)).mono ?_
      rintro e w10 ⟨gy, cy, ys, rfl, hoy, _, hvy, hb⟩
      have HY := Lib.hid hoy.rd
      have HVY := Lib.hid hvy
      have HLY := Lib.hid hoy.len
      have HB10 := Lib.hid (HB9.out.trans (hb.mono HB9.out.size)); clear hoy hvy hb
      go_wp2_with fail
      refine (narC (mode := 2) HBB.out (by omega) hn8 hn0 HY.out HY.out (Ln.both_of HVY.out HVY.out rfl) (HE.out _ HB10.out)).mono ?_
      rintro e w11 ⟨A11, N, c11, rfl, ho11, _, hb⟩
      have hN : n + n = N := by have := ho11.len; rw [Ln.tab_len] at this; exact this
      rw [hN] at ho11
      obtain ⟨gn, on, rfl, _, _⟩ := ho11.rd.at_ (k := 0) (by omega)
      have HY11 := Lib.hid (HY.out.below hb)
      have HN11 := Lib.hid ho11.rd
      have HB11 := Lib.hid (HB10.out.trans (hb.mono HB10.out.size)); clear ho11 hb HY
      have t1 : 2 * (n : Int) = (N : Int) := by omega
      have t2 : IntKind.i64.wrap (N : Int) = (N : Int) := IntWalk.i64_in _ (by omega)
      have HNN := Lib.hid hN; clear hN
      go_wp2_with fail
      go_loopw [20] (fun i wr => ∃ k : Nat, k ≤ n ∧ i = .int .i64 (k : Int) ∧ Below w11.heap.size w11 wr) (fun i _ => n - (intOf i).toNat)
      case atStart => exact ⟨0, Nat.zero_le _, rfl, by repeat (first | exact Below.refl _ _ | exact below_drewN (Below.refl _ _) _ | refine Below.drew ?_)⟩
      case round =>
        obtain ⟨k, hk, rfl, hbw⟩ := hrel
        have HBW := Lib.hid hbw; clear hbw
        by_cases hlt : k < n
        · obtain ⟨q, hq⟩ : ∃ q, q = k + n := ⟨_, rfl⟩
          have hyw := Ln.vec_word HVY.out (k := k) (by rw [HLY.out]; exact hlt)
          have hN := HNN.out
          obtain ⟨g', o', e', _, hc1⟩ := HY11.out.at_ hlt
          injection e' with e'; injection e' with e1 e2; subst e1; subst e2
          obtain ⟨g', o', e', _, hc2⟩ := HN11.out.at_ (k := k) (by omega)
          injection e' with e'; injection e' with e1 e2; subst e1; subst e2
          obtain ⟨g', o', e', _, hc3⟩ := HN11.out.at_ (k := q) (by omega)
          injection e' with e'; injection e' with e1 e2; subst e1; subst e2
          rw [Nat.zero_add] at hc1
          rw [Ln.tab_getD _ _ _ (by omega), List.getD_eq_getElem?_getD, List.getElem?_append_left (by rw [HLY.out]; exact hlt), ← List.getD_eq_getElem?_getD] at hc2
          rw [Ln.tab_getD _ _ _ (by omega), List.getD_eq_getElem?_getD, List.getElem?_append_right (by rw [HLY.out]; omega), HLY.out, show q - n = k by omega, ← List.getD_eq_getElem?_getD] at hc3
          obtain ⟨y, hy⟩ : ∃ z, z = ys.getD k 0 := ⟨_, rfl⟩
          rw [← hy] at hc1 hc2 hc3 hyw
          have hnw : Wd.IsWord b (Ln.nf (2 * b) 2 y) := ⟨HBI.out, by have h := Wd.wr_word HBI.out (Wd.cl b (Wd.sg (2 * b) y)); have e0 : Ln.nf (2 * b) 2 y = Wd.wr (2 * b / 2) (Wd.cl (2 * b / 2) (Wd.sg (2 * b) y)) := rfl; rw [e0, half_two]; exact h⟩
          have hsn := sg_near (b := b) (y := y) HBB.out
          obtain ⟨r, hr⟩ : ∃ z, z = Ln.nf (2 * b) 2 y := ⟨_, rfl⟩
          rw [← hr] at hc2 hc3 hnw hsn
          obtain ⟨x, hx⟩ : ∃ z, z = Wd.sg (2 * b) y := ⟨_, rfl⟩
          have hxr := Wd.sg_range hyw.1 hyw.2
          rw [← hx] at hsn hxr
          obtain ⟨v, hv⟩ : ∃ z, z = Wd.cl b x := ⟨_, rfl⟩
          have CS1 := Lib.hid (fun W => signedOf_yes (2 * b) y W hyw)
          have CS2 := Lib.hid (fun W => signedOf_yes b r W hnw)
          rw [← hx] at CS1
          rw [hsn, ← hv] at CS2
          have hd1 := (HBW.out.cell (p := ⟨gy, k, none⟩) (World.block_lt_of_cell? w11 _ hc1)).trans hc1
          have hd2 := (HBW.out.cell (p := ⟨gn, on + k, none⟩) (World.block_lt_of_cell? w11 _ hc2)).trans hc2
          have hd3 := (HBW.out.cell (p := ⟨gn, on + q, none⟩) (World.block_lt_of_cell? w11 _ hc3)).trans hc3
          have j0 : (0 : Int) ≤ (k : Int) := by omega
          have j1 : (k : Int) < (n : Int) := by omega
          have j2 : (k : Int) + (n : Int) = (q : Int) := by omega
          have j3 : (q : Int) < (N : Int) := by omega
          have j4 : (k : Int) < (N : Int) := by omega
          have j5 : (0 : Int) ≤ (q : Int) := by omega
          have j6 : IntKind.i64.wrap (q : Int) = (q : Int) := IntWalk.i64_in _ (by omega)
          have hxl : -32768 ≤ x ∧ x < 32768 := by omega
          have hbb := HBB.out
          clear hy hyw hnw hsn hr hx hxr hc1 hc2 hc3 hq hN HBO BL1 BL0
          rcases hbb with hb4 | hb8
          · obtain rfl : b = 4 := hb4
            by_cases hA : x < -8
            · obtain rfl : v = -8 := by rw [hv]; show Wd.cl 4 x = _; unfold Wd.cl; rw [show Wd.hf 4 = 8 from rfl]; (repeat split) <;> omega
              have f0 : x < -8 := by omega
              have d0 : decide (x < -8) = true := decide_eq_true f0
              have f1 : ¬ 8 ≤ x := by omega
              have d1 : decide (8 ≤ x) = false := decide_eq_false f1
              have f2 : ¬ -8 ≤ x := by omega
              have d2 : decide (-8 ≤ x) = false := decide_eq_false f2
              have f3 : x < 8 := by omega
              have d3 : decide (x < 8) = true := decide_eq_true f3
              clear hv
              go_wp2_with fail
              refine (CS1.out _).mono ?_
              rintro e wa ⟨rfl, rfl⟩
              go_wp2_with fail
              refine (CS2.out _).mono ?_
              rintro e wb ⟨rfl, rfl⟩
              go_wp2
              go_quiet (fail)
              go_wp2
              go_roundw
              case rel => first | exact ⟨k + 1, by omega, by go_num, below_drewN HBW.out _⟩ | ((repeat apply Exists.intro); exact ⟨⟨k + 1, by omega, by go_num, below_drewN HBW.out _⟩, rfl⟩)
              case measure => simp [intOf]; omega
            · by_cases hB : 8 ≤ x
              · obtain rfl : v = 7 := by rw [hv]; show Wd.cl 4 x = _; unfold Wd.cl; rw [show Wd.hf 4 = 8 from rfl]; (repeat split) <;> omega
                have f0 : ¬ x < -8 := by omega
                have d0 : decide (x < -8) = false := decide_eq_false f0
                have f1 : 8 ≤ x := by omega
                have d1 : decide (8 ≤ x) = true := decide_eq_true f1
                have f2 : -8 ≤ x := by omega
                have d2 : decide (-8 ≤ x) = true := decide_eq_true f2
                have f3 : ¬ x < 8 := by omega
                have d3 : decide (x < 8) = false := decide_eq_false f3
                clear hv
                go_wp2_with fail
                refine (CS1.out _).mono ?_
                rintro e wa ⟨rfl, rfl⟩
                go_wp2_with fail
                refine (CS2.out _).mono ?_
                rintro e wb ⟨rfl, rfl⟩
                go_wp2
                go_quiet (fail)
                go_wp2
                go_roundw
                case rel => first | exact ⟨k + 1, by omega, by go_num, below_drewN HBW.out _⟩ | ((repeat apply Exists.intro); exact ⟨⟨k + 1, by omega, by go_num, below_drewN HBW.out _⟩, rfl⟩)
                case measure => simp [intOf]; omega
              · obtain rfl : v = x := by rw [hv]; show Wd.cl 4 x = _; unfold Wd.cl; rw [show Wd.hf 4 = 8 from rfl]; (repeat split) <;> omega
                have f0 : ¬ v < -8 := by omega
                have d0 : decide (v < -8) = false := decide_eq_false f0
                have f1 : ¬ 8 ≤ v := by omega
                have d1 : decide (8 ≤ v) = false := decide_eq_false f1
                have f2 : -8 ≤ v := by omega
                have d2 : decide (-8 ≤ v) = true := decide_eq_true f2
                have f3 : v < 8 := by omega
                have d3 : decide (v < 8) = true := decide_eq_true f3
                clear hv
                go_wp2_with fail
                refine (CS1.out _).mono ?_
                rintro e wa ⟨rfl, rfl⟩
                go_wp2_with fail
                refine (CS2.out _).mono ?_
                rintro e wb ⟨rfl, rfl⟩
                go_wp2
                go_quiet (fail)
                go_wp2
                go_roundw
                case rel => first | exact ⟨k + 1, by omega, by go_num, below_drewN HBW.out _⟩ | ((repeat apply Exists.intro); exact ⟨⟨k + 1, by omega, by go_num, below_drewN HBW.out _⟩, rfl⟩)
                case measure => simp [intOf]; omega
          · obtain rfl : b = 8 := hb8
            by_cases hA : x < -128
            · obtain rfl : v = -128 := by rw [hv]; show Wd.cl 8 x = _; unfold Wd.cl; rw [show Wd.hf 8 = 128 from rfl]; (repeat split) <;> omega
              have f0 : x < -128 := by omega
              have d0 : decide (x < -128) = true := decide_eq_true f0
              have f1 : ¬ 128 ≤ x := by omega
              have d1 : decide (128 ≤ x) = false := decide_eq_false f1
              have f2 : ¬ -128 ≤ x := by omega
              have d2 : decide (-128 ≤ x) = false := decide_eq_false f2
              have f3 : x < 128 := by omega
              have d3 : decide (x < 128) = true := decide_eq_true f3
              clear hv
              go_wp2_with fail
              refine (CS1.out _).mono ?_
              rintro e wa ⟨rfl, rfl⟩
              go_wp2_with fail
              refine (CS2.out _).mono ?_
              rintro e wb ⟨rfl, rfl⟩
              go_wp2
              go_quiet (fail)
              go_wp2
              go_roundw
              case rel => first | exact ⟨k + 1, by omega, by go_num, below_drewN HBW.out _⟩ | ((repeat apply Exists.intro); exact ⟨⟨k + 1, by omega, by go_num, below_drewN HBW.out _⟩, rfl⟩)
              case measure => simp [intOf]; omega
            · by_cases hB : 128 ≤ x
              · obtain rfl : v = 127 := by rw [hv]; show Wd.cl 8 x = _; unfold Wd.cl; rw [show Wd.hf 8 = 128 from rfl]; (repeat split) <;> omega
                have f0 : ¬ x < -128 := by omega
                have d0 : decide (x < -128) = false := decide_eq_false f0
                have f1 : 128 ≤ x := by omega
                have d1 : decide (128 ≤ x) = true := decide_eq_true f1
                have f2 : -128 ≤ x := by omega
                have d2 : decide (-128 ≤ x) = true := decide_eq_true f2
                have f3 : ¬ x < 128 := by omega
                have d3 : decide (x < 128) = false := decide_eq_false f3
                clear hv
                go_wp2_with fail
                refine (CS1.out _).mono ?_
                rintro e wa ⟨rfl, rfl⟩
                go_wp2_with fail
                refine (CS2.out _).mono ?_
                rintro e wb ⟨rfl, rfl⟩
                go_wp2
                go_quiet (fail)
                go_wp2
                go_roundw
                case rel => first | exact ⟨k + 1, by omega, by go_num, below_drewN HBW.out _⟩ | ((repeat apply Exists.intro); exact ⟨⟨k + 1, by omega, by go_num, below_drewN HBW.out _⟩, rfl⟩)
                case measure => simp [intOf]; omega
              · obtain rfl : v = x := by rw [hv]; show Wd.cl 8 x = _; unfold Wd.cl; rw [show Wd.hf 8 = 128 from rfl]; (repeat split) <;> omega
                have f0 : ¬ v < -128 := by omega
                have d0 : decide (v < -128) = false := decide_eq_false f0
                have f1 : ¬ 128 ≤ v := by omega
                have d1 : decide (128 ≤ v) = false := decide_eq_false f1
                have f2 : -128 ≤ v := by omega
                have d2 : decide (-128 ≤ v) = true := decide_eq_true f2
                have f3 : v < 128 := by omega
                have d3 : decide (v < 128) = true := decide_eq_true f3
                clear hv
                go_wp2_with fail
                refine (CS1.out _).mono ?_
                rintro e wa ⟨rfl, rfl⟩
                go_wp2_with fail
                refine (CS2.out _).mono ?_
                rintro e wb ⟨rfl, rfl⟩
                go_wp2
                go_quiet (fail)
                go_wp2
                go_roundw
                case rel => first | exact ⟨k + 1, by omega, by go_num, below_drewN HBW.out _⟩ | ((repeat apply Exists.intro); exact ⟨⟨k + 1, by omega, by go_num, below_drewN HBW.out _⟩, rfl⟩)
                case measure => simp [intOf]; omega
        · have hkn : ¬ (k : Int) < (n : Int) := by omega
          go_wp2
          go_ret
          exact ⟨rfl, HB11.out.trans (HBW.out.mono HB11.out.size)⟩
    · have HW := Lib.hid (fun i (hi : i < n) => Ln.vec_word HVA.out (k := i) (by rw [HLA.out]; exact hi))
      have HLX := Lib.hid (show xs.length = m + m by rw [HLA.out]; have := HM.out.1; omega)
      have hm8 : m ≤ 4 := by have := HM.out.2; omega
      have hm0 : 0 < m := by have := HM.out.2; omega
      have hmm : m + m = n := by have := HM.out.1; omega
      have hlm := lanes_nat (n := m) (by have := HM.out.2; omega)
      have HBO := Lib.hid (Ln.both_of (Ln.vec_tab (b := 2 * b) (f := fun i => Ln.wide b true (xs.getD i 0)) hlm (fun i hi => wide_word HBB.out (HW.out i (by omega)))) (Ln.vec_tab (b := 2 * b) (f := fun i => Ln.wide b true (xs.getD (m + i) 0)) hlm (fun i hi => wide_word HBB.out (HW.out (m + i) (by omega)))) (by rw [Ln.tab_len, Ln.tab_len]))
      have BL1 := Lib.hid (back_list (b := b) (mode := 2) (s := true) HLX.out (fun i hi => nf_s HBB.out (HW.out i (by omega))))
      have BL0 := Lib.hid (back_list (b := b) (mode := 0) (s := true) HLX.out (fun i hi => nf_cut HBB.out (HW.out i (by omega))))
      have HMM := Lib.hid hmm
      have HNM := Lib.hid (show n = 2 * m by omega)
      clear hmm
      go_wp2_with fail
      refine (widC HBB.out HNM.out (by have := HM.out.2; omega) (by omega) HA.out HVA.out).mono ?_
      rintro e w5 ⟨Al, nl, kl, Ah, nh, kh, rfl, hol, hoh, _, _, _, hb⟩
      obtain rfl : m = nl := by have := hol.len; rw [Ln.tab_len] at this; exact this
      obtain rfl : m = nh := by have := hoh.len; rw [Ln.tab_len] at this; exact this
      have HLo := Lib.hid hol.rd
      have HHi := Lib.hid hoh.rd
      have HA5 := Lib.hid (HA.out.below hb)
      have HB5 := Lib.hid (HB3.out.trans (hb.mono HB3.out.size)); clear hol hoh hb HA
      go_wp2_with fail
      refine (narC HBB.out (by omega) (by omega) hm0 HLo.out HHi.out HBO.out (HE.out _ HB5.out)).mono ?_
      rw [BL1.out]
      rintro e w6 ⟨A6, n6, c6, rfl, ho6, _, hb⟩
      obtain rfl : n = n6 := by have := ho6.len; rw [HLA.out] at this; exact this
      have HLo6 := Lib.hid (HLo.out.below hb)
      have HHi6 := Lib.hid (HHi.out.below hb)
      have HA6 := Lib.hid (HA5.out.below hb)
      have HK6 := Lib.hid ho6.rd
      have HB6 := Lib.hid (HB5.out.trans (hb.mono HB5.out.size)); clear ho6 hb HA5 HLo HHi
      go_wp2_with fail
      refine (narC (mode := 0) HBB.out (by omega) (by omega) hm0 HLo6.out HHi6.out HBO.out (HE.out _ HB6.out)).mono ?_
      rw [BL0.out]
      rintro e w7 ⟨A7, n7, c7, rfl, ho7, _, hb⟩
      obtain rfl : n = n7 := by have := ho7.len; rw [HLA.out] at this; exact this
      have HA7 := Lib.hid (HA6.out.below hb)
      have HK7 := Lib.hid (HK6.out.below hb)
      have HC7 := Lib.hid ho7.rd
      have HB7 := Lib.hid (HB6.out.trans (hb.mono HB6.out.size)); clear ho7 hb HA6 HK6 HLo6 HHi6
      go_wp2_with fail
      refine (r8same_any _ _ n _ _ _ _ _ _ (by omega) HK7.out HA7.out).mono ?_
      rintro e w8 ⟨rfl, hb⟩
      have HA8 := Lib.hid (HA7.out.below hb)
      have HC8 := Lib.hid (HC7.out.below hb)
      have HB8 := Lib.hid (HB7.out.trans (hb.mono HB7.out.size)); clear hb HA7 HC7
      go_wp2_with fail
      refine (r8same_any _ _ n _ _ _ _ _ _ (by omega) HC8.out HA8.out).mono ?_
      rintro e w9 ⟨rfl, hb⟩
      have HB9 := Lib.hid (HB8.out.trans (hb.mono HB8.out.size)); clear hb HA8 HC8
      go_wp2_with fail
      refine (r8vec_any (2 * b) n _ _ _ z1 _ HBI2.out HLN.out (R1.out _ HB9.out)).mono ?_
      rintro e w10 ⟨gy, cy, ys, rfl, hoy, _, hvy, hb⟩
      have HY := Lib.hid hoy.rd
      have HVY := Lib.hid hvy
      have HLY := Lib.hid hoy.len
      have HB10 := Lib.hid (HB9.out.trans (hb.mono HB9.out.size)); clear hoy hvy hb
      go_wp2_with fail
      refine (narC (mode := 2) HBB.out (by omega) hn8 hn0 HY.out HY.out (Ln.both_of HVY.out HVY.out rfl) (HE.out _ HB10.out)).mono ?_
      rintro e w11 ⟨A11, N, c11, rfl, ho11, _, hb⟩
      have hN : n + n = N := by have := ho11.len; rw [Ln.tab_len] at this; exact this
      rw [hN] at ho11
      obtain ⟨gn, on, rfl, _, _⟩ := ho11.rd.at_ (k := 0) (by omega)
      have HY11 := Lib.hid (HY.out.below hb)
      have HN11 := Lib.hid ho11.rd
      have HB11 := Lib.hid (HB10.out.trans (hb.mono HB10.out.size)); clear ho11 hb HY
      have t1 : 2 * (n : Int) = (N : Int) := by omega
      have t2 : IntKind.i64.wrap (N : Int) = (N : Int) := IntWalk.i64_in _ (by omega)
      have HNN := Lib.hid hN; clear hN
      go_wp2_with fail
      go_loopw [20] (fun i wr => ∃ k : Nat, k ≤ n ∧ i = .int .i64 (k : Int) ∧ Below w11.heap.size w11 wr) (fun i _ => n - (intOf i).toNat)
      case atStart => exact ⟨0, Nat.zero_le _, rfl, by repeat (first | exact Below.refl _ _ | exact below_drewN (Below.refl _ _) _ | refine Below.drew ?_)⟩
      case round =>
        obtain ⟨k, hk, rfl, hbw⟩ := hrel
        have HBW := Lib.hid hbw; clear hbw
        by_cases hlt : k < n
        · obtain ⟨q, hq⟩ : ∃ q, q = k + n := ⟨_, rfl⟩
          have hyw := Ln.vec_word HVY.out (k := k) (by rw [HLY.out]; exact hlt)
          have hN := HNN.out
          obtain ⟨g', o', e', _, hc1⟩ := HY11.out.at_ hlt
          injection e' with e'; injection e' with e1 e2; subst e1; subst e2
          obtain ⟨g', o', e', _, hc2⟩ := HN11.out.at_ (k := k) (by omega)
          injection e' with e'; injection e' with e1 e2; subst e1; subst e2
          obtain ⟨g', o', e', _, hc3⟩ := HN11.out.at_ (k := q) (by omega)
          injection e' with e'; injection e' with e1 e2; subst e1; subst e2
          rw [Nat.zero_add] at hc1
          rw [Ln.tab_getD _ _ _ (by omega), List.getD_eq_getElem?_getD, List.getElem?_append_left (by rw [HLY.out]; exact hlt), ← List.getD_eq_getElem?_getD] at hc2
          rw [Ln.tab_getD _ _ _ (by omega), List.getD_eq_getElem?_getD, List.getElem?_append_right (by rw [HLY.out]; omega), HLY.out, show q - n = k by omega, ← List.getD_eq_getElem?_getD] at hc3
          obtain ⟨y, hy⟩ : ∃ z, z = ys.getD k 0 := ⟨_, rfl⟩
          rw [← hy] at hc1 hc2 hc3 hyw
          have hnw : Wd.IsWord b (Ln.nf (2 * b) 2 y) := ⟨HBI.out, by have h := Wd.wr_word HBI.out (Wd.cl b (Wd.sg (2 * b) y)); have e0 : Ln.nf (2 * b) 2 y = Wd.wr (2 * b / 2) (Wd.cl (2 * b / 2) (Wd.sg (2 * b) y)) := rfl; rw [e0, half_two]; exact h⟩
          have hsn := sg_near (b := b) (y := y) HBB.out
          obtain ⟨r, hr⟩ : ∃ z, z = Ln.nf (2 * b) 2 y := ⟨_, rfl⟩
          rw [← hr] at hc2 hc3 hnw hsn
          obtain ⟨x, hx⟩ : ∃ z, z = Wd.sg (2 * b) y := ⟨_, rfl⟩
          have hxr := Wd.sg_range hyw.1 hyw.2
          rw [← hx] at hsn hxr
          obtain ⟨v, hv⟩ : ∃ z, z = Wd.cl b x := ⟨_, rfl⟩
          have CS1 := Lib.hid (fun W => signedOf_yes (2 * b) y W hyw)
          have CS2 := Lib.hid (fun W => signedOf_yes b r W hnw)
          rw [← hx] at CS1
          rw [hsn, ← hv] at CS2
          have hd1 := (HBW.out.cell (p := ⟨gy, k, none⟩) (World.block_lt_of_cell? w11 _ hc1)).trans hc1
          have hd2 := (HBW.out.cell (p := ⟨gn, on + k, none⟩) (World.block_lt_of_cell? w11 _ hc2)).trans hc2
          have hd3 := (HBW.out.cell (p := ⟨gn, on + q, none⟩) (World.block_lt_of_cell? w11 _ hc3)).trans hc3
          have j0 : (0 : Int) ≤ (k : Int) := by omega
          have j1 : (k : Int) < (n : Int) := by omega
          have j2 : (k : Int) + (n : Int) = (q : Int) := by omega
          have j3 : (q : Int) < (N : Int) := by omega
          have j4 : (k : Int) < (N : Int) := by omega
          have j5 : (0 : Int) ≤ (q : Int) := by omega
          have j6 : IntKind.i64.wrap (q : Int) = (q : Int) := IntWalk.i64_in _ (by omega)
          have hxl : -32768 ≤ x ∧ x < 32768 := by omega
          have hbb := HBB.out
          clear hy hyw hnw hsn hr hx hxr hc1 hc2 hc3 hq hN HBO BL1 BL0
          rcases hbb with hb4 | hb8
          · obtain rfl : b = 4 := hb4
            by_cases hA : x < -8
            · obtain rfl : v = -8 := by rw [hv]; show Wd.cl 4 x = _; unfold Wd.cl; rw [show Wd.hf 4 = 8 from rfl]; (repeat split) <;> omega
              have f0 : x < -8 := by omega
              have d0 : decide (x < -8) = true := decide_eq_true f0
              have f1 : ¬ 8 ≤ x := by omega
              have d1 : decide (8 ≤ x) = false := decide_eq_false f1
              have f2 : ¬ -8 ≤ x := by omega
              have d2 : decide (-8 ≤ x) = false := decide_eq_false f2
              have f3 : x < 8 := by omega
              have d3 : decide (x < 8) = true := decide_eq_true f3
              clear hv
              go_wp2_with fail
              refine (CS1.out _).mono ?_
              rintro e wa ⟨rfl, rfl⟩
              go_wp2_with fail
              refine (CS2.out _).mono ?_
              rintro e wb ⟨rfl, rfl⟩
              go_wp2
              go_quiet (fail)
              go_wp2
              go_roundw
              case rel => first | exact ⟨k + 1, by omega, by go_num, below_drewN HBW.out _⟩ | ((repeat apply Exists.intro); exact ⟨⟨k + 1, by omega, by go_num, below_drewN HBW.out _⟩, rfl⟩)
              case measure => simp [intOf]; omega
            · by_cases hB : 8 ≤ x
              · obtain rfl : v = 7 := by rw [hv]; show Wd.cl 4 x = _; unfold Wd.cl; rw [show Wd.hf 4 = 8 from rfl]; (repeat split) <;> omega
                have f0 : ¬ x < -8 := by omega
                have d0 : decide (x < -8) = false := decide_eq_false f0
                have f1 : 8 ≤ x := by omega
                have d1 : decide (8 ≤ x) = true := decide_eq_true f1
                have f2 : -8 ≤ x := by omega
                have d2 : decide (-8 ≤ x) = true := decide_eq_true f2
                have f3 : ¬ x < 8 := by omega
                have d3 : decide (x < 8) = false := decide_eq_false f3
                clear hv
                go_wp2_with fail
                refine (CS1.out _).mono ?_
                rintro e wa ⟨rfl, rfl⟩
                go_wp2_with fail
                refine (CS2.out _).mono ?_
                rintro e wb ⟨rfl, rfl⟩
                go_wp2
                go_quiet (fail)
                go_wp2
                go_roundw
                case rel => first | exact ⟨k + 1, by omega, by go_num, below_drewN HBW.out _⟩ | ((repeat apply Exists.intro); exact ⟨⟨k + 1, by omega, by go_num, below_drewN HBW.out _⟩, rfl⟩)
                case measure => simp [intOf]; omega
              · obtain rfl : v = x := by rw [hv]; show Wd.cl 4 x = _; unfold Wd.cl; rw [show Wd.hf 4 = 8 from rfl]; (repeat split) <;> omega
                have f0 : ¬ v < -8 := by omega
                have d0 : decide (v < -8) = false := decide_eq_false f0
                have f1 : ¬ 8 ≤ v := by omega
                have d1 : decide (8 ≤ v) = false := decide_eq_false f1
                have f2 : -8 ≤ v := by omega
                have d2 : decide (-8 ≤ v) = true := decide_eq_true f2
                have f3 : v < 8 := by omega
                have d3 : decide (v < 8) = true := decide_eq_true f3
                clear hv
                go_wp2_with fail
                refine (CS1.out _).mono ?_
                rintro e wa ⟨rfl, rfl⟩
                go_wp2_with fail
                refine (CS2.out _).mono ?_
                rintro e wb ⟨rfl, rfl⟩
                go_wp2
                go_quiet (fail)
                go_wp2
                go_roundw
                case rel => first | exact ⟨k + 1, by omega, by go_num, below_drewN HBW.out _⟩ | ((repeat apply Exists.intro); exact ⟨⟨k + 1, by omega, by go_num, below_drewN HBW.out _⟩, rfl⟩)
                case measure => simp [intOf]; omega
          · obtain rfl : b = 8 := hb8
            by_cases hA : x < -128
            · obtain rfl : v = -128 := by rw [hv]; show Wd.cl 8 x = _; unfold Wd.cl; rw [show Wd.hf 8 = 128 from rfl]; (repeat split) <;> omega
              have f0 : x < -128 := by omega
              have d0 : decide (x < -128) = true := decide_eq_true f0
              have f1 : ¬ 128 ≤ x := by omega
              have d1 : decide (128 ≤ x) = false := decide_eq_false f1
              have f2 : ¬ -128 ≤ x := by omega
              have d2 : decide (-128 ≤ x) = false := decide_eq_false f2
              have f3 : x < 128 := by omega
              have d3 : decide (x < 128) = true := decide_eq_true f3
              clear hv
              go_wp2_with fail
              refine (CS1.out _).mono ?_
              rintro e wa ⟨rfl, rfl⟩
              go_wp2_with fail
              refine (CS2.out _).mono ?_
              rintro e wb ⟨rfl, rfl⟩
              go_wp2
              go_quiet (fail)
              go_wp2
              go_roundw
              case rel => first | exact ⟨k + 1, by omega, by go_num, below_drewN HBW.out _⟩ | ((repeat apply Exists.intro); exact ⟨⟨k + 1, by omega, by go_num, below_drewN HBW.out _⟩, rfl⟩)
              case measure => simp [intOf]; omega
            · by_cases hB : 128 ≤ x
              · obtain rfl : v = 127 := by rw [hv]; show Wd.cl 8 x = _; unfold Wd.cl; rw [show Wd.hf 8 = 128 from rfl]; (repeat split) <;> omega
                have f0 : ¬ x < -128 := by omega
                have d0 : decide (x < -128) = false := decide_eq_false f0
                have f1 : 128 ≤ x := by omega
                have d1 : decide (128 ≤ x) = true := decide_eq_true f1
                have f2 : -128 ≤ x := by omega
                have d2 : decide (-128 ≤ x) = true := decide_eq_true f2
                have f3 : ¬ x < 128 := by omega
                have d3 : decide (x < 128) = false := decide_eq_false f3
                clear hv
                go_wp2_with fail
                refine (CS1.out _).mono ?_
                rintro e wa ⟨rfl, rfl⟩
                go_wp2_with fail
                refine (CS2.out _).mono ?_
                rintro e wb ⟨rfl, rfl⟩
                go_wp2
                go_quiet (fail)
                go_wp2
                go_roundw
                case rel => first | exact ⟨k + 1, by omega, by go_num, below_drewN HBW.out _⟩ | ((repeat apply Exists.intro); exact ⟨⟨k + 1, by omega, by go_num, below_drewN HBW.out _⟩, rfl⟩)
                case measure => simp [intOf]; omega
              · obtain rfl : v = x := by rw [hv]; show Wd.cl 8 x = _; unfold Wd.cl; rw [show Wd.hf 8 = 128 from rfl]; (repeat split) <;> omega
                have f0 : ¬ v < -128 := by omega
                have d0 : decide (v < -128) = false := decide_eq_false f0
                have f1 : ¬ 128 ≤ v := by omega
                have d1 : decide (128 ≤ v) = false := decide_eq_false f1
                have f2 : -128 ≤ v := by omega
                have d2 : decide (-128 ≤ v) = true := decide_eq_true f2
                have f3 : v < 128 := by omega
                have d3 : decide (v < 128) = true := decide_eq_true f3
                clear hv
                go_wp2_with fail
                refine (CS1.out _).mono ?_
                rintro e wa ⟨rfl, rfl⟩
                go_wp2_with fail
                refine (CS2.out _).mono ?_
                rintro e wb ⟨rfl, rfl⟩
                go_wp2
                go_quiet (fail)
                go_wp2
                go_roundw
                case rel => first | exact ⟨k + 1, by omega, by go_num, below_drewN HBW.out _⟩ | ((repeat apply Exists.intro); exact ⟨⟨k + 1, by omega, by go_num, below_drewN HBW.out _⟩, rfl⟩)
                case measure => simp [intOf]; omega
        · have hkn : ¬ (k : Int) < (n : Int) := by omega
          go_wp2
          go_ret
          exact ⟨rfl, HB11.out.trans (HBW.out.mono HB11.out.size)⟩
end Go.Proofs.YtadolbamjojmpaaDoor.Wds
