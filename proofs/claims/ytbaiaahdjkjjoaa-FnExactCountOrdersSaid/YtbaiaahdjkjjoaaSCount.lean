/-
  CountOrders: the model's function.
-/
import Derived.Test.YtbaiaahdjkjjoaaCount
namespace Go.Proofs.Ytbaiaahdjkjjoaa.Wds
open Go.RowKit
set_option linter.unusedVariables false

/-- A bit of a number, as the model asks for it. -/
theorem bit_of (s j : Nat) (hs : s < 1024) : bits .and .i64 ((s : Int) / 2 ^ j) 1 = if s.testBit j then 1 else 0 := by
  have h1 : (s : Int) / 2 ^ j = ((s / 2 ^ j : Nat) : Int) := by
    rw [show (2 : Int) ^ j = ((2 ^ j : Nat) : Int) by simp]; exact (Int.natCast_ediv _ _).symm
  rw [h1]
  have h2 := (bits_nat .i64 62 (by decide) (fun n h0 h1 => by rw [IntKind.wrap_i64]; omega) (s / 2 ^ j) 1 (Nat.lt_of_le_of_lt (Nat.div_le_self _ _) (Nat.lt_trans hs (by decide))) (by decide)).1
  rw [show ((1 : Nat) : Int) = 1 from rfl] at h2
  rw [h2, Nat.and_one_is_mod, Nat.testBit_eq_decide_div_mod_eq]
  by_cases h : s / 2 ^ j % 2 = 1
  · rw [h, decide_eq_true rfl]; rfl
  · rw [decide_eq_false h, show s / 2 ^ j % 2 = 0 by omega]; rfl
/-- What is free so far: the first i have been looked at. -/
def freeAt (c : List Sc.St) (s j i : Nat) : Bool := !s.testBit j && (List.range i).all fun i => s.testBit i || !Sc.must (Sc.nth c i) (Sc.nth c j)
theorem freeAt_succ (c : List Sc.St) (s j i : Nat) : freeAt c s j (i + 1) = (freeAt c s j i && (s.testBit i || !Sc.must (Sc.nth c i) (Sc.nth c j))) := by
  rw [freeAt, freeAt, List.range_succ, List.all_append, Bool.and_assoc]; simp
set_option maxRecDepth 100000 in
set_option maxHeartbeats 40000000 in
theorem sCountOrders_any (A : Option Addr) (n c : Nat) (ss : List Sc.St) (B : Nat) (w : World) (hn : n ≤ 1048576) (hc : n ≤ c) (h : RdS w B A n ss) :
    Calls Try.prog 28 #[.slice A n c] w (RetIB (count2 ss).1 (count2 ss).2 w) := by
  obtain ⟨i0, hi, hz0, hz1, hz2⟩ := info_parts A_info64
  have CV := Lib.hid (sIs3_any A n c ss B w hn h)
  have hl := h.len
  have H := Lib.hid h
  clear h
  obtain ⟨v, hv⟩ : ∃ v, v = Sc.valid ss := ⟨_, rfl⟩
  rw [← hv] at CV
  cases v
  · rw [count_no (by rw [← hv]; rfl)]
    clear hv hl
    go_enter Try.func28, Try.ntmps28
    go_wp2_with fail
    refine CV.out.mono ?_
    rintro e w1 ⟨rfl, hb⟩
    have HB := Lib.hid hb; clear hb
    go_wp2
    go_ret2
    exact ⟨rfl, HB.out⟩
  · by_cases h10 : n ≤ 10
    rotate_left
    · rw [count_no (by rw [← hv, hl, decide_eq_false h10]; rfl)]
      have d1 : decide (10 < (n : Int)) = true := decide_eq_true (by omega)
      clear hv hl
      go_enter Try.func28, Try.ntmps28
      go_wp2_with fail
      refine CV.out.mono ?_
      rintro e w1 ⟨rfl, hb⟩
      have HB := Lib.hid hb; clear hb
      go_wp2
      go_ret2
      exact ⟨rfl, HB.out⟩
    · rw [count_yes (by rw [← hv, hl, decide_eq_true h10]; rfl), hl]
      have d1 : decide (10 < (n : Int)) = false := decide_eq_false (by omega)
      have HL := Lib.hid hl
      obtain ⟨N, hN⟩ : ∃ N, N = 2 ^ n := ⟨_, rfl⟩
      have hN1 : N ≤ 1024 := by rw [hN]; exact Nat.le_trans (Nat.pow_le_pow_right (by decide) h10) (by decide)
      have hN0 : 0 < N := by rw [hN]; exact Nat.two_pow_pos n
      have hNi : (2 : Int) ^ n = (N : Int) := by rw [hN]; simp
      have hn6 : IntKind.u64.wrap (n : Int) = (n : Int) := by rw [IntKind.wrap_u64]; omega
      rw [← hN]
      have HN := Lib.hid hN
      obtain ⟨R, hR⟩ : ∃ R, R = (Sc.dp ss n N).getD (N - 1) 0 := ⟨_, rfl⟩
      rw [← hR]
      have HR := Lib.hid hR
      clear hv hl hN hR
      go_enter Try.func28, Try.ntmps28
      go_wp2_with fail
      refine CV.out.mono ?_
      rintro e w2 ⟨rfl, hb⟩
      have HB2 := Lib.hid hb; clear hb
      have hb0 := Blk.new w2 (clls (List.replicate N 0))
      have v0 := (hb0.cell 0).trans (clls_get (by simpa using hN0))
      have f0 := hb0.frozen 0
      have HD0 := Lib.hid (show Blk (w2.alloc (.cells ((Array.replicate N (Value.int .i64 0)).setIfInBounds 0 (.int .i64 1)) 2)) w2.heap.size (clls (Sc.dp ss n 0)) from by
        rw [show Sc.dp ss n 0 = (List.replicate N 0).set 0 1 by rw [HN.out]; rfl, ← clls_set, ← clls_zero]
        exact Blk.new _ _)
      have HW0 := Lib.hid (HB2.out.alloc HB2.out.size (.cells ((Array.replicate N (Value.int .i64 0)).setIfInBounds 0 (.int .i64 1)) 2))
      clear hb0
      rw [← clls_zero] at v0 f0
      go_wp2_with (refine wpList_make_blk _ rfl _ _ _ rfl i0 Try.underlying28 hi hz0 hz1 hz2 _ _ _ _ N rfl rfl rfl rfl (by omega) ?_)
      go_loopw [6] (fun i wr => ∃ s : Nat, s ≤ N ∧ i = .int .i64 s ∧ Blk wr w2.heap.size (clls (Sc.dp ss n s)) ∧ Below w.heap.size w wr) (fun i _ => N - (intOf i).toNat)
      case atStart => exact ⟨0, Nat.zero_le _, rfl, HD0.out, HW0.out⟩
      case round =>
        rename World => wo
        obtain ⟨s, hs, rfl, hblk, hb⟩ := hrel
        by_cases hlt : s < N
        · have i1 : (0 : Int) ≤ (s : Int) := by omega
          have i2 : (s : Int) < (N : Int) := by omega
          have HK := Lib.hid hblk
          have HB := Lib.hid hb
          clear hblk hb
          have hlen0 : (Sc.dp ss n s).length = N := by rw [Sc.dp_len, HN.out]
          have hbd0 := Sc.dp_bd ss h10 s (by rw [← HN.out]; exact hs)
          have hrl := fun i (hi : i < n) => (show s ||| 2 ^ i < (Sc.dp ss n s).length by rw [Sc.dp_len]; exact Sc.or_lt_pow (by rw [← HN.out]; exact hlt) hi)
          obtain ⟨D, hD⟩ : ∃ D, D = Sc.dp ss n s := ⟨_, rfl⟩
          have hDs : Sc.dp ss n (s + 1) = Sc.rowW ss D s n := by rw [hD]; rfl
          rw [← hD] at hlen0 hbd0 hrl HK
          obtain ⟨y, hy⟩ : ∃ y, y = D.getD s 0 := ⟨_, rfl⟩
          have hyb := hbd0.lt s
          rw [← hy] at hyb
          have HY := Lib.hid hy
          have HDS := Lib.hid hDs
          have HBD := Lib.hid hbd0
          have HRL := Lib.hid hrl
          have HLEN := Lib.hid hlen0
          clear hD hDs hbd0 hrl hlen0 hy
          go_wp2
          go_loopw [7] (fun i wr => ∃ j : Nat, j ≤ n ∧ i = .int .i64 j ∧ Blk wr w2.heap.size (clls (Sc.rowW ss D s j)) ∧ Below w.heap.size w wr) (fun i _ => n - (intOf i).toNat)
          case atStart => exact ⟨0, Nat.zero_le _, rfl, HK.out, HB.out⟩
          case round =>
            rename World => wi
            obtain ⟨j, hj, rfl, hblk, hb⟩ := hrel
            by_cases hlj : j < n
            rotate_left
            · have hjn : j = n := by omega
              subst hjn
              have HK2 := Lib.hid (show Blk wi w2.heap.size (clls (Sc.dp ss j (s + 1))) by rw [HDS.out]; exact hblk)
              have HB22 := Lib.hid hb
              have dj : decide ((j : Int) < (j : Int)) = false := by simp
              clear hblk hb
              go_wp2
              go_roundw
              case rel => exact ⟨s + 1, by omega, by go_num, HK2.out, HB22.out⟩
              case measure => simp [intOf]; omega
            · have hlen : (Sc.rowW ss D s j).length = N := by rw [Sc.rowW_len, HLEN.out]
              have v1 := (hblk.cell s).trans (clls_get (by rw [hlen]; exact hlt))
              rw [Sc.rowW_same, ← HY.out] at v1
              have j1 : (0 : Int) ≤ (j : Int) := by omega
              have j2 : (j : Int) < (n : Int) := by omega
              have dj : decide ((j : Int) < (n : Int)) = true := decide_eq_true j2
              by_cases hy0 : 0 < y
              rotate_left
              · have dy : decide (0 < y) = false := decide_eq_false hy0
                have HK2 := Lib.hid (show Blk wi w2.heap.size (clls (Sc.dp ss n (s + 1))) by
                  rw [HDS.out, Sc.rowW_none ss D s n (by rw [← HY.out]; omega)]
                  rw [Sc.rowW_none ss D s j (by rw [← HY.out]; omega)] at hblk
                  exact hblk)
                have HB22 := Lib.hid hb
                clear hblk hb hlen
                go_wp2
                go_roundw
                case rel => exact ⟨s + 1, by omega, by go_num, HK2.out, HB22.out⟩
                case measure => simp [intOf]; omega
              · have dy : decide (0 < y) = true := decide_eq_true hy0
                have j6 : IntKind.u64.wrap (j : Int) = (j : Int) := by rw [IntKind.wrap_u64]; omega
                have j7 : (j : Int) % 18446744073709551616 = (j : Int) := by omega
                have bj0 := bit_of s j (by omega)
                obtain ⟨bv, hbv⟩ : ∃ bv : Int, bv = if s.testBit j then 1 else 0 := ⟨_, rfl⟩
                have bj : bits .and .i64 ((s : Int) / 2 ^ j) 1 = bv := by rw [bj0, hbv]
                have HF0 := Lib.hid (show decide (bv = 0) = freeAt ss s j 0 by rw [hbv, freeAt]; cases s.testBit j <;> rfl)
                have HKI := Lib.hid hblk
                have HBI := Lib.hid hb
                have HROW := Lib.hid (Sc.rowW_succ ss D s j)
                clear hblk hb hlen bj0 hbv
                go_wp2
                go_loopw [8, 9] (fun b i wr => ∃ x : Nat, x ≤ j ∧ i = .int .i64 x ∧ b = .bool (freeAt ss s j x) ∧ Blk wr w2.heap.size (clls (Sc.rowW ss D s j)) ∧ Below w.heap.size w wr) (fun _ i _ => j - (intOf i).toNat)
                case atStart => exact ⟨0, Nat.zero_le _, rfl, by rw [← HF0.out]; first | rfl | (congr 1; by_cases e : bv = 0 <;> simp [e]), HKI.out, HBI.out⟩
                case round =>
                  rename World => wx
                  obtain ⟨x, hx, rfl, rfl, hblk, hb⟩ := hrel
                  by_cases hlx : x < j
                  · obtain ⟨g, o, rfl, hg, hqx⟩ := (H.out.below hb).at_ (k := x) (by omega)
                    obtain ⟨g2, o2, e', hg2, hqy⟩ := (H.out.below hb).at_ (k := j) (by omega)
                    injection e' with e'; injection e' with e1 e2; subst e1; subst e2
                    have hsuc := freeAt_succ ss s j x
                    have bx := bit_of s x (by omega)
                    obtain ⟨q1, hq1⟩ : ∃ q, q = s.testBit x := ⟨_, rfl⟩
                    rw [← hq1] at hsuc bx
                    obtain ⟨q, hq⟩ : ∃ q, q = Sc.nth ss x := ⟨_, rfl⟩
                    obtain ⟨u, hu⟩ : ∃ q, q = Sc.nth ss j := ⟨_, rfl⟩
                    rw [← hq] at hqx hsuc
                    rw [← hu] at hqy hsuc
                    obtain ⟨p, d, a, b⟩ := q
                    obtain ⟨p', d', a', b'⟩ := u
                    obtain ⟨m, hm⟩ : ∃ z, z = Sc.must ⟨p, d, a, b⟩ ⟨p', d', a', b'⟩ := ⟨_, rfl⟩
                    rw [← hm] at hsuc
                    have CM := Lib.hid (fun (z : BelowBy wx) => calls_below (p := z) (sMust_any g (o + x * 4) g (o + j * 4) p d a b p' d' a' b' z.W
                      (hqx.cells fun i hs => z.h.cell hs) (hqy.cells fun i hs => z.h.cell hs)))
                    rw [← hm] at CM
                    obtain ⟨f, hf⟩ : ∃ f, f = freeAt ss s j x := ⟨_, rfl⟩
                    rw [← hf] at hsuc ⊢
                    have HSU := Lib.hid hsuc
                    have HKX := Lib.hid hblk
                    have HBX := Lib.hid hb
                    have x1 : (0 : Int) ≤ (x : Int) := by omega
                    have x2 : (x : Int) < (j : Int) := by omega
                    have x3 : (x : Int) < (n : Int) := by omega
                    have x6 : IntKind.u64.wrap (x : Int) = (x : Int) := by rw [IntKind.wrap_u64]; omega
                    have x7 : (x : Int) % 18446744073709551616 = (x : Int) := by omega
                    have dx : decide ((x : Int) < (j : Int)) = true := decide_eq_true x2
                    clear hsuc hblk hb hqx hqy hq hu hm hf hq1
                    cases f
                    · go_wp2
                      refine wp_region_quiet_below (by kernel_rfl) (by kernel_rfl) ?_
                      repeat (go_big_quiet_step (fail))
                      refine wpQuiet_nil ?_
                      rintro w4 ⟨⟨_, hw4⟩, rfl⟩
                      have HK4 := Lib.hid (HKX.out.keep hw4)
                      have HB4 := Lib.hid (HBX.out.trans (hw4.mono HBX.out.size))
                      clear hw4
                      go_wp2
                      go_roundw
                      case rel => exact ⟨x + 1, by omega, by go_num, by rw [HSU.out]; rfl, HK4.out, HB4.out⟩
                      case measure => simp [intOf]; omega
                    · cases q1
                      · go_wp2
                        refine wp_region_quiet_below (by kernel_rfl) (by kernel_rfl) ?_
                        repeat (go_big_quiet_step (first | (go_at_call 42; exact CM.out _)))
                        refine wpQuiet_nil ?_
                        rintro w4 ⟨⟨_, hw4⟩, rfl⟩
                        have HK4 := Lib.hid (HKX.out.keep hw4)
                        have HB4 := Lib.hid (HBX.out.trans (hw4.mono HBX.out.size))
                        clear hw4
                        go_wp2
                        go_roundw
                        case rel => exact ⟨x + 1, by omega, by go_num, by rw [HSU.out]; simp, HK4.out, HB4.out⟩
                        case measure => simp [intOf]; omega
                      · go_wp2
                        refine wp_region_quiet_below (by kernel_rfl) (by kernel_rfl) ?_
                        repeat (go_big_quiet_step (fail))
                        refine wpQuiet_nil ?_
                        rintro w4 ⟨⟨_, hw4⟩, rfl⟩
                        have HK4 := Lib.hid (HKX.out.keep hw4)
                        have HB4 := Lib.hid (HBX.out.trans (hw4.mono HBX.out.size))
                        clear hw4
                        go_wp2
                        go_roundw
                        case rel => exact ⟨x + 1, by omega, by go_num, by rw [HSU.out]; rfl, HK4.out, HB4.out⟩
                        case measure => simp [intOf]; omega
                  · have hxj : x = j := by omega
                    subst hxj
                    have dx : decide ((x : Int) < (x : Int)) = false := by simp
                    have hff : freeAt ss s x x = Sc.free ss s x := rfl
                    rw [hff]
                    clear hff
                    obtain ⟨W, hW⟩ : ∃ W, W = Sc.rowW ss D s x := ⟨_, rfl⟩
                    have hrow := HROW.out
                    rw [← hW] at hrow hblk
                    have hlenW : W.length = N := by rw [hW, Sc.rowW_len, HLEN.out]
                    have hyW : W.getD s 0 = y := by rw [hW, Sc.rowW_same, HY.out]
                    have hbdW := HBD.out.row (c := ss) (n := n) (fun i _ hi => HRL.out i hi) x (by omega) (by omega)
                    rw [← hW] at hbdW
                    have hor : s ||| 2 ^ x < N := by rw [← HLEN.out]; exact HRL.out x hlj
                    obtain ⟨q, hq⟩ : ∃ q, q = Sc.free ss s x := ⟨_, rfl⟩
                    rw [← hq]
                    cases q
                    · have hst : Sc.stepW ss W s x = W := by rw [Sc.stepW, if_neg (by rw [← hq]; simp)]
                      have HK4 := Lib.hid (show Blk wx w2.heap.size (clls (Sc.rowW ss D s (x + 1))) by rw [hrow, hst]; exact hblk)
                      have HB4 := Lib.hid hb
                      clear hrow hst hblk hb hq hW hlenW hyW hbdW
                      go_wp2
                      go_roundw
                      case rel => exact ⟨x + 1, by omega, by go_num, HK4.out, HB4.out⟩
                      case measure => simp [intOf]; omega
                    · obtain ⟨t, ht⟩ : ∃ t, t = s ||| 2 ^ x := ⟨_, rfl⟩
                      have hst : Sc.stepW ss W s x = W.set t (W.getD t 0 + y) := by rw [Sc.stepW, if_pos hq.symm, ht, hyW]
                      obtain ⟨P, hP⟩ : ∃ P, P = 2 ^ x := ⟨_, rfl⟩
                      have hPi : (2 : Int) ^ x = (P : Int) := by rw [hP]; simp
                      have hPl : P ≤ 1024 := by rw [hP]; exact Nat.le_trans (Nat.pow_le_pow_right (by decide) (show x ≤ 10 by omega)) (by decide)
                      have bor : bits .or .i64 (s : Int) (P : Int) = (t : Int) := by
                        rw [ht, ← hP]
                        exact (bits_nat .i64 62 (by decide) (fun n h0 h1 => by rw [IntKind.wrap_i64]; omega) s P (Nat.lt_of_le_of_lt (show s ≤ 1024 by omega) (by decide)) (Nat.lt_of_le_of_lt hPl (by decide))).2
                      rw [← ht] at hor
                      have b1 := hbdW.lt t
                      have u0 := (hblk.cell t).trans (clls_get (by rw [hlenW]; exact hor))
                      have u1 := (hblk.cell s).trans (clls_get (by rw [hlenW]; exact hlt))
                      rw [hyW] at u1
                      have g0 := hblk.frozen t
                      obtain ⟨z, hz⟩ : ∃ z, z = W.getD t 0 := ⟨_, rfl⟩
                      rw [← hz] at b1 hst u0
                      have HK4 := Lib.hid (show Blk (wx.setCell ⟨w2.heap.size, t, none⟩ (.int .i64 (z + y))) w2.heap.size (clls (Sc.rowW ss D s (x + 1))) by
                        rw [hrow, hst, ← clls_set]; exact hblk.set_ t _)
                      have HB4 := Lib.hid (hb.setCell (p := ⟨w2.heap.size, t, none⟩) HB2.out.size (.int .i64 (z + y)))
                      have k1 : (t : Int) < (N : Int) := by omega
                      have k0 : (0 : Int) ≤ (t : Int) := by omega
                      clear hrow hst hblk hb hq hW hlenW hyW hbdW hP ht hz
                      go_wp2
                      go_region
                      all_goals go_wp2
                      go_roundw
                      case rel => exact ⟨x + 1, by omega, by go_num, HK4.out.drew, HB4.out.drew⟩
                      case measure => simp [intOf]; omega
        · have hsN : s = N := by omega
          subst hsN
          have hlen := Sc.dp_len ss n s
          have v9 := (hblk.cell (s - 1)).trans (clls_get (by rw [hlen, ← HN.out]; omega))
          rw [← HR.out] at v9
          have u9 : IntKind.i64.wrap ((s : Int) - 1) = ((s - 1 : Nat) : Int) := by rw [IntKind.wrap_i64]; omega
          have u8 : (s : Int) - 1 = ((s - 1 : Nat) : Int) := by omega
          obtain ⟨z, hz⟩ : ∃ z, z = s - 1 := ⟨_, rfl⟩
          rw [← hz] at v9 u9 u8
          have z1 : (z : Int) < (s : Int) := by omega
          have z0 : (0 : Int) ≤ (z : Int) := by omega
          have HB22 := Lib.hid hb
          clear hblk hb hlen hz
          go_wp2
          go_ret2
          exact ⟨rfl, HB22.out⟩
end Go.Proofs.Ytbaiaahdjkjjoaa.Wds
