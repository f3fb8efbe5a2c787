/-
  CountOrders: the code's function.
-/
import Derived.Test.YtbaiaahdjkjjoaaGraph
import Derived.Test.YtbaiaahdjkjjoaaCoM
import Derived.Test.YtbaiaahdjkjjoaaGOrd
import Derived.Deep.RegionWith
import Derived.Deep.RegionHeld3
namespace Go.Proofs.Ytbaiaahdjkjjoaa.Wds
open Go.RowKit
set_option linter.unusedVariables false

theorem isNextS_any (g n : Nat) (ss : List Sc.St) (s k : Nat) (w : World) (hn : n ≤ 16) (hb : BlkU w g (cllU (graph ss n))) (hd : s < 4294967296) (hk : k < n) :
    Calls Try.prog 32 #[.slice (some ⟨g, 0, none⟩) n n, .int .u32 (s : Int), .int .i64 (k : Int)] w (RetB (Sc.free ss s k) w) := by
  have hnb := Sc.free_bits ss s k
  have e1 : (s ||| 2 ^ k == s) = s.testBit k := by
    rw [Bool.eq_iff_iff, beq_iff_eq, Sc.or_pow_eq]
  have h := isNextU_any g n (graph ss n) s k w (graph_len ss n) hn (fun i hi => by rw [graph_at hi]; exact Sc.setOf_lt32 _ (by omega)) hd hk hb
  rw [Tk.nextU, graph_at hk] at h
  rw [← hnb, e1]
  exact h
def count2 (ss : List Sc.St) : Int × Bool := if Sc.valid ss && decide (ss.length ≤ 10) then ((Sc.dp ss ss.length (2 ^ ss.length)).getD (2 ^ ss.length - 1) 0, true) else (0, false)
theorem count_no {ss : List Sc.St} (h : (Sc.valid ss && decide (ss.length ≤ 10)) = false) : count2 ss = (0, false) := by rw [count2, h]; rfl
theorem count_yes {ss : List Sc.St} (h : (Sc.valid ss && decide (ss.length ≤ 10)) = true) : count2 ss = ((Sc.dp ss ss.length (2 ^ ss.length)).getD (2 ^ ss.length - 1) 0, true) := by rw [count2, h]; rfl
set_option maxRecDepth 100000 in
set_option maxHeartbeats 1000000 in
theorem iCountOrders_any (A : Option Addr) (n c : Nat) (ss : List Sc.St) (B : Nat) (w : World) (hn : n ≤ 1048576) (hc : n ≤ c) (h : RdS w B A n ss) :
    Calls Try.prog 11 #[.slice A n c] w (RetIB (count2 ss).1 (count2 ss).2 w) := by
  obtain ⟨i0, hi, hz0, hz1, hz2⟩ := info_parts A_info64
  have CV := Lib.hid (iValidCode_any A n c ss B w hn h)
  have hl := h.len
  have H := Lib.hid h
  clear h
  obtain ⟨v, hv⟩ : ∃ v, v = Sc.valid ss := ⟨_, rfl⟩
  rw [← hv] at CV
  cases v
  · rw [count_no (by rw [← hv]; rfl)]
    clear hv hl
    go_enter Try.func11, Try.ntmps11
    go_wp2_with fail
    refine CV.out.mono ?_
    rintro e w1 ⟨rfl, hb⟩
    have HB := Lib.hid hb; clear hb
    go_wp2
    go_ret2
    exact ⟨rfl, HB.out⟩
  · by_cases h10 : n ≤ 10
    rotate_left
    · rw [count_no (by rw [← hv, hl, decide_eq_false h10]; rfl)]
      have d1 : decide (10 < (n : Int)) = true := decide_eq_true (by omega)
      clear hv hl
      go_enter Try.func11, Try.ntmps11
      go_wp2_with fail
      refine CV.out.mono ?_
      rintro e w1 ⟨rfl, hb⟩
      have HB := Lib.hid hb; clear hb
      go_wp2
      go_ret2
      exact ⟨rfl, HB.out⟩
    · rw [count_yes (by rw [← hv, hl, decide_eq_true h10]; rfl), hl]
      have d1 : decide (10 < (n : Int)) = false := decide_eq_false (by omega)
      have HV := Lib.hid hv.symm
      have HL := Lib.hid hl
      obtain ⟨N, hN⟩ : ∃ N, N = 2 ^ n := ⟨_, rfl⟩
      have hN1 : N ≤ 1024 := by rw [hN]; exact Nat.le_trans (Nat.pow_le_pow_right (by decide) h10) (by decide)
      have hN0 : 0 < N := by rw [hN]; exact Nat.two_pow_pos n
      have hNi : (2 : Int) ^ n = (N : Int) := by rw [hN]; simp
      rw [← hN]
      have HN := Lib.hid hN
      obtain ⟨R, hR⟩ : ∃ R, R = (Sc.dp ss n N).getD (N - 1) 0 := ⟨_, rfl⟩
      rw [← hR]
      have HR := Lib.hid hR
      clear hv hl hN hR
      go_enter Try.func11, Try.ntmps11
      go_wp2_with fail
      refine CV.out.mono ?_
      rintro e w1 ⟨rfl, hb⟩
      have HB1 := Lib.hid hb; clear hb
      go_wp2_with fail
      refine (graphOf_any A n c ss B _ (H.out.below HB1.out) HV.out hc).mono ?_
      rintro e w2 ⟨gg, rfl, hgg, hbu, hb⟩
      have HU := Lib.hid hbu
      have HB2 := Lib.hid (HB1.out.trans (hb.mono HB1.out.size))
      clear hbu hb hgg
      have hb0 := Blk.new w2 (clls (List.replicate N 0))
      have v0 := (hb0.cell 0).trans (clls_get (by simpa using hN0))
      have f0 := hb0.frozen 0
      have HD0 := Lib.hid (show Blk (w2.alloc (.cells ((Array.replicate N (Value.int .i64 0)).setIfInBounds 0 (.int .i64 1)) 2)) w2.heap.size (clls (Sc.dp ss n 0)) from by
        rw [show Sc.dp ss n 0 = (List.replicate N 0).set 0 1 by rw [HN.out]; rfl, ← clls_set, ← clls_zero]
        exact Blk.new _ _)
      have HU0 := Lib.hid (HU.out.alloc (.cells ((Array.replicate N (Value.int .i64 0)).setIfInBounds 0 (.int .i64 1)) 2))
      have HW0 := Lib.hid (HB2.out.alloc HB2.out.size (.cells ((Array.replicate N (Value.int .i64 0)).setIfInBounds 0 (.int .i64 1)) 2))
      have HGG := Lib.hid HU.out.lt
      clear hb0
      rw [← clls_zero] at v0 f0
      go_wp2_with (refine wpList_make_blk _ rfl _ _ _ rfl i0 Try.underlying28 hi hz0 hz1 hz2 _ _ _ _ N rfl rfl rfl rfl (by omega) ?_)
      go_loopw [26] (fun i wr => ∃ s : Nat, s ≤ N ∧ i = .int .i64 s ∧ Blk wr w2.heap.size (clls (Sc.dp ss n s)) ∧ BlkU wr gg (cllU (graph ss n)) ∧ Below w.heap.size w wr) (fun i _ => N - (intOf i).toNat)
      case atStart => exact ⟨0, Nat.zero_le _, rfl, HD0.out, HU0.out, HW0.out⟩
      case round =>
        rename World => wo
        obtain ⟨s, hs, rfl, hblk, hbu, hb⟩ := hrel
        by_cases hlt : s < N
        · have i1 : (0 : Int) ≤ (s : Int) := by omega
          have i2 : (s : Int) < (N : Int) := by omega
          have HK := Lib.hid hblk
          have HBU := Lib.hid hbu
          have HB := Lib.hid hb
          clear hblk hbu hb
          go_wp2
          go_loopw [31] (fun i wr => ∃ j : Nat, j ≤ n ∧ i = .int .i64 j ∧ Blk wr w2.heap.size (clls (Sc.rowW ss (Sc.dp ss n s) s j)) ∧ BlkU wr gg (cllU (graph ss n)) ∧ Below w.heap.size w wr) (fun i _ => n - (intOf i).toNat)
          case atStart => exact ⟨0, Nat.zero_le _, rfl, HK.out, HBU.out, HB.out⟩
          case round =>
            rename World => wi
            obtain ⟨j, hj, rfl, hblk, hbu, hb⟩ := hrel
            by_cases hlj : j < n
            · have CN := Lib.hid (isNextS_any gg n ss s j wi (by omega) hbu (by omega) hlj)
              have hrow := Sc.rowW_succ ss (Sc.dp ss n s) s j
              have hlen : (Sc.rowW ss (Sc.dp ss n s) s j).length = N := by rw [Sc.rowW_len, Sc.dp_len, HN.out]
              have hbd := (Sc.dp_bd ss h10 s (by rw [← HN.out]; exact hs)).row (c := ss) (n := n) (fun i _ hi => by rw [Sc.dp_len]; exact Sc.or_lt_pow (by rw [← HN.out]; exact hlt) hi) j hj (by omega)
              have hor : s ||| 2 ^ j < N := by rw [HN.out]; exact Sc.or_lt_pow (by rw [← HN.out]; exact hlt) hlj
              obtain ⟨W, hW⟩ : ∃ W, W = Sc.rowW ss (Sc.dp ss n s) s j := ⟨_, rfl⟩
              rw [← hW] at hrow hlen hbd hblk
              obtain ⟨q, hq⟩ : ∃ q, q = Sc.free ss s j := ⟨_, rfl⟩
              rw [← hq] at CN
              have e3 : IntKind.u32.wrap (s : Int) = (s : Int) := by rw [IntKind.wrap_u32]; omega
              have e3' : (s : Int) % 4294967296 = (s : Int) := by omega
              have j1 : (0 : Int) ≤ (j : Int) := by omega
              have j2 : (j : Int) < (n : Int) := by omega
              have HROW := Lib.hid hrow
              have HBI := Lib.hid hb
              have HBUI := Lib.hid hbu
              have HKI := Lib.hid hblk
              cases q
              · have hst : Sc.stepW ss W s j = W := by rw [Sc.stepW, if_neg (by rw [← hq]; simp)]
                have HST := Lib.hid hst
                clear hrow hb hbu hblk hq hst hW hbd
                go_wp2_with fail
                refine CN.out.mono ?_
                rintro e w5 ⟨rfl, hb5⟩
                have HKK := Lib.hid (HKI.out.keep hb5)
                have HUU := Lib.hid (HBUI.out.keep hb5)
                have HBB := Lib.hid (HBI.out.trans (hb5.mono HBI.out.size))
                clear hb5
                go_wp2
                go_roundw
                case rel => exact ⟨j + 1, by omega, by go_num, by rw [HROW.out, HST.out]; exact HKK.out, HUU.out, HBB.out⟩
                case measure => simp [intOf]; omega
              · obtain ⟨t, ht⟩ : ∃ t, t = s ||| 2 ^ j := ⟨_, rfl⟩
                have hst : Sc.stepW ss W s j = W.set t (W.getD t 0 + W.getD s 0) := by rw [Sc.stepW, if_pos hq.symm, ht]
                have CW := Lib.hid (fun W => withN_any s j W (by omega) (by omega))
                rw [← ht] at CW hor
                have b1 := hbd.lt t
                have b2 := hbd.lt s
                obtain ⟨x, hx⟩ : ∃ x, x = W.getD t 0 := ⟨_, rfl⟩
                obtain ⟨y, hy⟩ : ∃ y, y = W.getD s 0 := ⟨_, rfl⟩
                rw [← hx] at b1 hst
                rw [← hy] at b2 hst
                have HST := Lib.hid hst
                have HXY := Lib.hid (And.intro hx (And.intro hy hlen))
                clear hrow hb hbu hblk hq hst hW hbd ht hx hy hlen
                go_wp2_with fail
                refine CN.out.mono ?_
                rintro e w5 ⟨rfl, hb5⟩
                have hk5 := HKI.out.keep hb5
                have u0 := (hk5.cell t).trans (clls_get (by rw [HXY.out.2.2]; exact hor))
                have u1 := (hk5.cell s).trans (clls_get (by rw [HXY.out.2.2]; exact hlt))
                have g0 := hk5.frozen t
                rw [← HXY.out.1] at u0
                rw [← HXY.out.2.1] at u1
                have HKK := Lib.hid (hk5.set_ t (.int .i64 (x + y)))
                have HUU := Lib.hid ((HBUI.out.keep hb5).far (p := ⟨w2.heap.size, t, none⟩) (by have := HGG.out; show gg ≠ w2.heap.size; omega) (.int .i64 (x + y)))
                have HBB := Lib.hid ((HBI.out.trans (hb5.mono HBI.out.size)).setCell (p := ⟨w2.heap.size, t, none⟩) HB2.out.size (.int .i64 (x + y)))
                have k1 : (t : Int) < (N : Int) := by omega
                have k0 : (0 : Int) ≤ (t : Int) := by omega
                clear hb5 hk5
                go_wp2
                go_region_with (go_at_call 33; refine (CW.out _).mono ?_; rintro e w6 ⟨rfl, rfl⟩)
                all_goals go_wp2
                all_goals
                  refine ⟨⟨j + 1, by omega, by go_num, ?_, HUU.out, HBB.out.drew⟩, by simp [intOf]; omega⟩
                  rw [HROW.out, HST.out, ← clls_set]
                  exact HKK.out
            · have hjn : j = n := by omega
              subst hjn
              have HK2 := Lib.hid (show Blk wi w2.heap.size (clls (Sc.dp ss j (s + 1))) from hblk)
              have HBU2 := Lib.hid hbu
              have HB22 := Lib.hid hb
              clear hblk hbu hb
              go_wp2
              go_roundw
              case rel => exact ⟨s + 1, by omega, by go_num, HK2.out, HBU2.out, HB22.out⟩
              case measure => simp [intOf]; omega
        · have hsN : s = N := by omega
          subst hsN
          have hlen := Sc.dp_len ss n s
          have v9 := (hblk.cell (s - 1)).trans (clls_get (by rw [hlen, ← HN.out]; omega))
          rw [← HR.out] at v9
          have u9 : IntKind.i64.wrap ((s : Int) - 1) = ((s - 1 : Nat) : Int) := by rw [IntKind.wrap_i64]; omega
          have u8 : (s : Int) - 1 = ((s - 1 : Nat) : Int) := by omega
          obtain ⟨z, hz⟩ : ∃ z, z = s - 1 := ⟨_, rfl⟩
          rw [← hz] at v9 u9 u8
          have z1 : (z : Int) < (s : Int) := by omega
          have z0 : (0 : Int) ≤ (z : Int) := by omega
          have HB22 := Lib.hid hb
          clear hblk hbu hb hlen hz
          go_wp2
          go_ret2
          exact ⟨rfl, HB22.out⟩
end Go.Proofs.Ytbaiaahdjkjjoaa.Wds
