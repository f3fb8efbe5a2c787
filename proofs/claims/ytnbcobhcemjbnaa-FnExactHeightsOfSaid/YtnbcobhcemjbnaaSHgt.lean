/-
  The heights of tasks: the model's function.
-/
import Derived.Test.YtnbcobhcemjbnaaVTask2
import Derived.Test.YtnbcobhcemjbnaaHtM
import Derived.Test.YtnbcobhcemjbnaaMaxM
import Derived.Test.YtnbcobhcemjbnaaTailQ
namespace Go.Proofs.Ytnbcobhcemjbnaa.Wds
open Go.RowKit
set_option linter.unusedVariables false

set_option maxRecDepth 100000 in
set_option maxHeartbeats 4000000 in
theorem sHgt_any (A : Option Addr) (n c : Nat) (ts : List Tk.T) (B : Nat) (w : World) (hn : Ln.totL (Tk.nss ts) ≤ 1048576) (hv : Tk.valid ts = true) (h : RdT w B A n ts) :
    Calls Try.prog 50 #[.slice A n c] w (RetL (Tk.heights ts) w) := by
  obtain ⟨i0, hi, hz0, hz1, hz2⟩ := info_parts A_info64
  have hl := h.len
  have h8 : n ≤ 8 := by rw [← hl]; exact Tk.len_of_valid hv
  have HV := Lib.hid hv
  have HT := Lib.hid hn
  have HL := Lib.hid hl
  have H := Lib.hid h
  have u1 : IntKind.i64.wrap ((n : Int) - 1) = (n : Int) - 1 := IntWalk.i64_in _ (by omega)
  clear h hl hv hn
  go_enter Try.func50, Try.ntmps50
  go_wp2_with (refine wpList_make_blk _ rfl _ _ _ rfl i0 Try.underlying26 hi hz0 hz1 hz2 _ _ _ _ n rfl rfl rfl rfl (by omega) ?_)
  go_loopw [4] (fun i wr => ∃ (k : Nat) (z : Int), k ≤ n ∧ z = (n : Int) - 1 - k ∧ i = .int .i64 z ∧ Blk wr w.heap.size (clls (Tk.hts ts k)) ∧ Below w.heap.size w wr) (fun i _ => (intOf i + 1).toNat)
  case atStart => exact ⟨0, (n : Int) - 1, Nat.zero_le _, by omega, by go_num, by rw [Tk.hts, HL.out, ← clls_zero]; exact Blk.new _ _, (Below.refl _ _).alloc (Nat.le_refl _) _⟩
  case round =>
    rename World => wo
    obtain ⟨k, z, hk, hz, rfl, hbk, hb⟩ := hrel
    by_cases hlt : k < n
    · obtain ⟨j, rfl⟩ : ∃ j : Nat, z = (j : Int) := ⟨n - 1 - k, by omega⟩
      have hj : j = n - 1 - k := by omega
      have hjn : j < n := by omega
      obtain ⟨g, o, R, m, cm, rfl, hg, hc, hmc, hr⟩ := (H.out.below hb).at_ hjn
      have HP := Lib.hid (Tk.tok_parts (Tk.tok_of_valid HV.out (k := j) (by rw [HL.out]; exact hjn)))
      have hBd := Tk.hts_bd HV.out k (by rw [HL.out]; exact hk)
      have hlen := Tk.hts_len ts k
      rw [HL.out] at hlen
      have HNX := Lib.hid (show Tk.hts ts (k + 1) = Tk.hIn ts (Tk.hts ts k) j (Tk.nth ts j).ns.length by rw [Tk.hts, HL.out, hj])
      obtain ⟨hh, hhd⟩ : ∃ hh, hh = Tk.hts ts k := ⟨_, rfl⟩
      rw [← hhd] at hbk hBd hlen HNX
      have HBD := Lib.hid hBd
      have HLEN := Lib.hid hlen
      have hm := hr.len
      have hm20 : m ≤ 1048576 := by
        have q1 := Ln.row_le (Tk.nss ts) j (by rw [Tk.nss_len, HL.out]; exact hjn)
        rw [Tk.nss_getD] at q1
        have q2 := HT.out
        unfold Ln.totL at q2
        omega
      have hx := hBd j
      obtain ⟨x, hxd⟩ : ∃ x, x = hh.getD j 0 := ⟨_, rfl⟩
      rw [← hxd] at hx
      have HX := Lib.hid hxd
      have cx : wo.cell? ⟨w.heap.size, j, none⟩ = some (.int .i64 x) := by rw [hbk.cell, clls_get (by omega), hxd]
      obtain ⟨c0, c1, c2⟩ := hc
      have hl6 := HP.out.2.1
      obtain ⟨tl, htl⟩ : ∃ tl, tl = (Tk.nth ts j).l := ⟨_, rfl⟩
      rw [← htl] at c1 hl6
      have HTL := Lib.hid htl
      have d1 := BelBy.cell cx
      have d2 := BelBy.cell c1
      have HBK := Lib.hid hbk
      have HB := Lib.hid hb
      have HM := Lib.hid hm
      have x0 : 0 ≤ x := hx.1
      have x1 : x ≤ 48 := by omega
      have l0 : 1 ≤ tl := hl6.1
      have l1 : tl ≤ 6 := hl6.2
      have i1 : (0 : Int) ≤ (j : Int) := by omega
      have i2 : (j : Int) < (n : Int) := by omega
      have s1 : IntKind.i64.wrap (x + tl) = x + tl := IntWalk.i64_in _ (by omega)
      have HJZ := Lib.hid (And.intro hj hz)
      clear hbk hb hBd hlen hhd hxd hx cx c0 c1 c2 hr hm htl hl6 hmc hj hz
      go_wp2
      refine wp_region_bel_tail 11 (by kernel_rfl) (by kernel_rfl) ?_
      simp only [List.take_succ_cons, List.take_zero, List.drop_succ_cons, List.drop_zero]
      repeat (go_big_quiet_step (fail))
      refine wpQuiet_nil ?_
      rintro w3 ⟨⟨_, h3⟩, rfl⟩
      have HB3 := Lib.hid (HB.out.trans (h3.mono HB.out.size))
      have hk3 := HBK.out.keep h3
      have HK3 := Lib.hid hk3
      have f3 := hk3.frozen j
      have e3 : w3.cell? ⟨w.heap.size, j, none⟩ = some (.int .i64 (hh.getD j 0)) := by rw [hk3.cell, clls_get (by rw [HLEN.out]; exact hjn)]
      clear d1 d2 h3 hk3
      go_wp2
      go_loopw [5] (fun i wr => ∃ q : Nat, q ≤ m ∧ i = .int .i64 q ∧ Blk wr w.heap.size (clls (Tk.hIn ts hh j q)) ∧ Below w.heap.size w wr) (fun i _ => m - (intOf i).toNat)
      case atStart =>
        refine ⟨0, Nat.zero_le _, rfl, ?_, HB3.out.setCell (p := ⟨w.heap.size, j, none⟩) (Nat.le_refl _) _⟩
        have := HK3.out.set_ j (.int .i64 (x + tl))
        rw [clls_set] at this
        rw [Tk.hIn_zero, ← HX.out, ← HTL.out]
        exact this
      case round =>
        rename World => wi
        obtain ⟨q, hq, rfl, hbk, hb⟩ := hrel
        obtain ⟨g1, o1, R1, m1, cm1, e1, _, hc, _, hr⟩ := (H.out.below hb).at_ hjn
        injection e1 with e1
        injection e1 with e1 e2
        subst e1
        subst e2
        have em : m1 = m := by rw [← hr.len, HM.out]
        subst em
        obtain ⟨c0, c1, c2⟩ := hc
        have HBW := Lib.hid hb
        by_cases hql : q < m1
        · obtain ⟨gr, og, rfl, _, hcq⟩ := hr.at_ hql
          have hmem : (Tk.nth ts j).ns.getD q 0 ∈ (Tk.nth ts j).ns := by
            rw [List.getD_eq_getElem?_getD, List.getElem?_eq_getElem (by rw [HM.out]; exact hql)]; exact List.getElem_mem _
          have hvr := HP.out.2.2 _ hmem
          have HS := Lib.hid (Tk.hIn_succ ts hh j q (by rw [HM.out]; exact hql))
          obtain ⟨v, hvd⟩ : ∃ v, v = (Tk.nth ts j).ns.getD q 0 := ⟨_, rfl⟩
          rw [← hvd] at hcq hvr HS
          obtain ⟨e, rfl⟩ := Int.eq_ofNat_of_zero_le hvr.1
          have hin := Tk.hIn_len ts hh j q
          rw [HLEN.out] at hin
          have hbd := Tk.hIn_bd HBD.out (i := j) (ts := ts) HP.out.2.1 q
          have b1 := hbd e
          have b2 := hbd j
          obtain ⟨h2, h2d⟩ : ∃ h2, h2 = Tk.hIn ts hh j q := ⟨_, rfl⟩
          rw [← h2d] at hbk hin b1 b2 HS
          have cy : wi.cell? ⟨w.heap.size, e, none⟩ = some (.int .i64 (h2.getD e 0)) := by rw [hbk.cell, clls_get (by omega)]
          have cz : wi.cell? ⟨w.heap.size, j, none⟩ = some (.int .i64 (h2.getD j 0)) := by rw [hbk.cell, clls_get (by omega)]
          obtain ⟨y1, y1d⟩ : ∃ y, y = h2.getD e 0 := ⟨_, rfl⟩
          obtain ⟨y2, y2d⟩ : ∃ y, y = h2.getD j 0 := ⟨_, rfl⟩
          rw [← y1d] at cy b1
          rw [← y2d] at cz b2
          have HY := Lib.hid (And.intro y1d y2d)
          have HK := Lib.hid hbk
          have HIN := Lib.hid hin
          have CM := Lib.hid (fun (p : BelBy wi) => calls_bel ((maxM_any y1 y2 p.W).mono fun e' w' ⟨he, hw⟩ => ⟨he, hw ▸ Below.refl _ _⟩))
          have d1 := BelBy.cell cy
          have d2 := BelBy.cell cz
          have hej : e < n := by omega
          have t1 : (e : Int) < (n : Int) := by omega
          have t0 : (0 : Int) ≤ (e : Int) := by omega
          have t2 : (q : Int) < (m1 : Int) := by omega
          have t3 : (0 : Int) ≤ (q : Int) := by omega
          clear hbk hb hr hmem hvr hvd hin hbd b1 b2 h2d cy cz y1d y2d c0 c1
          go_wp2
          refine wp_region_bel_tail 12 (by kernel_rfl) (by kernel_rfl) ?_
          simp only [List.take_succ_cons, List.take_zero, List.drop_succ_cons, List.drop_zero]
          repeat (go_big_quiet_step (first | (go_at_call 51; exact CM.out _)))
          refine wpQuiet_nil ?_
          rintro w5 ⟨⟨_, h5⟩, rfl⟩
          have hk5 := HK.out.keep h5
          have HK5 := Lib.hid hk5
          have HB5 := Lib.hid (HBW.out.trans (h5.mono HBW.out.size))
          have f5 := hk5.frozen e
          have e5 : w5.cell? ⟨w.heap.size, e, none⟩ = some (.int .i64 (h2.getD e 0)) := by rw [hk5.cell, clls_get (by rw [HIN.out]; exact hej)]
          clear d1 d2 h5 hk5
          go_wp2
          go_roundw
          case rel =>
            refine ⟨q + 1, by omega, by go_num, ?_, HB5.out.setCell (p := ⟨w.heap.size, e, none⟩) (Nat.le_refl _) _⟩
            have := HK5.out.set_ e (.int .i64 (max y1 y2))
            rw [clls_set] at this
            rw [HS.out, Tk.hStep, Int.toNat_natCast, ← HY.out.1, ← HY.out.2]
            exact this
          case measure => simp [intOf]; omega
        · have hqm : q = m1 := by omega
          have HK := Lib.hid hbk
          have t2 : ¬ (q : Int) < (m1 : Int) := by omega
          clear hbk hb hr hql c0 c1
          go_wp2
          go_roundw
          case rel =>
            refine ⟨k + 1, (j : Int) - 1, by omega, by have := HJZ.out; omega, by go_num, ?_, HBW.out⟩
            rw [HNX.out, HM.out, ← hqm]
            exact HK.out
          case measure => simp [intOf]; try omega
    · have hkn : k = n := by omega
      subst hkn
      obtain rfl : z = -1 := by omega
      have HF := Lib.hid (And.intro hbk hb)
      clear hbk hb hz
      go_wp2
      go_ret
      obtain ⟨hbk, hb⟩ := HF.out
      have hh : Tk.hts ts k = Tk.heights ts := by rw [Tk.heights, HL.out]
      rw [hh] at hbk
      exact ⟨some ⟨w.heap.size, 0, none⟩, k, k, rfl, (Own.of_blk hbk (by rw [Tk.heights, Tk.hts_len, HL.out]) (Nat.le_refl _)), by omega, Nat.le_refl _, hb⟩
end Go.Proofs.Ytnbcobhcemjbnaa.Wds
