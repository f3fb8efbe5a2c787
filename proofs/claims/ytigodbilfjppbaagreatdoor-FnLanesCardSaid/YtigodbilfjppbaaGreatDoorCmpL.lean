/-
  The mask of a comparison: the code's and the model's function; one contract each.
-/
import Derived.Test.YtigodbilfjppbaaGreatDoorVecW
import Derived.Test.YtigodbilfjppbaaGreatDoorCpy
import Derived.Test.YtigodbilfjppbaaGreatDoorLan2
namespace Go.Proofs.YtigodbilfjppbaaGreatDoor.Wds
open Go.RowKit
set_option linter.unusedVariables false

theorem ownsD {w : World} {B : Nat} {e : TypeId} {s : Nat} {v : Value} {n : Nat} {xs : List Value} (h : w.ownsRow B e s v n xs) (k : Nat) : (w.drewN k).ownsRow B e s v n xs := h
def cmpF (q b : Int) (xs ys : List Int) (i : Nat) : Int := if Wd.test q b (xs.getD i 0) (ys.getD i 0) then 1 else 0
theorem cmpF_of {q b : Int} {xs ys : List Int} {k : Nat} {x y : Int} {t : Bool} (hx : x = xs.getD k 0) (hy : y = ys.getD k 0) (ht : Wd.test q b x y = t) : cmpF q b xs ys k = if t = true then 1 else 0 := by
  unfold cmpF; rw [← hx, ← hy, ht]
theorem Fills.skip {f : Nat → Int} {n g k : Nat} {w wr : World} (hk : k < n) (hb : Below w.heap.size w wr) (h : Blk wr g (clls (Ln.fill f n k))) (hz : 0 = f k) : Fills f n g w (.int .i64 (k + 1 : Nat)) wr := by
  refine ⟨k + 1, by omega, rfl, ?_, hb⟩
  have e : Ln.fill f n (k + 1) = Ln.fill f n k := by
    unfold Ln.fill
    obtain ⟨m, hm⟩ : ∃ m, n - k = m + 1 := ⟨n - k - 1, by omega⟩
    have hm' : n - (k + 1) = m := by omega
    rw [hm, hm', Ln.tab_succ, ← hz, List.replicate_succ, List.append_assoc]
    rfl
  rw [e]; exact h
set_option maxHeartbeats 800000 in
theorem iCmp_yes (q b : Int) (A1 A2 : Option Addr) (n c1 c2 : Nat) (xs ys : List Int) (B1 B2 : Nat) (w : World) (hn : n ≤ 1048576) (h0 : 0 ≤ q) (h5 : q ≤ 5) (h1 : Rd w B1 A1 n xs) (h2 : Rd w B2 A2 n ys)
    (hbo : Ln.both b xs ys = true) :
    Calls Tryz.prog 13 #[.int .i64 q, .int .i64 b, .slice A1 n c1, .slice A2 n c2] w (Ret1 (Ln.cmpL q b xs ys) true w) := by
  obtain ⟨i0, hi, hz0, hz1, hz2⟩ := info_parts A_info64
  have hl := h1.len
  have e : Ln.cmpL q b xs ys = Ln.tab (cmpF q b xs ys) n := by unfold Ln.cmpL cmpF; rw [hl]
  rw [e]
  have k1 := areVec_any b A1 A2 n n c1 c2 xs ys B1 B2 w hn hn h1 h2
  rw [hbo] at k1
  obtain ⟨_, hv1, hv2⟩ := Ln.both_len hbo
  have C1 := Lib.hid k1
  have H1 := Lib.hid h1
  have H2 := Lib.hid h2
  have HV := Lib.hid (And.intro hv1 hv2)
  have HQ := Lib.hid (And.intro h0 h5)
  clear h1 h2 hl e hv1 hv2 h0 h5 k1 hbo
  go_enter Tryz.func13, Tryz.ntmps13
  go_wp2_with fail
  refine C1.out.mono ?_
  rintro e w1 ⟨rfl, hb⟩
  have HB1 := Lib.hid hb; clear hb
  go_wp2_with (refine wpList_make_blk _ rfl _ _ _ rfl i0 Tryz.underlying25 hi hz0 hz1 hz2 _ _ _ _ n rfl rfl rfl rfl (by omega) ?_)
  go_loopw [24] (fun i wr => Fills (cmpF q b xs ys) n w1.heap.size w i wr) (fun i _ => n - (intOf i).toNat)
  case atStart =>
    exact ⟨0, Nat.zero_le _, rfl, by rw [Ln.fill_zero, ← clls_zero]; exact Blk.new _ _, HB1.out.alloc HB1.out.size _⟩
  case round =>
    obtain ⟨k, hk, rfl, hblk, hb⟩ := hrel
    by_cases hlt : k < n
    · obtain ⟨g1, o1, rfl, hg1, hc1⟩ := H1.out.at_ hlt
      obtain ⟨g2, o2, rfl, hg2, hc2⟩ := H2.out.at_ hlt
      have hd1 := (hb.cell (p := ⟨g1, o1 + k, none⟩) (World.block_lt_of_cell? w _ hc1)).trans hc1
      have hd2 := (hb.cell (p := ⟨g2, o2 + k, none⟩) (World.block_lt_of_cell? w _ hc2)).trans hc2
      have HW := Lib.hid (And.intro (Ln.vec_word HV.out.1 (k := k) (by rw [H1.out.len]; exact hlt)) (Ln.vec_word HV.out.2 (k := k) (by rw [H2.out.len]; exact hlt)))
      obtain ⟨x, hx⟩ : ∃ z, z = xs.getD k 0 := ⟨_, rfl⟩
      obtain ⟨y, hy⟩ : ∃ z, z = ys.getD k 0 := ⟨_, rfl⟩
      rw [← hx] at hd1
      rw [← hy] at hd2
      rw [← hx, ← hy] at HW
      have cc := fun W => testCmp_yes q b x y W HQ.out.1 HQ.out.2 HW.out.1 HW.out.2
      obtain ⟨t, ht⟩ : ∃ t, t = Wd.test q b x y := ⟨_, rfl⟩
      rw [← ht] at cc
      have CC := Lib.hid cc
      have HF := Lib.hid (cmpF_of (q := q) (b := b) hx hy ht.symm)
      have i1 : (0 : Int) ≤ (k : Int) := by omega
      have i2 : (k : Int) < (n : Int) := by omega
      have hf1 := hblk.frozen k
      have hh := hblk.has hk hlt
      have HN := Lib.hid (fun (d : Nat) (z : Int) (hz : z = cmpF q b xs ys k) => Fills.step (f := cmpF q b xs ys) (wr := wr.drewN d) hlt HB1.out.size (below_drewN hb d) (hblk.drewN d) z hz)
      have HK := Lib.hid (fun (d : Nat) (hz : 0 = cmpF q b xs ys k) => Fills.skip (f := cmpF q b xs ys) (wr := wr.drewN d) hlt (below_drewN hb d) (hblk.drewN d) hz)
      clear hx hy hc1 hc2 cc ht hblk hb
      cases t
      all_goals
        go_wp2
        go_quiet ((go_at_call 19; exact Calls.quiet_of_same ((CC.out _).mono fun _ _ h => ⟨h.1, h.2.symm⟩)))
        go_wp2
        go_roundw
        case rel => first | exact HN.out _ _ (by rw [HF.out]; rfl) | exact HK.out _ (by rw [HF.out]; rfl)
        case measure => simp [intOf]; omega
    · have hkn : k = n := by omega
      have HALL := Lib.hid (And.intro hblk (And.intro hb hkn)); clear hblk hb hkn
      go_wp2
      go_ret2
      obtain ⟨hblk, hb, rfl⟩ := HALL.out
      rw [Ln.fill_all] at hblk
      exact Ret1.of_blk hblk (Ln.tab_len _ _) HB1.out.size hn hb
set_option maxHeartbeats 800000 in
theorem iCmp_bad (q b : Int) (A1 A2 : Option Addr) (n c1 c2 : Nat) (xs ys : List Int) (B1 B2 : Nat) (w : World) (hn : n ≤ 1048576) (hn0 : 0 < n) (hq : ¬ (0 ≤ q ∧ q ≤ 5)) (h1 : Rd w B1 A1 n xs) (h2 : Rd w B2 A2 n ys)
    (hbo : Ln.both b xs ys = true) :
    Calls Tryz.prog 13 #[.int .i64 q, .int .i64 b, .slice A1 n c1, .slice A2 n c2] w (Ret1 Ln.no.1 Ln.no.2 w) := by
  obtain ⟨i0, hi, hz0, hz1, hz2⟩ := info_parts A_info64
  have k1 := areVec_any b A1 A2 n n c1 c2 xs ys B1 B2 w hn hn h1 h2
  rw [hbo] at k1
  obtain ⟨_, hv1, hv2⟩ := Ln.both_len hbo
  have C1 := Lib.hid k1
  have H1 := Lib.hid h1
  have H2 := Lib.hid h2
  have HV := Lib.hid (And.intro hv1 hv2)
  have HQ := Lib.hid hq
  clear h1 h2 hv1 hv2 hq k1 hbo
  go_enter Tryz.func13, Tryz.ntmps13
  go_wp2_with fail
  refine C1.out.mono ?_
  rintro e w1 ⟨rfl, hb⟩
  have HB1 := Lib.hid hb; clear hb
  go_wp2_with (refine wpList_make_blk _ rfl _ _ _ rfl i0 Tryz.underlying25 hi hz0 hz1 hz2 _ _ _ _ n rfl rfl rfl rfl (by omega) ?_)
  go_loopw [24] (fun i wr => i = .int .i64 0 ∧ Below w.heap.size w wr) (fun i _ => n - (intOf i).toNat)
  case atStart => exact ⟨rfl, HB1.out.alloc HB1.out.size _⟩
  case round =>
    obtain ⟨rfl, hb⟩ := hrel
    obtain ⟨g1, o1, rfl, hg1, hc1⟩ := H1.out.at_ hn0
    obtain ⟨g2, o2, rfl, hg2, hc2⟩ := H2.out.at_ hn0
    have hd1 : wr.cell? ⟨g1, o1, none⟩ = _ := (hb.cell (p := ⟨g1, o1 + 0, none⟩) (World.block_lt_of_cell? w _ hc1)).trans hc1
    have hd2 : wr.cell? ⟨g2, o2, none⟩ = _ := (hb.cell (p := ⟨g2, o2 + 0, none⟩) (World.block_lt_of_cell? w _ hc2)).trans hc2
    have HW := Lib.hid (And.intro (Ln.vec_word HV.out.1 (k := 0) (by rw [H1.out.len]; exact hn0)) (Ln.vec_word HV.out.2 (k := 0) (by rw [H2.out.len]; exact hn0)))
    obtain ⟨x, hx⟩ : ∃ z, z = xs.getD 0 0 := ⟨_, rfl⟩
    obtain ⟨y, hy⟩ : ∃ z, z = ys.getD 0 0 := ⟨_, rfl⟩
    rw [← hx] at hd1
    rw [← hy] at hd2
    rw [← hx, ← hy] at HW
    have CC := Lib.hid (fun W => testCmp_no3 q b x y W HQ.out HW.out.1 HW.out.2)
    have i2 : (0 : Int) < (n : Int) := by omega
    have HB := Lib.hid hb
    clear hx hy hc1 hc2 hb
    go_wp2
    go_quiet ((go_at_call 19; exact Calls.quiet_of_same ((CC.out _).mono fun _ _ h => ⟨h.1, h.2.symm⟩)))
    go_wp2
    go_ret2
    exact Ret1.no (below_drewN HB.out _)
theorem iCompareLanes_any (q b : Int) (A1 : Option Addr) (n1 c1 : Nat) (xs : List Int) (B1 : Nat) (A2 : Option Addr) (n2 c2 : Nat) (ys : List Int) (B2 : Nat) (w : World)
    (hn1 : n1 ≤ 1048576) (hn2 : n2 ≤ 1048576) (h1 : Rd w B1 A1 n1 xs) (h2 : Rd w B2 A2 n2 ys) :
    Calls Tryz.prog 13 #[.int .i64 q, .int .i64 b, .slice A1 n1 c1, .slice A2 n2 c2] w (Ret1 (Ln.compare q b xs ys).1 (Ln.compare q b xs ys).2 w) := by
  unfold Ln.compare
  by_cases hbo : Ln.both b xs ys = true
  · obtain ⟨f1, f2, f3⟩ := Ln.both_len hbo
    have g1 := h1.len
    have g2 := h2.len
    obtain rfl : n2 = n1 := by omega
    by_cases hq : 0 ≤ q ∧ q ≤ 5
    · have e : (Ln.isCmp q && Ln.both b xs ys) = true := by rw [hbo]; unfold Ln.isCmp; rw [decide_eq_true hq]; rfl
      rw [e]
      exact iCmp_yes q b A1 A2 n2 c1 c2 xs ys B1 B2 w hn1 hq.1 hq.2 h1 h2 hbo
    · have e : (Ln.isCmp q && Ln.both b xs ys) = false := by unfold Ln.isCmp; rw [decide_eq_false hq]; rfl
      rw [e]
      exact iCmp_bad q b A1 A2 n2 c1 c2 xs ys B1 B2 w hn1 (by have := Ln.vec_len f2; omega) hq h1 h2 hbo
  · have hb' : Ln.both b xs ys = false := by simpa using hbo
    have e : (Ln.isCmp q && Ln.both b xs ys) = false := by rw [hb', Bool.and_false]
    rw [e]
    have k1 := areVec_any b A1 A2 n1 n2 c1 c2 xs ys B1 B2 w hn1 hn2 h1 h2
    rw [hb'] at k1
    have C1 := Lib.hid k1
    clear k1 h1 h2 hbo hb' e
    go_enter Tryz.func13, Tryz.ntmps13
    go_wp2_with fail
    refine C1.out.mono ?_
    rintro e w1 ⟨rfl, hb⟩
    have HB := Lib.hid hb; clear hb
    go_wp2_with fail
    go_ret2
    exact Ret1.no HB.out
end Go.Proofs.YtigodbilfjppbaaGreatDoor.Wds
