/-
  Lanes chosen by a mask, and the mask of a comparison: the code's and the model's functions; one contract each.
-/
import Derived.Test.YtigodbilfjppbaaGreatDoorVecW
import Derived.Test.YtigodbilfjppbaaGreatDoorCpy
import Derived.Test.YtigodbilfjppbaaGreatDoorLan2
namespace Go.Proofs.YtigodbilfjppbaaGreatDoor.Wds
open Go.RowKit
set_option linter.unusedVariables false

set_option maxHeartbeats 800000 in
theorem iSel_yes (b : Int) (A A1 A2 : Option Addr) (n c c1 c2 : Nat) (ms xs ys : List Int) (B B1 B2 : Nat) (w : World) (hn : n ≤ 1048576) (hn0 : 0 < n) (h : Rd w B A n ms) (h1 : Rd w B1 A1 n xs) (h2 : Rd w B2 A2 n ys)
    (hm : Ln.masked b ms xs = true) (hbo : Ln.both b xs ys = true) :
    Calls Tryz.prog 14 #[.int .i64 b, .slice A n c, .slice A1 n c1, .slice A2 n c2] w (Ret1 (Ln.sel ms xs ys) true w) := by
  have k1 := areMask_any b A A1 n n c c1 ms xs B B1 w hn hn h h1
  have k2 : ∀ w1, Below w.heap.size w w1 → Calls Tryz.prog 34 #[.int .i64 b, .slice A1 n c1, .slice A2 n c2] w1 (RetB (Ln.both b xs ys) w1) := fun w1 hb => areVec_any b A1 A2 n n c1 c2 xs ys B1 B2 w1 hn hn (h1.below hb) (h2.below hb)
  rw [hm] at k1
  rw [hbo] at k2
  obtain ⟨g2, o2, rfl, _, _⟩ := h2.at_ hn0
  have hl := h.len
  have hl2 := h2.len
  have e : Ln.sel ms xs ys = Ln.tab (fun i => if ms.getD i 0 = 1 then xs.getD i 0 else ys.getD i 0) n := by unfold Ln.sel; rw [hl]
  rw [e]
  have C1 := Lib.hid k1
  have C2 := Lib.hid k2
  have H := Lib.hid h
  have H1 := Lib.hid h1
  have H2 := Lib.hid h2
  have HL2 := Lib.hid hl2
  clear k1 k2 h h1 h2 hl e hm hbo hl2
  go_enter Tryz.func14, Tryz.ntmps14
  go_wp2_with fail
  refine C1.out.mono ?_
  rintro e w1 ⟨rfl, hb⟩
  have HB1 := Lib.hid hb; clear hb
  go_wp2_with fail
  refine (C2.out _ HB1.out).mono ?_
  rintro e w2 ⟨rfl, hb⟩
  have HB2 := Lib.hid (HB1.out.trans (hb.mono HB1.out.size)); clear hb
  go_wp2_with fail
  refine (clone_any _ _ _ ys B2 _ hn (H2.out.below HB2.out)).mono ?_
  rintro e w3 ⟨A3, n3, c3, rfl, ho, _, _, hb⟩
  obtain rfl : n = n3 := HL2.out.symm.trans ho.len
  have HO3 := Lib.hid (ho.more HB2.out.size (Nat.le_refl _))
  have HB3 := Lib.hid (HB2.out.trans (hb.mono HB2.out.size)); clear ho hb
  go_wp2_with fail
  go_loopw [29] (fun i wr => ∃ k : Nat, k ≤ n ∧ i = .int .i64 k ∧ Own wr w.heap.size w3.heap.size A3 n (Ln.over (fun i => if ms.getD i 0 = 1 then xs.getD i 0 else ys.getD i 0) ys k) ∧ w3.heap.size ≤ wr.heap.size ∧ Below w.heap.size w wr) (fun i _ => n - (intOf i).toNat)
  case atStart => exact ⟨0, Nat.zero_le _, rfl, by rw [Ln.over_zero]; exact HO3.out, Nat.le_refl _, HB3.out⟩
  case round =>
    obtain ⟨k, hk, rfl, hown, hsz, hb⟩ := hrel
    have HO := Lib.hid hown
    have HB := Lib.hid hb; clear hown hb
    by_cases hlt : k < n
    · obtain ⟨g, o, rfl, hg, hc⟩ := H.out.at_ hlt
      obtain ⟨g1, o1, rfl, hg1, hc1⟩ := H1.out.at_ hlt
      obtain ⟨g3, o3, rfl, hg3, _⟩ := HO.out.rd.at_ hlt
      obtain ⟨hf, hlo, _, v0, hv0⟩ := frozen_of HO.out hlt rfl
      have hd := (HB.out.cell (p := ⟨g, o + k, none⟩) (World.block_lt_of_cell? w _ hc)).trans hc
      have hd1 := (HB.out.cell (p := ⟨g1, o1 + k, none⟩) (World.block_lt_of_cell? w _ hc1)).trans hc1
      have hly : k < ys.length := by rw [HL2.out]; exact hlt
      have HST := Lib.hid (HO.out.store hlt (xs.getD k 0))
      have HBS := Lib.hid (HB.out.setCell (p := ⟨g3, o3 + k, none⟩) hlo (.int .i64 (xs.getD k 0)))
      have hs := Ln.over_set (fun i => if ms.getD i 0 = 1 then xs.getD i 0 else ys.getD i 0) ys k hly
      have hs2 := Ln.over_same (fun i => if ms.getD i 0 = 1 then xs.getD i 0 else ys.getD i 0) ys k hly
      obtain ⟨m, hm⟩ : ∃ z, z = ms.getD k 0 := ⟨_, rfl⟩
      obtain ⟨x, hx⟩ : ∃ z, z = xs.getD k 0 := ⟨_, rfl⟩
      rw [← hm] at hd
      rw [← hx] at hd1 HST HBS
      have HX := Lib.hid (And.intro hm (And.intro hx (And.intro hs hs2))); clear hm hx hs hs2 hc hc1 hly
      by_cases h1 : m = 1
      · subst h1
        go_wp2
        go_roundw
        case rel =>
          refine ⟨k + 1, by omega, by go_num, ?_, by simpa [World.setCell] using hsz, HBS.out⟩
          obtain ⟨a, b, c, _⟩ := HX.out
          rw [← c]
          show Own _ _ _ _ _ ((Ln.over _ ys k).set k (if ms.getD k 0 = 1 then xs.getD k 0 else ys.getD k 0))
          rw [if_pos a.symm, ← b]
          exact HST.out
        case measure => simp [intOf]; omega
      · have e1 : (m == 1) = false := by rw [beq_eq_false_iff_ne]; exact h1
        have HNE := Lib.hid h1
        clear h1
        go_wp2
        go_roundw
        case rel =>
          refine ⟨k + 1, by omega, by go_num, ?_, hsz, HB.out⟩
          obtain ⟨a, b, _, d⟩ := HX.out
          rw [← d (by simp only [← a]; rw [if_neg HNE.out])]
          exact HO.out
        case measure => simp [intOf]; omega
    · have hkn : k = n := by omega
      have HK := Lib.hid hkn; clear hkn
      go_wp2
      go_ret2
      have := HK.out
      subst this
      have ho := HO.out
      have e := Ln.over_all (fun i => if ms.getD i 0 = 1 then xs.getD i 0 else ys.getD i 0) ys
      rw [HL2.out] at e
      rw [e] at ho
      exact ⟨_, _, _, rfl, ho.more (Nat.le_refl _) hsz, hn, HB.out⟩
theorem iSelectLanes_any (b : Int) (A : Option Addr) (n c : Nat) (ms : List Int) (B : Nat) (A1 : Option Addr) (n1 c1 : Nat) (xs : List Int) (B1 : Nat) (A2 : Option Addr) (n2 c2 : Nat) (ys : List Int) (B2 : Nat) (w : World)
    (hn : n ≤ 1048576) (hn1 : n1 ≤ 1048576) (hn2 : n2 ≤ 1048576) (h : Rd w B A n ms) (h1 : Rd w B1 A1 n1 xs) (h2 : Rd w B2 A2 n2 ys) :
    Calls Tryz.prog 14 #[.int .i64 b, .slice A n c, .slice A1 n1 c1, .slice A2 n2 c2] w (Ret1 (Ln.select b ms xs ys).1 (Ln.select b ms xs ys).2 w) := by
  have e : Ln.select b ms xs ys = Ln.ans (Ln.masked b ms xs && Ln.both b xs ys) (Ln.sel ms xs ys) := by unfold Ln.select; rw [Ln.sel_cond]
  rw [e]
  by_cases hm : Ln.masked b ms xs = true
  · by_cases hbo : Ln.both b xs ys = true
    · obtain ⟨l1, _, lm⟩ := Ln.masked_len hm
      obtain ⟨l2, _, _⟩ := Ln.both_len hbo
      have g0 := h.len
      have g1 := h1.len
      have g2 := h2.len
      obtain rfl : n1 = n := by omega
      obtain rfl : n2 = n1 := by omega
      rw [hm, hbo]
      exact iSel_yes b A A1 A2 n2 c c1 c2 ms xs ys B B1 B2 w hn (by have := Ln.msk_len lm; omega) h h1 h2 hm hbo
    · have hb' : Ln.both b xs ys = false := by simpa using hbo
      have k1 := areMask_any b A A1 n n1 c c1 ms xs B B1 w hn hn1 h h1
      have k2 : ∀ w1, Below w.heap.size w w1 → Calls Tryz.prog 34 #[.int .i64 b, .slice A1 n1 c1, .slice A2 n2 c2] w1 (RetB (Ln.both b xs ys) w1) := fun w1 hb => areVec_any b A1 A2 n1 n2 c1 c2 xs ys B1 B2 w1 hn1 hn2 (h1.below hb) (h2.below hb)
      rw [hm] at k1
      rw [hb'] at k2
      rw [hm, hb']
      have C1 := Lib.hid k1
      have C2 := Lib.hid k2
      clear k1 k2 h h1 h2 hm hbo hb' e
      go_enter Tryz.func14, Tryz.ntmps14
      go_wp2_with fail
      refine C1.out.mono ?_
      rintro e w1 ⟨rfl, hb⟩
      have HB := Lib.hid hb; clear hb
      go_wp2_with fail
      refine (C2.out _ HB.out).mono ?_
      rintro e w2 ⟨rfl, hb⟩
      have HB2 := Lib.hid (HB.out.trans (hb.mono HB.out.size)); clear hb
      go_wp2_with fail
      go_ret2
      exact Ret1.no HB2.out
  · have hm' : Ln.masked b ms xs = false := by simpa using hm
    have k1 := areMask_any b A A1 n n1 c c1 ms xs B B1 w hn hn1 h h1
    rw [hm'] at k1
    rw [hm', Bool.false_and]
    have C1 := Lib.hid k1
    clear k1 h h1 h2 hm hm' e
    go_enter Tryz.func14, Tryz.ntmps14
    go_wp2_with fail
    refine C1.out.mono ?_
    rintro e w1 ⟨rfl, hb⟩
    have HB := Lib.hid hb; clear hb
    go_wp2_with fail
    go_ret2
    exact Ret1.no HB.out
end Go.Proofs.YtigodbilfjppbaaGreatDoor.Wds
