/-
  The operation found once for all lanes, for words that a uint16 holds, and the results in pairs; one contract each.
-/
import Derived.Test.YtigodbilfjppbaaGreatDoorDoOp
import Derived.Test.YtigodbilfjppbaaGreatDoorVecW
import Derived.Test.YtigodbilfjppbaaGreatDoorCpy
import Derived.Deep.RegionWith
import Derived.Deep.RegionHeld3
namespace Go.Proofs.YtigodbilfjppbaaGreatDoor.Wds
open Go.RowKit Go.Proofs.YtigodbilfjppbaaGreatDoor.Err
set_option linter.unusedVariables false

set_option maxHeartbeats 400000 in
theorem result16_any (op b x y : Int) (w : World) (h0 : 0 ≤ op) (h1 : op ≤ 17) (hb : (16 ≤ b ∧ b ≤ 16)) (hx : Wd.IsWord b x) (hy : Wd.IsWord b y) (hg : ErrT w) :
    Calls Tryz.prog 53 #[.agg #[.int .i64 op, .int .i64 b], .int .i64 x, .int .i64 y] w fun e w' => e = .returned (.int .i64 (Wd.doOp op b x y)) ∧ Below w.heap.size w w' := by
  have p2 := (Op16.okBd hb).2.1
  have hx0 : 0 ≤ x := hx.2.1
  have hx1 : x < 65536 := by have := hx.2.2; omega
  have hy0 : 0 ≤ y := hy.2.1
  have hy1 : y < 65536 := by have := hy.2.2; omega
  have hd := Wd.doOp_word h0 h1 (Op16.okBits hb) hx.2 hy.2
  obtain ⟨r, hr⟩ : ∃ r, r = Wd.doOp op b x y := ⟨_, rfl⟩
  have cc : ∀ W, Below w.heap.size w W → Calls Tryz.prog 43 #[.int .i64 op, .agg #[.int .i64 b], .int .u16 x, .int .u16 y] W fun e w' => e = .returned (.int .u16 (Wd.doOp op b x y)) ∧ Below W.heap.size W w' := fun W hbW => Op16.operate_any op b x y W h0 h1 hb hx.2 hy.2 (hg.below hbW hg.lt)
  rw [← hr] at hd cc ⊢
  obtain ⟨d0, d1⟩ := hd
  have d2 : r < 65536 := by omega
  have C := Lib.hid cc; clear cc hr hg d1 hx hy
  go_enter Tryz.func53, Tryz.ntmps53
  go_wp2_with fail
  refine (C.out _ ((Below.refl w.heap.size w).alloc (Nat.le_refl _) _)).mono ?_
  rintro e w1 ⟨rfl, hb1⟩
  have HB1 := Lib.hid (((Below.refl w.heap.size w).alloc (Nat.le_refl _) _).trans (hb1.mono (by simp))); clear hb1
  go_wp2_with fail
  go_ret
  exact ⟨rfl, HB1.out⟩
set_option maxHeartbeats 1000000 in
theorem inPairs16_any (op b : Int) (A1 A2 : Option Addr) (n c1 c2 : Nat) (xs ys : List Int) (B1 B2 : Nat) (w : World) (h0 : 0 ≤ op) (h1 : op ≤ 17) (hb : (16 ≤ b ∧ b ≤ 16)) (hn : n ≤ 1048576) (r1 : Rd w B1 A1 n xs) (r2 : Rd w B2 A2 n ys)
    (hx : ∀ k, k < n → Wd.IsWord b (xs.getD k 0)) (hy : ∀ k, k < n → Wd.IsWord b (ys.getD k 0)) (hg : ErrT w) :
    Calls Tryz.prog 35 #[.func (Fn.func 53) #[.agg #[.int .i64 op, .int .i64 b]] #[], .slice A1 n c1, .slice A2 n c2] w (RetL (Ln.tab (fun i => Wd.doOp op b (xs.getD i 0) (ys.getD i 0)) n) w) := by
  obtain ⟨i0, hi, hz0, hz1, hz2⟩ := info_parts A_info64
  have C := Lib.hid (fun (k : Nat) (hk : k < n) (W : World) (hbW : Below w.heap.size w W) => result16_any op b (xs.getD k 0) (ys.getD k 0) W h0 h1 hb (hx k hk) (hy k hk) (hg.below hbW hg.lt))
  have R1 := Lib.hid r1
  have R2 := Lib.hid r2
  clear r1 r2 hx hy hg h0 h1 hb
  go_enter Tryz.func35, Tryz.ntmps35
  go_wp2_with (refine wpList_make_blk _ rfl _ _ _ rfl i0 Tryz.underlying25 hi hz0 hz1 hz2 _ _ _ _ n rfl rfl rfl rfl (by omega) ?_)
  go_loopw [14] (fun i wr => ∃ k : Nat, k ≤ n ∧ i = .int .i64 k ∧ Blk wr w.heap.size (clls (Ln.fill (fun i => Wd.doOp op b (xs.getD i 0) (ys.getD i 0)) n k)) ∧ Below w.heap.size w wr) (fun i _ => n - (intOf i).toNat)
  case atStart => exact ⟨0, Nat.zero_le _, rfl, by rw [Ln.fill_zero, ← clls_zero]; exact Blk.new _ _, (Below.refl _ _).alloc (Nat.le_refl _) _⟩
  case round =>
    obtain ⟨k, hk, rfl, hblk, hbw⟩ := hrel
    by_cases hlt : k < n
    · obtain ⟨g1, o1, rfl, _, hc1⟩ := R1.out.at_ hlt
      obtain ⟨g2, o2, rfl, _, hc2⟩ := R2.out.at_ hlt
      have hd1 := (hbw.cell (p := ⟨g1, o1 + k, none⟩) (World.block_lt_of_cell? w _ hc1)).trans hc1
      have hd2 := (hbw.cell (p := ⟨g2, o2 + k, none⟩) (World.block_lt_of_cell? w _ hc2)).trans hc2
      have CK := Lib.hid (C.out k hlt)
      have HS := Lib.hid (Ln.fill_set (fun i => Wd.doOp op b (xs.getD i 0) (ys.getD i 0)) n k hlt)
      have hl0 := Ln.fill_len (fun i => Wd.doOp op b (xs.getD i 0) (ys.getD i 0)) n k hk
      obtain ⟨v0, hv0⟩ : ∃ v, clls (Ln.fill (fun i => Wd.doOp op b (xs.getD i 0) (ys.getD i 0)) n k) = v := ⟨_, rfl⟩
      have hv1 : ∃ u, v0[k]? = some u := ⟨_, by rw [← hv0]; exact clls_get (by rw [hl0]; exact hlt)⟩
      obtain ⟨u0, hu0⟩ := hv1
      obtain ⟨x, hx⟩ : ∃ z, z = xs.getD k 0 := ⟨_, rfl⟩
      obtain ⟨y, hy⟩ : ∃ z, z = ys.getD k 0 := ⟨_, rfl⟩
      obtain ⟨r, hr⟩ : ∃ r, r = Wd.doOp op b (xs.getD k 0) (ys.getD k 0) := ⟨_, rfl⟩
      rw [← hr, ← hx, ← hy] at CK
      rw [← hx] at hd1
      rw [← hy] at hd2
      have HV := Lib.hid (And.intro hv0 hr)
      have HBK := Lib.hid hblk
      have HBW := Lib.hid hbw
      have HU := Lib.hid hu0
      have i1 : (0 : Int) ≤ (k : Int) := by omega
      have i2 : (k : Int) < (n : Int) := by omega
      clear hx hy hr hv0 hblk hbw hc1 hc2 hl0 hu0
      go_wp2
      go_region_with (first
        | (go_at_call 53; (with_reducible refine (CK.out _ ?_).mono ?_); (exact HBW.out.drew); rintro e w5 ⟨rfl, hb5⟩; have hf5 := (HBK.out.drew.keep hb5).frozen k; have hc5 : w5.cell? ⟨w.heap.size, k, none⟩ = some u0 := ((HBK.out.drew.keep hb5).cell k).trans (by rw [HV.out.1]; exact HU.out); have HBK5 := Lib.hid (HBK.out.drew.keep hb5); have HBW5 := Lib.hid (HBW.out.drew.trans (hb5.mono HBW.out.size)); clear hb5))
      all_goals go_wp2
      all_goals
        go_roundw
        case rel =>
          have hs := HS.out
          have hr := HV.out.2
          have hst := HBK5.out.set_ k (.int .i64 r)
          rw [clls_set, hr, hs, ← hr] at hst
          exact ⟨k + 1, by omega, by go_num, by repeat (first | exact hst | refine Blk.drew ?_), by repeat (first | exact HBW5.out.setCell (p := ⟨w.heap.size, k, none⟩) (Nat.le_refl _) _ | refine Below.drew ?_)⟩
        case measure => simp [intOf]; omega
    · have hkn : k = n := by omega
      have HF := Lib.hid (And.intro hblk hbw)
      clear hblk hbw
      subst hkn
      go_wp2
      go_ret
      obtain ⟨hblk, hbw⟩ := HF.out
      rw [Ln.fill_all] at hblk
      exact ⟨_, k, k, rfl, Own.of_blk hblk (Ln.tab_len _ _) (Nat.le_refl _), hn, Nat.le_refl _, hbw⟩
theorem resultOf16_any (op b : Int) (w : World) (hb : (16 ≤ b ∧ b ≤ 16)) : Calls Tryz.prog 36 #[.int .i64 op, .int .i64 b] w fun e w' => e = .returned (.func (Fn.func 53) #[.agg #[.int .i64 op, .int .i64 b]] #[]) ∧ Below w.heap.size w w' := by
  have n16 : (b == 16) = true := by simp; omega
  have hmf : ∀ (fn : Fn) (first cap : Array Value) (w : World), (Instr.makeFunc fn first cap).run Tryz.prog w = .ok (.func fn first cap) w := fun _ _ _ _ => rfl
  go_enter Tryz.func36, Tryz.ntmps36
  go_wp2
  go_ret
  exact ⟨rfl, by repeat (first | exact Below.refl _ _ | refine Below.drew ?_ | refine Below.alloc ?_ (by first | exact Nat.le_refl _ | (simp; done) | (simp; omega)) _)⟩
end Go.Proofs.YtigodbilfjppbaaGreatDoor.Wds
