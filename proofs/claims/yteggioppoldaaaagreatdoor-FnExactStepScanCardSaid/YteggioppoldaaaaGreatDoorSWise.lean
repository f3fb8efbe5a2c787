/-
  The model's results in all lanes: one contract.
-/
import Derived.Test.YteggioppoldaaaaGreatDoorLawDoOp
import Derived.Test.YteggioppoldaaaaGreatDoorVecW
import Derived.Test.YteggioppoldaaaaGreatDoorStepPush
namespace Go.Proofs.YteggioppoldaaaaGreatDoor.Wds
open Go.RowKit
set_option linter.unusedVariables false

set_option maxRecDepth 100000 in
set_option maxHeartbeats 1000000 in
theorem sWise_any (op b : Int) (A1 A2 : Option Addr) (n c1 c2 : Nat) (xs ys : List Int) (B1 B2 : Nat) (w : World) (h0 : 0 ≤ op) (h1 : op ≤ 17) (hn : n ≤ 1048576) (r1 : Rd w B1 A1 n xs) (r2 : Rd w B2 A2 n ys)
    (hx : ∀ k, k < n → Wd.IsWord b (xs.getD k 0)) (hy : ∀ k, k < n → Wd.IsWord b (ys.getD k 0)) :
    Calls Tryz.prog 48 #[.int .i64 op, .int .i64 b, .slice A1 n c1, .slice A2 n c2] w (RetL (Ln.tab (fun i => Wd.doOp op b (xs.getD i 0) (ys.getD i 0)) n) w) := by
  obtain ⟨i0, hi, hz0, hz1, hz2⟩ := info_parts A_info64
  have C := Lib.hid (fun (k : Nat) (hk : k < n) (W : World) => sdo_any op b (xs.getD k 0) (ys.getD k 0) W h0 h1 (hx k hk) (hy k hk))
  have R1 := Lib.hid r1
  have R2 := Lib.hid r2
  clear r1 r2 hx hy h0 h1
  go_enter Tryz.func48, Tryz.ntmps48
  go_wp2
  go_loopw [9, 10] (fun v i wr => Pushes (fun i => Wd.doOp op b (xs.getD i 0) (ys.getD i 0)) n w v i wr) (fun _ i _ => n - (intOf i).toNat)
  case atStart => exact Pushes.start _ _ _
  case round =>
    obtain ⟨k, hk, rfl, hown, hb⟩ := hrel
    have HO := Lib.hid hown
    have HB := Lib.hid hb; clear hown hb
    by_cases hlt : k < n
    · obtain ⟨g1, o1, rfl, _, hc1⟩ := R1.out.at_ hlt
      obtain ⟨g2, o2, rfl, _, hc2⟩ := R2.out.at_ hlt
      have hd1 := (HB.out.cell (p := ⟨g1, o1 + k, none⟩) (World.block_lt_of_cell? w _ hc1)).trans hc1
      have hd2 := (HB.out.cell (p := ⟨g2, o2 + k, none⟩) (World.block_lt_of_cell? w _ hc2)).trans hc2
      have L1 := Lib.hid (show g1 < w.heap.size from World.block_lt_of_cell? _ _ hc1)
      have L2 := Lib.hid (show g2 < w.heap.size from World.block_lt_of_cell? _ _ hc2)
      have CK := Lib.hid (C.out k hlt)
      obtain ⟨x, hx⟩ : ∃ z, z = xs.getD k 0 := ⟨_, rfl⟩
      obtain ⟨y, hy⟩ : ∃ z, z = ys.getD k 0 := ⟨_, rfl⟩
      obtain ⟨r, hr⟩ : ∃ r, r = Wd.doOp op b (xs.getD k 0) (ys.getD k 0) := ⟨_, rfl⟩
      rw [← hr, ← hx, ← hy] at CK
      rw [← hx] at hd1
      rw [← hy] at hd2
      have HV := Lib.hid hr
      have i1 : (0 : Int) ≤ (k : Int) := by omega
      have i2 : (k : Int) < (n : Int) := by omega
      clear hx hy hr hc1 hc2
      go_wp2
      go_region_held3 (fun w' => w'.cell? ⟨g1, o1 + k, none⟩ = some (.int .i64 x) ∧ w'.cell? ⟨g2, o2 + k, none⟩ = some (.int .i64 y)) (first | go_keep | exact ⟨(HB1.out.cell (p := ⟨g1, o1 + k, none⟩) L1.out).trans hd1, (HB1.out.cell (p := ⟨g2, o2 + k, none⟩) L2.out).trans hd2⟩)
        (first
          | (go_at_call 57; (with_reducible refine (CK.out _).mono ?_); rintro e w5 ⟨rfl, rfl⟩)
          | (refine step_push _ (by rfl) _ _ (by rfl) i0 Tryz.underlying25 hi hz0 hz1 hz2 w.heap.size _ _ _ r (by rfl) ((HO.out.alloc _).drew) wr.heap.size (by rfl) (by simp) (by omega) (Nat.le_trans HB.out.size (by simp)) ?_; intro v' w1 hown1 hb1; have HO1 := Lib.hid hown1; have HB1 := Lib.hid (((((Below.refl w.heap.size wr).alloc HB.out.size _).drew)).trans hb1); clear hown1 hb1))
      all_goals go_wp2
      all_goals
        go_roundw
        case rel => exact Pushes.step hlt HB.out _ HV.out HO1.out HB1.out
        case measure => simp [intOf]; omega
    · have hkn : k = n := by omega
      have HK := Lib.hid hkn; clear hkn
      go_wp2
      go_ret
      have := HK.out
      subst this
      exact RetL.of_row HO.out (by omega) HB.out
end Go.Proofs.YteggioppoldaaaaGreatDoor.Wds
