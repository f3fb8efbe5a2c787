/-
  The scan of a vector: the code's and the model's function; one contract each.
-/
import Derived.Test.YteggioppoldaaaaGreatDoorLWise
import Derived.Test.YteggioppoldaaaaGreatDoorLan7
import Derived.Test.YteggioppoldaaaaGreatDoorSld
import Derived.Test.YteggioppoldaaaaGreatDoorStepKeep
namespace Go.Proofs.YteggioppoldaaaaGreatDoor.Wds
open Go.RowKit Go.Proofs.YteggioppoldaaaaGreatDoor.Err
set_option linter.unusedVariables false

theorem owns_one (w : World) (x : Int) : (w.alloc (.cells #[.int .i64 x] 2)).ownsRow w.heap.size 2 1 (.slice (some ⟨w.heap.size, 0, none⟩) 1 1) 1 (([x] : List Int).map (Value.int .i64)) := by
  refine ⟨rfl, .inr ⟨w.heap.size, 1, #[.int .i64 x], rfl, Nat.le_refl _, ?_, Nat.le_refl _, by unfold maxLen; omega, rfl, rfl⟩⟩
  show (w.heap.push _)[w.heap.size]? = _
  simp
set_option maxRecDepth 100000 in
set_option maxHeartbeats 1000000 in
theorem sScanL_any (op b : Int) (A : Option Addr) (n c : Nat) (xs : List Int) (B : Nat) (w : World) (h0 : 0 ≤ op) (h1 : op ≤ 17) (hn : n ≤ 1048576) (hn0 : 0 < n) (r : Rd w B A n xs)
    (hx : ∀ k, k < n → Wd.IsWord b (xs.getD k 0)) (hs : ∀ k, k < n → Wd.IsWord b (Ln.sc op b xs k)) :
    Calls Tryz.prog 55 #[.int .i64 op, .int .i64 b, .slice A n c] w (RetL (Ln.tab (Ln.sc op b xs) n) w) := by
  obtain ⟨i0, hi, hz0, hz1, hz2⟩ := info_parts A_info64
  obtain ⟨g1, o1, rfl, _, hc0⟩ := r.at_ hn0
  have hd0 : w.cell? ⟨g1, o1, none⟩ = _ := hc0
  have C := Lib.hid (fun (k : Nat) (hk : k + 1 < n) (W : World) => sdo_any op b (Ln.sc op b xs k) (xs.getD (k + 1) 0) W h0 h1 (hs k (by omega)) (hx (k + 1) hk))
  have R := Lib.hid r
  obtain ⟨x0, hx0⟩ : ∃ z, z = xs.getD 0 0 := ⟨_, rfl⟩
  rw [← hx0] at hd0
  have HX0 := Lib.hid hx0
  have ho := owns_one w x0
  have HO1 := Lib.hid ho
  have i9 : (0 : Int) < (n : Int) := by omega
  clear r hx hs h0 h1 hc0 hx0 ho
  go_enter Tryz.func55, Tryz.ntmps55
  go_wp2
  go_loopw [7, 8] (fun v i wr => ∃ k : Nat, k + 1 ≤ n ∧ i = .int .i64 ((k + 1 : Nat) : Int) ∧ wr.ownsRow w.heap.size 2 1 v (k + 1) ((Ln.tab (Ln.sc op b xs) (k + 1)).map (Value.int .i64)) ∧ Below w.heap.size w wr) (fun _ i _ => n - (intOf i).toNat)
  case atStart => exact ⟨0, by omega, rfl, by rw [show Ln.tab (Ln.sc op b xs) (0 + 1) = [xs.getD 0 0] from rfl, ← HX0.out]; exact HO1.out, (Below.refl _ _).alloc (Nat.le_refl _) _⟩
  case round =>
    obtain ⟨k, hk, rfl, hown, hb⟩ := hrel
    by_cases hlt : k + 1 < n
    · obtain ⟨g, cc, rfl, _, ho⟩ := own_some hown (by omega)
      have HO := Lib.hid hown
      have HB := Lib.hid hb
      obtain ⟨g', o', e', _, hc⟩ := R.out.at_ hlt
      injection e' with e'; injection e' with e1 e2; subst e1; subst e2
      have hd := (hb.cell (p := ⟨g1, o1 + (k + 1), none⟩) (World.block_lt_of_cell? w _ hc)).trans hc
      have LW := Lib.hid (show g1 < w.heap.size from World.block_lt_of_cell? w _ hc)
      obtain ⟨g', o', e', _, hcp⟩ := ho.rd.at_ (k := k) (by omega)
      injection e' with e'; injection e' with e1 e2; subst e1; subst e2
      rw [Nat.zero_add, Ln.tab_getD _ _ _ (by omega)] at hcp
      have CK := Lib.hid (C.out k hlt)
      obtain ⟨x, hx⟩ : ∃ z, z = xs.getD (k + 1) 0 := ⟨_, rfl⟩
      obtain ⟨y, hy⟩ : ∃ z, z = Ln.sc op b xs k := ⟨_, rfl⟩
      obtain ⟨r, hr⟩ : ∃ z, z = Wd.doOp op b (Ln.sc op b xs k) (xs.getD (k + 1) 0) := ⟨_, rfl⟩
      rw [← hr, ← hx, ← hy] at CK
      rw [← hx] at hd
      rw [← hy] at hcp
      have HV := Lib.hid hr
      obtain ⟨q, hq⟩ : ∃ q, q = k + 1 := ⟨_, rfl⟩
      have HCW := Lib.hid (show w.cell? ⟨g1, o1 + q, none⟩ = some (.int .i64 x) by rw [hq, hx]; exact hc)
      rw [← hq] at hd hlt
      have i1 : (0 : Int) ≤ (q : Int) := by omega
      have i2 : (q : Int) < (n : Int) := by omega
      have i3 : (q : Int) - 1 = (k : Int) := by omega
      have i4 : (k : Int) < (q : Int) := by omega
      have i5 : 1 ≤ (q : Int) := by omega
      have HQ := Lib.hid hq
      rw [← hq] at HO
      rw [← hq]
      have s1 : IntKind.i64.wrap (k : Int) = (k : Int) := IntWalk.i64_in _ (by omega)
      clear hx hy hr hc hown hb ho hq hk
      go_wp2
      have L1 := Lib.hid (World.block_lt_of_cell? _ _ hd)
      have L2 := Lib.hid (show g < wr.heap.size from World.block_lt_of_cell? _ _ hcp)
      have i6 : k < q := by omega
      go_region_held3 (fun w' => w'.cell? ⟨g1, o1 + q, none⟩ = some (.int .i64 x) ∧ w'.cell? ⟨g, k, none⟩ = some (.int .i64 y)) (first | go_keep | exact ⟨HC1.out, HC2.out⟩)
        (first
          | (go_at_call 57; (with_reducible refine (CK.out _).mono ?_); rintro e w5 ⟨rfl, rfl⟩)
          | (refine step_push_keeps _ (by rfl) _ _ (by rfl) i0 Tryz.underlying25 hi hz0 hz1 hz2 w.heap.size g q cc _ r (by rfl) ((HO.out.alloc _).drew) wr.heap.size (by rfl) (by simp) (by omega) (Nat.le_trans HB.out.size (by simp)) ?_; intro v' w1 hown1 hb1 hkp; have HO1 := Lib.hid hown1; have HBW := Lib.hid (((((Below.refl w.heap.size wr).alloc HB.out.size _).drew)).trans hb1); have HB1 := Lib.hid (HB.out.trans HBW.out); have HC1 := Lib.hid (show w1.cell? ⟨g1, o1 + q, none⟩ = some (.int .i64 x) from (HB1.out.cell (p := ⟨g1, o1 + q, none⟩) LW.out).trans HCW.out); have HC2 := Lib.hid (show w1.cell? ⟨g, k, none⟩ = some (.int .i64 y) from ((hkp.out k i6).trans (World.cell?_of_block (a := ⟨g, k, none⟩) (Below.heap_alloc wr _ _ L2.out))).trans hcp); clear hown1 hb1 hkp))
      all_goals go_wp2
      all_goals
        go_roundw
        case rel =>
          have hq := HQ.out
          refine ⟨k + 1, by omega, by rw [hq]; go_num, ?_, HB1.out⟩
          have := HO1.out
          rw [HV.out] at this
          rw [show k + 1 + 1 = q + 1 by omega, Ln.tab_succ]
          rw [show Ln.sc op b xs q = Wd.doOp op b (Ln.sc op b xs k) (xs.getD (k + 1) 0) by rw [hq]; rfl]
          exact this
        case measure => simp [intOf]; omega
    · have hkn : k + 1 = n := by omega
      have HF := Lib.hid (And.intro hown (And.intro hb hkn))
      clear hown hb hkn
      have i7 : ¬ (((k + 1 : Nat) : Int) < (n : Int)) := by omega
      go_wp2
      go_ret
      obtain ⟨ho, hb, rfl⟩ := HF.out
      exact RetL.of_row ho hn hb
end Go.Proofs.YteggioppoldaaaaGreatDoor.Wds
