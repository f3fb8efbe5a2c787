/-
  What tells whether ranges are valid: the model's function and the code's own, one contract each.
-/
import Derived.Test.YtfmplneopmbfoaaDoorStG
import Derived.Test.YtfmplneopmbfoaaDoorInB
import Derived.Test.YtfmplneopmbfoaaDoorVecW
namespace Go.Proofs.YtfmplneopmbfoaaDoor.Wds
open Go.RowKit
set_option linter.unusedVariables false

theorem inBel (x lo hi : Int) (b : Bool) (hb : decide (lo ≤ x ∧ x ≤ hi) = b) (W : World) :
    Calls Tryd.prog 63 #[.int .i64 x, .int .i64 lo, .int .i64 hi] W fun e w' => e = .returned (.bool b) ∧ Below W.heap.size W w' := by
  rw [← hb]
  exact (inB_any x lo hi W).mono fun e w' h => ⟨h.1, by rw [← h.2]; exact Below.refl _ _⟩
set_option maxHeartbeats 1000000 in
theorem sIsG_any (A : Option Addr) (n c : Nat) (ss : List Rg.R) (B : Nat) (w : World) (hn : n ≤ 1048576) (h : RdG w B A n ss) :
    Calls Tryd.prog 62 #[.slice A n c] w fun e w' => e = .returned (.bool (Rg.valid ss)) ∧ Below w.heap.size w w' := by
  have H := Lib.hid h; clear h
  obtain ⟨r, hr⟩ : ∃ r, r = Rg.valid ss := ⟨_, rfl⟩
  rw [← hr]
  have HR := Lib.hid hr; clear hr
  go_enter Tryd.func62, Tryd.ntmps62
  go_wp2
  go_loopw [3] (fun i wr => ∃ k : Nat, k ≤ n ∧ i = .int .i64 k ∧ Hid (∀ j, j < k → Rg.ok (Rg.nth ss j) = true) ∧ Below w.heap.size w wr) (fun i _ => n - (intOf i).toNat)
  case atStart => exact ⟨0, Nat.zero_le _, rfl, Lib.hid (fun j hj => absurd hj (Nat.not_lt_zero _)), Below.refl _ _⟩
  case round =>
    obtain ⟨k, hk, rfl, HA, hb⟩ := hrel
    by_cases hlt : k < n
    · obtain ⟨g, o, rfl, hg, c0, c1⟩ := (H.out.below hb).at_ hlt
      have HL := Lib.hid (show k < ss.length by rw [H.out.len]; exact hlt)
      obtain ⟨x, hx⟩ : ∃ x, x = Rg.nth ss k := ⟨_, rfl⟩
      rw [← hx] at c0 c1
      have HX := Lib.hid hx; clear hx
      obtain ⟨f, t⟩ := x
      simp only at c0 c1
      have HB := Lib.hid hb; clear hb
      have i1 : (0 : Int) ≤ (k : Int) := by omega
      have i2 : (k : Int) < (n : Int) := by omega
      obtain ⟨b0, h0⟩ : ∃ z, z = decide (0 ≤ f ∧ f ≤ 200) := ⟨_, rfl⟩
      obtain ⟨b1, h1⟩ : ∃ z, z = decide (f + 1 ≤ t ∧ t ≤ 200) := ⟨_, rfl⟩
      have C0 := Lib.hid (fun W => inBel f 0 200 b0 h0.symm W)
      have C1 := Lib.hid (fun W => inBel t (f + 1) 200 b1 h1.symm W)
      have HO := Lib.hid (show Rg.ok ⟨f, t⟩ = (b0 && b1) by rw [h0, h1, Rg.ok, Bool.eq_iff_iff]; simp; omega)
      rw [HX.out] at HO
      have q0 := BelBy.cell c0
      have q1 := BelBy.cell c1
      cases b0
      · have e : r = false := by rw [HR.out]; exact Rg.valid_bad HL.out (by rw [HO.out]; rfl)
        subst e
        clear h0 h1 C1 c0 c1
        go_wp2
        refine wp_region_quiet_bel (by kernel_rfl) (by kernel_rfl) ?_
        iterate 6 (go_big_quiet_step (first | (go_at_call 63; exact calls_bel (C0.out _))))
        repeat (go_big_quiet_step (fail))
        refine wpQuiet_nil ?_
        rintro _ ⟨⟨wq, hwq⟩, rfl⟩
        go_wp2
        go_ret
        exact ⟨rfl, HB.out.trans (hwq.mono HB.out.size)⟩
      · have k0 := of_decide_eq_true h0.symm
        have f0 : 0 ≤ f := k0.1
        have f1 : f ≤ 200 := k0.2
        have hsum : IntKind.i64.wrap (f + 1) = f + 1 := IntWalk.i64_in _ (by omega)
        clear h0 h1 k0 c0 c1
        cases b1
        · have e : r = false := by rw [HR.out]; exact Rg.valid_bad HL.out (by rw [HO.out]; rfl)
          subst e
          go_wp2
          refine wp_region_quiet_bel (by kernel_rfl) (by kernel_rfl) ?_
          iterate 6 (go_big_quiet_step (first | (go_at_call 63; exact calls_bel (C0.out _))))
          repeat (go_big_quiet_step (first | (go_at_call 63; exact calls_bel (C1.out _))))
          refine wpQuiet_nil ?_
          rintro _ ⟨⟨wq, hwq⟩, rfl⟩
          go_wp2
          go_ret
          exact ⟨rfl, HB.out.trans (hwq.mono HB.out.size)⟩
        · go_wp2
          refine wp_region_quiet_bel (by kernel_rfl) (by kernel_rfl) ?_
          iterate 6 (go_big_quiet_step (first | (go_at_call 63; exact calls_bel (C0.out _))))
          repeat (go_big_quiet_step (first | (go_at_call 63; exact calls_bel (C1.out _))))
          refine wpQuiet_nil ?_
          rintro _ ⟨⟨wq, hwq⟩, rfl⟩
          go_wp2
          go_roundw
          case rel =>
            refine ⟨k + 1, by omega, by go_num, Lib.hid (fun j hj => ?_), HB.out.trans (hwq.mono HB.out.size)⟩
            rcases Nat.lt_or_ge j k with h | h
            · exact HA.out j h
            · obtain rfl : j = k := by omega
              exact HO.out
          case measure => simp [intOf]; omega
    · have hkn : k = n := by omega
      have hr : r = decide (n ≤ 12) := by rw [HR.out, Rg.valid_all (fun j hj => HA.out j (by rw [H.out.len] at hj; omega)), H.out.len]
      have HB := Lib.hid hb; clear hb hkn
      by_cases h16 : n ≤ 12
      · rw [decide_eq_true h16] at hr
        subst hr
        go_wp2
        go_ret
        exact ⟨ret_bool (by simp; omega), HB.out⟩
      · rw [decide_eq_false h16] at hr
        subst hr
        go_wp2
        go_ret
        exact ⟨ret_bool (by simp; omega), HB.out⟩
set_option maxHeartbeats 1000000 in
theorem isValidG_any (f t : Int) (w : World) :
    Calls Tryd.prog 39 #[.agg #[.int .i64 f, .int .i64 t]] w fun e w' => e = .returned (.bool (Rg.ok ⟨f, t⟩)) ∧ Below w.heap.size w w' := by
  have HB0 := Lib.hid ((Below.refl w.heap.size w).alloc (Nat.le_refl _) (.cells #[.int .i64 f, .int .i64 t] 34))
  obtain ⟨r, hr⟩ : ∃ z, z = Rg.ok ⟨f, t⟩ := ⟨_, rfl⟩
  rw [← hr]
  rw [Rg.ok] at hr
  simp only at hr
  have hk := BlkG.new w #[.int .i64 f, .int .i64 t]
  have p0 := hk.cell 0
  have p1 := hk.cell 1
  clear hk
  by_cases h0 : 0 ≤ f
  · have d0 : decide (0 ≤ f) = true := decide_eq_true h0
    by_cases h1 : f < t
    · have d1 : decide (f < t) = true := decide_eq_true h1
      by_cases h2 : t ≤ 200
      · have d2 : decide (t ≤ 200) = true := decide_eq_true h2
        obtain rfl : r = true := by rw [hr]; exact decide_eq_true ⟨h0, h1, h2⟩
        clear hr
        go_enter Tryd.func39, Tryd.ntmps39
        go_wp2
        go_ret
        exact ⟨ret_bool (by simp), HB0.out⟩
      · have d2 : decide (t ≤ 200) = false := decide_eq_false h2
        obtain rfl : r = false := by rw [hr]; exact decide_eq_false (fun h => h2 h.2.2)
        clear hr
        go_enter Tryd.func39, Tryd.ntmps39
        go_wp2
        go_ret
        exact ⟨ret_bool (by simp), HB0.out⟩
    · have d1 : decide (f < t) = false := decide_eq_false h1
      obtain rfl : r = false := by rw [hr]; exact decide_eq_false (fun h => h1 h.2.1)
      clear hr
      go_enter Tryd.func39, Tryd.ntmps39
      go_wp2
      go_ret
      exact ⟨ret_bool (by simp), HB0.out⟩
  · have d0 : decide (0 ≤ f) = false := decide_eq_false h0
    obtain rfl : r = false := by rw [hr]; exact decide_eq_false (fun h => h0 h.1)
    clear hr
    go_enter Tryd.func39, Tryd.ntmps39
    go_wp2
    go_ret
    exact ⟨ret_bool (by simp), HB0.out⟩
theorem vgClosure_any (f t : Int) (w : World) :
    Calls Tryd.prog 38 #[.agg #[.int .i64 f, .int .i64 t]] w fun e w' => e = .returned (.bool (!Rg.ok ⟨f, t⟩)) ∧ Below w.heap.size w w' := by
  have C := Lib.hid (isValidG_any f t)
  generalize Rg.ok ⟨f, t⟩ = r at C ⊢
  have HB0 := Lib.hid ((Below.refl w.heap.size w).alloc (Nat.le_refl _) (.cells #[.int .i64 f, .int .i64 t] 34))
  go_enter Tryd.func38, Tryd.ntmps38
  go_wp2_with fail
  refine (C.out _).mono ?_
  rintro e w1 ⟨rfl, hb1⟩
  have HB1 := Lib.hid (HB0.out.trans (hb1.mono HB0.out.size)); clear hb1
  go_wp2
  go_ret
  exact ⟨rfl, HB1.out⟩
/-- The first range that is not valid. -/
def badG (ss : List Rg.R) (e : Ending) : Prop :=
  (e = .returned (.int .i64 (-1)) ∧ ∀ j, j < ss.length → Rg.ok (Rg.nth ss j) = true) ∨ ∃ k : Nat, k < ss.length ∧ e = .returned (.int .i64 (k : Int)) ∧ Rg.ok (Rg.nth ss k) = false
set_option maxHeartbeats 1000000 in
theorem idxG_any (A : Option Addr) (n c : Nat) (ss : List Rg.R) (B : Nat) (w : World) (hn : n ≤ 1048576) (h : RdG w B A n ss) :
    Calls Tryd.prog 58 #[.slice A n c, .func (.func 38) #[] #[]] w fun e w' => badG ss e ∧ Below w.heap.size w w' := by
  have H := Lib.hid h; clear h
  go_enter Tryd.func58, Tryd.ntmps58
  go_wp2
  go_loopw [5, 8] (fun _ i wr => ∃ k : Nat, k ≤ n ∧ i = .int .i64 k ∧ Hid (∀ j, j < k → Rg.ok (Rg.nth ss j) = true) ∧ Below w.heap.size w wr) (fun _ i _ => n - (intOf i).toNat)
  case atStart => exact ⟨0, Nat.zero_le _, rfl, Lib.hid (fun j hj => absurd hj (Nat.not_lt_zero _)), Below.refl _ _⟩
  case round =>
    obtain ⟨k, hk, rfl, HA, hb⟩ := hrel
    by_cases hlt : k < n
    · obtain ⟨g, o, rfl, hg, c0, c1⟩ := (H.out.below hb).at_ hlt
      have HL := Lib.hid (show k < ss.length by rw [H.out.len]; exact hlt)
      obtain ⟨x, hx⟩ : ∃ x, x = Rg.nth ss k := ⟨_, rfl⟩
      rw [← hx] at c0 c1
      obtain ⟨f, t⟩ := x
      simp only at c0 c1
      have HB := Lib.hid hb; clear hb
      have i1 : (0 : Int) ≤ (k : Int) := by omega
      have i2 : (k : Int) < (n : Int) := by omega
      obtain ⟨r, hr⟩ : ∃ z, z = Rg.ok ⟨f, t⟩ := ⟨_, rfl⟩
      have C := Lib.hid (vgClosure_any f t)
      rw [← hr] at C
      rw [hx] at hr
      have HR := Lib.hid hr; clear hr hx
      cases r
      · go_wp2_with fail
        refine (C.out _).mono ?_
        rintro e w1 ⟨rfl, hb1⟩
        have HB1 := Lib.hid (HB.out.trans (hb1.mono HB.out.size)); clear hb1
        go_wp2
        go_ret
        exact ⟨.inr ⟨k, HL.out, rfl, HR.out.symm⟩, HB1.out⟩
      · go_wp2_with fail
        refine (C.out _).mono ?_
        rintro e w1 ⟨rfl, hb1⟩
        have HB1 := Lib.hid (HB.out.trans (hb1.mono HB.out.size)); clear hb1
        go_wp2
        go_roundw
        case rel =>
          refine ⟨k + 1, by omega, by go_num, Lib.hid (fun j hj => ?_), HB1.out⟩
          rcases Nat.lt_or_ge j k with h | h
          · exact HA.out j h
          · obtain rfl : j = k := by omega
            exact HR.out.symm
        case measure => simp [intOf]; omega
    · have hkn : k = n := by omega
      have HB := Lib.hid hb; clear hb
      subst hkn
      go_wp2
      go_ret
      exact ⟨.inl ⟨rfl, fun j hj => HA.out j (by rw [H.out.len] at hj; exact hj)⟩, HB.out⟩
theorem contG_any (A : Option Addr) (n c : Nat) (ss : List Rg.R) (B : Nat) (w : World) (hn : n ≤ 1048576) (h : RdG w B A n ss) :
    Calls Tryd.prog 37 #[.slice A n c, .func (.func 38) #[] #[]] w fun e w' => e = .returned (.bool (!ss.all Rg.ok)) ∧ Below w.heap.size w w' := by
  have C := Lib.hid (idxG_any A n c ss B w hn h)
  obtain ⟨r, hr⟩ : ∃ z, z = ss.all Rg.ok := ⟨_, rfl⟩
  rw [← hr]
  have HR := Lib.hid hr
  clear h hr
  go_enter Tryd.func37, Tryd.ntmps37
  go_wp2_with fail
  refine C.out.mono ?_
  rintro e w1 ⟨(⟨rfl, ha⟩ | ⟨k, hk, rfl, hf⟩), hb1⟩
  · obtain rfl : r = true := by rw [HR.out]; exact Rg.all_ok ha
    have HB1 := Lib.hid hb1; clear hb1 ha
    go_wp2
    go_ret
    exact ⟨rfl, HB1.out⟩
  · obtain rfl : r = false := by rw [HR.out]; exact Rg.all_no hk hf
    have HB1 := Lib.hid hb1; clear hb1 hf
    have k0 : (0 : Int) ≤ (k : Int) := by omega
    go_wp2
    go_ret
    exact ⟨ret_bool (by simp; try omega), HB1.out⟩
theorem iValidRanges_any (A : Option Addr) (n c : Nat) (ss : List Rg.R) (B : Nat) (w : World) (hn : n ≤ 1048576) (h : RdG w B A n ss) :
    Calls Tryd.prog 12 #[.slice A n c] w (RetB (Rg.valid ss) w) := by
  have C := Lib.hid (contG_any A n c ss B w hn h)
  rw [Rg.valid, h.len]
  clear h
  generalize ss.all Rg.ok = r at C ⊢
  by_cases h16 : n ≤ 12
  · rw [decide_eq_true h16]
    have d : decide ((n : Int) ≤ 12) = true := decide_eq_true (by omega)
    go_enter Tryd.func12, Tryd.ntmps12
    go_wp2_with fail
    refine C.out.mono ?_
    rintro e w1 ⟨rfl, hb1⟩
    have HB1 := Lib.hid hb1; clear hb1
    go_wp2
    go_ret
    exact ⟨ret_bool (by simp), HB1.out⟩
  · rw [decide_eq_false h16]
    have d : decide ((n : Int) ≤ 12) = false := decide_eq_false (by omega)
    go_enter Tryd.func12, Tryd.ntmps12
    go_wp2
    go_ret
    exact ⟨ret_bool (by simp), Below.refl _ _⟩
end Go.Proofs.YtfmplneopmbfoaaDoor.Wds
