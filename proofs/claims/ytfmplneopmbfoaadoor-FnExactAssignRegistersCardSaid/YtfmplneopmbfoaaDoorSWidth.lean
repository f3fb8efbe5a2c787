/-
  The width of ranges: the model's functions, one contract each.
-/
import Derived.Test.YtfmplneopmbfoaaDoorVRange
import Derived.Test.YtfmplneopmbfoaaDoorMaxM
namespace Go.Proofs.YtfmplneopmbfoaaDoor.Wds
open Go.RowKit
set_option linter.unusedVariables false

set_option maxRecDepth 100000 in
set_option maxHeartbeats 2000000 in
theorem sWidth0_any (A : Option Addr) (n c : Nat) (ss : List Rg.R) (B : Nat) (w : World) (hn : n ≤ 12) (h : RdG w B A n ss) :
    Calls Tryd.prog 50 #[.slice A n c, .int .i64 0] w fun e w' => e = .returned (.int .i64 ((Rg.width ss : Nat) : Int)) ∧ Below w.heap.size w w' := by
  have hl := h.len
  have hw : Rg.width ss = Rg.widAt ss n := by rw [Rg.width, hl]
  rw [hw]
  have HL := Lib.hid hl
  have H := Lib.hid h; clear h hl hw
  have hz : bits .and .i64 0 1 = 0 := by decide
  go_enter Tryd.func50, Tryd.ntmps50
  go_wp2
  go_loopw [5, 6] (fun v i wr => ∃ k : Nat, k ≤ n ∧ i = .int .i64 k ∧ v = .int .i64 ((Rg.widAt ss k : Nat) : Int) ∧ Below w.heap.size w wr) (fun _ i _ => n - (intOf i).toNat)
  case atStart => exact ⟨0, Nat.zero_le _, rfl, rfl, Below.refl _ _⟩
  case round =>
    rename World => wo
    obtain ⟨k, hk, rfl, rfl, hb⟩ := hrel
    by_cases hlt : k < n
    · have hw := Rg.widAt_le ss k
      have HW := Lib.hid (show Rg.widAt ss (k + 1) = max (Rg.widAt ss k) (Rg.cnt (Rg.inAt ss k) n) by rw [Rg.widAt, HL.out])
      generalize Rg.widAt ss k = v at hw HW ⊢
      rw [HL.out] at hw
      have hc := Rg.cnt_le (Rg.inAt ss k) n
      have HB := Lib.hid hb
      have HS := Lib.hid (H.out.below hb)
      clear hb
      have i1 : (0 : Int) ≤ (k : Int) := by omega
      have i2 : (k : Int) < (n : Int) := by omega
      have i3 : (v : Int) ≤ 12 := by omega
      have HC := Lib.hid hc; clear hc
      go_wp2
      go_loopw [7, 8] (fun u i wr => ∃ x : Nat, x ≤ n ∧ i = .int .i64 x ∧ u = .int .i64 ((Rg.cnt (Rg.inAt ss k) x : Nat) : Int) ∧ Below wo.heap.size wo wr) (fun _ i _ => n - (intOf i).toNat)
      case atStart => exact ⟨0, Nat.zero_le _, rfl, rfl, Below.refl _ _⟩
      case round =>
        rename World => wi
        obtain ⟨x, hx, rfl, rfl, hb⟩ := hrel
        by_cases hlx : x < n
        · obtain ⟨g, o, rfl, hg, c0, c1⟩ := (HS.out.below hb).at_ hlt
          obtain ⟨g', o', e', hg', q0, q1⟩ := (HS.out.below hb).at_ (k := x) hlx
          injection e' with e'; injection e' with e1 e2; subst e1; subst e2
          have hin : Rg.inAt ss k x = (decide ((Rg.nth ss x).f ≤ (Rg.nth ss k).f) && decide ((Rg.nth ss k).f < (Rg.nth ss x).t)) := by
            rw [Rg.inAt, Rg.has, Bool.decide_and]
          obtain ⟨y, hy⟩ : ∃ y, y = Rg.nth ss k := ⟨_, rfl⟩
          obtain ⟨z, hz'⟩ : ∃ z, z = Rg.nth ss x := ⟨_, rfl⟩
          rw [← hy] at c0 c1 hin
          rw [← hz'] at q0 q1 hin
          obtain ⟨f', t'⟩ := y
          obtain ⟨f, t⟩ := z
          simp only at c0 c1 q0 q1 hin
          clear hy hz'
          have a0 := BelBy.cell c0
          have a1 := BelBy.cell q0
          have a2 := BelBy.cell q1
          have hcx := Rg.cnt_le (Rg.inAt ss k) x
          have HX := Lib.hid (show Rg.cnt (Rg.inAt ss k) (x + 1) = Rg.cnt (Rg.inAt ss k) x + if Rg.inAt ss k x = true then 1 else 0 by rw [Rg.cnt])
          rw [hin] at HX
          generalize Rg.cnt (Rg.inAt ss k) x = u at hcx HX ⊢
          have HB2 := Lib.hid hb
          clear hb c0 c1 q0 q1 hin
          have j1 : (0 : Int) ≤ (x : Int) := by omega
          have j2 : (x : Int) < (n : Int) := by omega
          have j3 : (u : Int) ≤ 12 := by omega
          by_cases h0 : f ≤ f'
          · have d0 : decide (f ≤ f') = true := decide_eq_true h0
            rw [d0] at HX
            clear h0
            by_cases h1 : f' < t
            · have d1 : decide (f' < t) = true := decide_eq_true h1
              rw [d1] at HX
              clear h1
              go_wp2
              refine wp_region_quiet_bel (by kernel_rfl) (by kernel_rfl) ?_
              repeat (go_big_quiet_step (fail))
              refine wpQuiet_nil ?_
              rintro _ ⟨⟨wq, hwq⟩, rfl⟩
              go_wp2
              go_roundw
              case rel => exact ⟨x + 1, by omega, by go_num, by rw [HX.out]; go_num, HB2.out.trans (hwq.mono HB2.out.size)⟩
              case measure => simp [intOf]; omega
            · have d1 : decide (f' < t) = false := decide_eq_false h1
              rw [d1] at HX
              clear h1
              go_wp2
              refine wp_region_quiet_bel (by kernel_rfl) (by kernel_rfl) ?_
              repeat (go_big_quiet_step (fail))
              refine wpQuiet_nil ?_
              rintro _ ⟨⟨wq, hwq⟩, rfl⟩
              go_wp2
              go_roundw
              case rel => exact ⟨x + 1, by omega, by go_num, by rw [HX.out]; simp, HB2.out.trans (hwq.mono HB2.out.size)⟩
              case measure => simp [intOf]; omega
          · have d0 : decide (f ≤ f') = false := decide_eq_false h0
            rw [d0] at HX
            clear h0
            go_wp2
            refine wp_region_quiet_bel (by kernel_rfl) (by kernel_rfl) ?_
            repeat (go_big_quiet_step (fail))
            refine wpQuiet_nil ?_
            rintro _ ⟨⟨wq, hwq⟩, rfl⟩
            go_wp2
            go_roundw
            case rel => exact ⟨x + 1, by omega, by go_num, by rw [HX.out]; simp, HB2.out.trans (hwq.mono HB2.out.size)⟩
            case measure => simp [intOf]; omega
        · have hxk : x = n := by omega
          subst hxk
          have hc := HC.out
          generalize Rg.cnt (Rg.inAt ss k) x = u at hc HW ⊢
          have HB2 := Lib.hid (HB.out.trans (hb.mono HB.out.size))
          clear hb
          have j3 : (u : Int) ≤ 12 := by omega
          go_wp2_with fail
          refine (maxM_any _ _ _).mono ?_
          rintro e w2 ⟨rfl, rfl⟩
          go_wp2
          go_roundw
          case rel => exact ⟨k + 1, by omega, by go_num, by rw [HW.out]; congr 1; omega, HB2.out⟩
          case measure => simp [intOf]; omega
    · have hkn : k = n := by omega
      have HB := Lib.hid hb; clear hb
      subst hkn
      go_wp2
      go_ret
      exact ⟨rfl, HB.out⟩
end Go.Proofs.YtfmplneopmbfoaaDoor.Wds
