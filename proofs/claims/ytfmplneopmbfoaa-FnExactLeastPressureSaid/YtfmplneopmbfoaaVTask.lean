/-
  What tells whether tasks are valid: the model's functions and the code's own, one contract each; the sets of what tasks need.
-/
import Derived.Test.YtfmplneopmbfoaaLstW
import Derived.Test.YtfmplneopmbfoaaBelBy
import Derived.Test.YtfmplneopmbfoaaTkM
import Derived.Test.YtfmplneopmbfoaaInB
import Derived.Test.YtfmplneopmbfoaaVecW
import Derived.Test.YtfmplneopmbfoaaBlkU
namespace Go.Proofs.Ytfmplneopmbfoaa.Wds
open Go.RowKit
set_option linter.unusedVariables false

theorem inBelT (x lo hi : Int) (b : Bool) (hb : decide (lo ≤ x ∧ x ≤ hi) = b) (W : World) :
    Calls Try.prog 69 #[.int .i64 x, .int .i64 lo, .int .i64 hi] W fun e w' => e = .returned (.bool b) ∧ Below W.heap.size W w' := by
  rw [← hb]
  exact (inB_any x lo hi W).mono fun e w' h => ⟨h.1, by rw [← h.2]; exact Below.refl _ _⟩
set_option maxHeartbeats 1000000 in
theorem sRises_any (A : Option Addr) (n c : Nat) (zs : List Int) (B : Nat) (hi : Int) (w : World) (hn : n ≤ 1048576) (h : Rd w B A n zs) :
    Calls Try.prog 94 #[.slice A n c, .int .i64 0, .int .i64 hi] w fun e w' => e = .returned (.bool (Tk.ups hi zs)) ∧ Below w.heap.size w w' := by
  have hl := h.len
  have HL := Lib.hid hl
  have H := Lib.hid h; clear h hl
  obtain ⟨r, hr⟩ : ∃ r, r = Tk.ups hi zs := ⟨_, rfl⟩
  rw [← hr]
  have HR := Lib.hid hr; clear hr
  go_enter Try.func94, Try.ntmps94
  go_wp2
  go_loopw [7] (fun i wr => ∃ k : Nat, k ≤ n ∧ i = .int .i64 k ∧ Hid (∀ j, j < k → Tk.upAt hi zs j = true) ∧ Below w.heap.size w wr) (fun i _ => n - (intOf i).toNat)
  case atStart => exact ⟨0, Nat.zero_le _, rfl, Lib.hid (fun j hj => absurd hj (Nat.not_lt_zero _)), Below.refl _ _⟩
  case round =>
    obtain ⟨k, hk, rfl, HA, hb⟩ := hrel
    by_cases hlt : k < n
    · obtain ⟨g, o, rfl, hg, hc⟩ := (H.out.below hb).at_ hlt
      have HLT := Lib.hid (show k < zs.length by rw [HL.out]; exact hlt)
      obtain ⟨z, hz⟩ : ∃ z, z = zs.getD k 0 := ⟨_, rfl⟩
      rw [← hz] at hc
      have q0 := BelBy.cell hc
      obtain ⟨b0, h0⟩ : ∃ y, y = decide (0 ≤ z ∧ z ≤ hi) := ⟨_, rfl⟩
      have C0 := Lib.hid (fun W => inBelT z 0 hi b0 h0.symm W)
      have i1 : (0 : Int) ≤ (k : Int) := by omega
      have i2 : (k : Int) < (n : Int) := by omega
      by_cases hk0 : k = 0
      · have HU := Lib.hid (show Tk.upAt hi zs k = b0 by rw [Tk.upAt, decide_eq_true hk0, ← hz, ← h0]; simp)
        have HB := Lib.hid hb; clear hb hc hz h0
        have HK0 := Lib.hid hk0
        have dk : decide (0 < k) = false := decide_eq_false (by omega)
        have dk2 : ¬ 0 < k := by omega
        have dk3 : k ≤ 0 := by omega
        clear hk0
        cases b0
        · have e : r = false := by rw [HR.out]; exact Tk.ups_bad HLT.out HU.out
          subst e
          go_wp2
          refine wp_region_quiet_bel (by kernel_rfl) (by kernel_rfl) ?_
          iterate 7 (go_big_quiet_step (first | (go_at_call 69; exact calls_bel (C0.out _))))
          repeat (go_big_quiet_step (fail))
          refine wpQuiet_nil ?_
          rintro _ ⟨⟨wq, hwq⟩, rfl⟩
          go_wp2
          go_ret
          exact ⟨rfl, HB.out.trans (hwq.mono HB.out.size)⟩
        · go_wp2
          refine wp_region_quiet_bel (by kernel_rfl) (by kernel_rfl) ?_
          iterate 7 (go_big_quiet_step (first | (go_at_call 69; exact calls_bel (C0.out _))))
          repeat (go_big_quiet_step (fail))
          refine wpQuiet_nil ?_
          rintro _ ⟨⟨wq, hwq⟩, rfl⟩
          go_wp2
          go_roundw
          case rel =>
            refine ⟨k + 1, by omega, by go_num, Lib.hid (fun j hj => ?_), HB.out.trans (hwq.mono HB.out.size)⟩
            obtain rfl : j = k := by have := HK0.out; omega
            exact HU.out
          case measure => simp [intOf]; omega
      · obtain ⟨k', hk'⟩ : ∃ k', k = k' + 1 := ⟨k - 1, by omega⟩
        obtain ⟨g2, o2, e2, hg2, hc2⟩ := (H.out.below hb).at_ (k := k') (by omega)
        injection e2 with e2; injection e2 with e3 e4; subst e3; subst e4
        obtain ⟨y, hy⟩ : ∃ z, z = zs.getD k' 0 := ⟨_, rfl⟩
        rw [← hy] at hc2
        have q1 := BelBy.cell hc2
        have i3 : (0 : Int) < (k : Int) := by omega
        have dk : decide (0 < k) = true := decide_eq_true (by omega)
        have dk2 : 0 < k := by omega
        have i4 : (0 : Int) ≤ (k' : Int) := by omega
        have i5 : (k' : Int) < (n : Int) := by omega
        have hs : IntKind.i64.wrap ((k : Int) - 1) = (k' : Int) := (IntWalk.i64_in _ (by omega)).trans (by omega)
        have HU0 := Lib.hid (show Tk.upAt hi zs k = (b0 && decide (y < z)) by rw [Tk.upAt, decide_eq_false hk0, Bool.false_or, show k - 1 = k' by omega, ← hz, ← hy, ← h0])
        have HK := Lib.hid hk'
        have HB := Lib.hid hb; clear hb hc hz h0 hy hc2 hk' hk0
        cases b0
        · have e : r = false := by rw [HR.out]; exact Tk.ups_bad HLT.out (by rw [HU0.out]; rfl)
          subst e
          go_wp2
          refine wp_region_quiet_bel (by kernel_rfl) (by kernel_rfl) ?_
          iterate 7 (go_big_quiet_step (first | (go_at_call 69; exact calls_bel (C0.out _))))
          repeat (go_big_quiet_step (fail))
          refine wpQuiet_nil ?_
          rintro _ ⟨⟨wq, hwq⟩, rfl⟩
          go_wp2
          go_ret
          exact ⟨rfl, HB.out.trans (hwq.mono HB.out.size)⟩
        · by_cases hyz : y < z
          · have HU := Lib.hid (show Tk.upAt hi zs k = true by rw [HU0.out, decide_eq_true hyz]; rfl)
            have d1 : decide (z ≤ y) = false := decide_eq_false (by omega)
            have d2 : ¬ z ≤ y := by omega
            clear hyz
            go_wp2
            refine wp_region_quiet_bel (by kernel_rfl) (by kernel_rfl) ?_
            iterate 7 (go_big_quiet_step (first | (go_at_call 69; exact calls_bel (C0.out _))))
            repeat (go_big_quiet_step (fail))
            refine wpQuiet_nil ?_
            rintro _ ⟨⟨wq, hwq⟩, rfl⟩
            go_wp2
            go_roundw
            case rel =>
              refine ⟨k + 1, by omega, by go_num, Lib.hid (fun j hj => ?_), HB.out.trans (hwq.mono HB.out.size)⟩
              rcases Nat.lt_or_ge j k with h | h
              · exact HA.out j h
              · obtain rfl : j = k := by omega
                exact HU.out
            case measure => simp [intOf]; omega
          · have e : r = false := by rw [HR.out]; exact Tk.ups_bad HLT.out (by rw [HU0.out, decide_eq_false hyz]; rfl)
            subst e
            have d1 : decide (z ≤ y) = true := decide_eq_true (by omega)
            have d2 : z ≤ y := by omega
            clear hyz
            go_wp2
            refine wp_region_quiet_bel (by kernel_rfl) (by kernel_rfl) ?_
            iterate 7 (go_big_quiet_step (first | (go_at_call 69; exact calls_bel (C0.out _))))
            repeat (go_big_quiet_step (fail))
            refine wpQuiet_nil ?_
            rintro _ ⟨⟨wq, hwq⟩, rfl⟩
            go_wp2
            go_ret
            exact ⟨rfl, HB.out.trans (hwq.mono HB.out.size)⟩
    · have hkn : k = n := by omega
      have e : r = true := by rw [HR.out]; exact Tk.ups_all (fun j hj => HA.out j (by rw [HL.out] at hj; omega))
      have HB := Lib.hid hb; clear hb hkn
      subst e
      go_wp2
      go_ret
      exact ⟨rfl, HB.out⟩
set_option maxHeartbeats 1000000 in
theorem setBelow_any (lim : Nat) (A : Option Addr) (n c : Nat) (zs : List Int) (B : Nat) (w : World) (hlim : lim ≤ 32) (hn : n ≤ 1048576) (h : Rd w B A n zs) :
    Calls Try.prog 83 #[.int .i64 lim, .slice A n c] w fun e w' => e = .returned (.tuple #[.int .u32 (((if Tk.ups ((lim : Int) - 1) zs then Sc.doneOf zs else 0) : Nat) : Int), .bool (Tk.ups ((lim : Int) - 1) zs)]) ∧ Below w.heap.size w w' := by
  have hl := h.len
  have HL := Lib.hid hl
  have H := Lib.hid h; clear h hl
  obtain ⟨r, hr⟩ : ∃ r, r = Tk.ups ((lim : Int) - 1) zs := ⟨_, rfl⟩
  rw [← hr]
  have HR := Lib.hid hr; clear hr
  go_enter Try.func83, Try.ntmps83
  go_wp2
  go_loopw [6, 7, 12] (fun sv lv i wr => ∃ k : Nat, k ≤ n ∧ i = .int .i64 k ∧ sv = .int .u32 ((Sc.doneOf (zs.take k) : Nat) : Int) ∧ lv = .int .i64 (Tk.leastAt zs k) ∧ Hid (∀ j, j < k → Tk.upAt ((lim : Int) - 1) zs j = true) ∧ Below w.heap.size w wr) (fun _ _ i _ => n - (intOf i).toNat)
  case atStart => exact ⟨0, Nat.zero_le _, rfl, rfl, rfl, Lib.hid (fun j hj => absurd hj (Nat.not_lt_zero _)), Below.refl _ _⟩
  case round =>
    obtain ⟨k, hk, rfl, rfl, rfl, HA, hb⟩ := hrel
    by_cases hlt : k < n
    · obtain ⟨g, o, rfl, hg, hc⟩ := (H.out.below hb).at_ hlt
      have HLT := Lib.hid (show k < zs.length by rw [HL.out]; exact hlt)
      obtain ⟨z, hz⟩ : ∃ z, z = zs.getD k 0 := ⟨_, rfl⟩
      rw [← hz] at hc
      have hu := Tk.upAt_least HA.out
      rw [← hz] at hu
      have hl0 : 0 ≤ Tk.leastAt zs k := by
        unfold Tk.leastAt
        split
        · exact Int.le_refl _
        · have := HA.out (k - 1) (by omega)
          rw [Tk.upAt, Bool.and_eq_true] at this
          have := of_decide_eq_true this.1
          omega
      have hpre : ∀ x ∈ zs.take k, x ≤ 31 := fun x hx => by
        obtain ⟨i, hi, _, rfl⟩ := Tk.mem_take hx
        have := HA.out i hi
        rw [Tk.upAt, Bool.and_eq_true] at this
        have := of_decide_eq_true this.1
        omega
      have hd := Sc.doneOf_lt (l := zs.take k) hpre
      have HSN := Lib.hid (show Sc.doneOf (zs.take (k + 1)) = Sc.doneOf (zs.take k) ||| Sc.bt z by rw [Tk.take_snoc HLT.out, Sc.doneOf_snoc, hz])
      have HLN := Lib.hid (show Tk.leastAt zs (k + 1) = z + 1 by rw [Tk.leastAt, if_neg (by omega), hz]; rfl)
      generalize Sc.doneOf (zs.take k) = s at hd HSN ⊢
      generalize Tk.leastAt zs k = lv at hu hl0 ⊢
      have HU := Lib.hid hu
      have HB := Lib.hid hb; clear hb hz hu hpre
      have i1 : (0 : Int) ≤ (k : Int) := by omega
      have i2 : (k : Int) < (n : Int) := by omega
      by_cases h1 : z < lv
      · have e : r = false := by rw [HR.out]; exact Tk.ups_bad HLT.out (by rw [HU.out]; exact decide_eq_false (by omega))
        subst e
        have d1 : decide (z < lv) = true := decide_eq_true h1
        go_wp2
        go_ret2
        exact ⟨rfl, HB.out⟩
      · have d1 : decide (z < lv) = false := decide_eq_false h1
        by_cases h2 : (lim : Int) ≤ z
        · have e : r = false := by rw [HR.out]; exact Tk.ups_bad HLT.out (by rw [HU.out]; exact decide_eq_false (by omega))
          subst e
          have d2 : decide ((lim : Int) ≤ z) = true := decide_eq_true h2
          go_wp2
          go_ret2
          exact ⟨rfl, HB.out⟩
        · have d2 : decide ((lim : Int) ≤ z) = false := decide_eq_false h2
          have z0 : 0 ≤ z := by omega
          have z1 : z ≤ 31 := by omega
          have HU2 := Lib.hid (show Tk.upAt ((lim : Int) - 1) zs k = true by rw [HU.out]; exact decide_eq_true (by omega))
          have CW := Lib.hid (fun W => with_any s z W hd z0 z1)
          go_wp2_with fail
          refine (CW.out _).mono ?_
          rintro e w1 ⟨rfl, rfl⟩
          go_wp2
          go_roundw
          case rel =>
            refine ⟨k + 1, by omega, by go_num, by rw [HSN.out], by rw [HLN.out], Lib.hid (fun j hj => ?_), HB.out⟩
            rcases Nat.lt_or_ge j k with h | h
            · exact HA.out j h
            · obtain rfl : j = k := by omega
              exact HU2.out
          case measure => simp [intOf]; omega
    · have hkn : k = n := by omega
      have e : r = true := by rw [HR.out]; exact Tk.ups_all (fun j hj => HA.out j (by rw [HL.out] at hj; omega))
      have HB := Lib.hid hb; clear hb
      have ht : zs.take k = zs := by rw [hkn, ← HL.out, List.take_length]
      rw [ht]
      clear ht hkn
      subst e
      go_wp2
      go_ret2
      exact ⟨rfl, HB.out⟩
end Go.Proofs.Ytfmplneopmbfoaa.Wds
