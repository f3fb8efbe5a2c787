/-
  MustFollow: the code's and the model's, one contract each.
-/
import Derived.Test.YtbaiaahdjkjjoaaSets
import Derived.Test.YtbaiaahdjkjjoaaRetS
namespace Go.Proofs.Ytbaiaahdjkjjoaa.Wds
open Go.RowKit
set_option linter.unusedVariables false

theorem inBq {w : World} (x lo hi : Int) (b : Bool) (hb : decide (lo ≤ x ∧ x ≤ hi) = b) (p : BelowBy w) :
    Calls Try.prog 41 #[.int .i64 x, .int .i64 lo, .int .i64 hi] p.W fun e w'' => e = .returned (.bool b) ∧ ∃ q : BelowBy w, w'' = q.W := by
  subst hb
  exact calls_below ((inB_any x lo hi p.W).mono fun e w' hh => ⟨hh.1, by rw [← hh.2]; exact Below.refl _ _⟩)
set_option maxHeartbeats 4000000 in
theorem sMustFollow_any (A : Option Addr) (n c : Nat) (ss : List Sc.St) (B : Nat) (i j : Int) (w : World) (hn : n ≤ 1048576) (h : RdS w B A n ss) :
    Calls Try.prog 18 #[.slice A n c, .int .i64 i, .int .i64 j] w (RetB (Sc.mustFollow ss i j) w) := by
  have H := Lib.hid h
  obtain ⟨v, hv⟩ : ∃ v, v = Sc.valid ss := ⟨_, rfl⟩
  have CV := Lib.hid (fun (p : BelowBy w) => sIs3_any A n c ss B p.W hn (h.below p.h))
  rw [← hv] at CV
  have hl := h.len
  clear h
  unfold Sc.mustFollow
  rw [← hv, hl]
  have HV := Lib.hid hv; clear hv
  have HL := Lib.hid hl; clear hl
  cases v
  · go_enter Try.func18, Try.ntmps18
    go_wp2
    refine wp_region_quiet_below (by kernel_rfl) (by kernel_rfl) ?_
    repeat (quiet_step (first | (go_at_call 35; exact calls_below (CV.out _))))
    refine wpQuiet_nil ?_
    rintro _ ⟨⟨w1, hw1⟩, rfl⟩
    go_wp2
    go_ret
    exact ⟨ret_bool (by simp), hw1⟩
  · have u1 : IntKind.i64.wrap ((n : Int) - 1) = (n : Int) - 1 := IntWalk.i64_in _ (by omega)
    by_cases hj : 0 ≤ j ∧ j ≤ (n : Int) - 1
    · have CJ := Lib.hid (inBq (w := w) j 0 ((n : Int) - 1) true (decide_eq_true hj))
      have u2 : IntKind.i64.wrap (j - 1) = j - 1 := IntWalk.i64_in _ (by omega)
      by_cases hi : 0 ≤ i ∧ i ≤ j - 1
      · have CI2 := Lib.hid (inBq (w := w) i 0 (j - 1) true (decide_eq_true hi))
        rw [decide_eq_true (show 0 ≤ i ∧ i < j ∧ j < (n : Int) by omega)]
        obtain ⟨x, rfl⟩ := Int.eq_ofNat_of_zero_le hi.1
        obtain ⟨y, rfl⟩ := Int.eq_ofNat_of_zero_le hj.1
        obtain ⟨g, o, rfl, hg, hx⟩ := H.out.at_ (k := x) (by omega)
        obtain ⟨g', o', e', hg', hy⟩ := H.out.at_ (k := y) (by omega)
        injection e' with e'; injection e' with e1 e2; subst e1; subst e2
        rw [Int.toNat_natCast, Int.toNat_natCast]
        obtain ⟨q, hq⟩ : ∃ q, q = Sc.nth ss x := ⟨_, rfl⟩
        obtain ⟨r, hr⟩ : ∃ q, q = Sc.nth ss y := ⟨_, rfl⟩
        rw [← hq] at hx ⊢
        rw [← hr] at hy ⊢
        clear hq hr
        obtain ⟨p, d, a, b⟩ := q
        obtain ⟨p', d', a', b'⟩ := r
        obtain ⟨m, hm⟩ : ∃ z, z = Sc.must ⟨p, d, a, b⟩ ⟨p', d', a', b'⟩ := ⟨_, rfl⟩
        have CM := Lib.hid (fun (z : BelowBy w) => calls_below (p := z) (sMust_any g (o + x * 4) g (o + y * 4) p d a b p' d' a' b' z.W
          (hx.cells fun i hs => z.h.cell hs) (hy.cells fun i hs => z.h.cell hs)))
        rw [← hm] at CM
        rw [← hm]
        clear hm hx hy
        have i1 : (x : Int) < (n : Int) := by omega
        have i2 : (y : Int) < (n : Int) := by omega
        go_enter Try.func18, Try.ntmps18
        go_wp2
        refine wp_region_quiet_below (by kernel_rfl) (by kernel_rfl) ?_
        iterate 2 (quiet_step (first | (go_at_call 35; exact calls_below (CV.out _))))
        iterate 6 (quiet_step (first | (go_at_call 41; exact CJ.out _)))
        iterate 6 (quiet_step (first | (go_at_call 41; exact CI2.out _)))
        repeat (quiet_step (first | (go_at_call 42; exact CM.out _)))
        refine wpQuiet_nil ?_
        rintro _ ⟨⟨w1, hw1⟩, rfl⟩
        go_wp2
        go_ret
        exact ⟨ret_bool (by simp), hw1⟩
      · have CI2 := Lib.hid (inBq (w := w) i 0 (j - 1) false (decide_eq_false hi))
        rw [decide_eq_false (show ¬ (0 ≤ i ∧ i < j ∧ j < (n : Int)) by omega)]
        go_enter Try.func18, Try.ntmps18
        go_wp2
        refine wp_region_quiet_below (by kernel_rfl) (by kernel_rfl) ?_
        iterate 2 (quiet_step (first | (go_at_call 35; exact calls_below (CV.out _))))
        iterate 6 (quiet_step (first | (go_at_call 41; exact CJ.out _)))
        iterate 6 (quiet_step (first | (go_at_call 41; exact CI2.out _)))
        repeat (quiet_step (fail))
        refine wpQuiet_nil ?_
        rintro _ ⟨⟨w1, hw1⟩, rfl⟩
        go_wp2
        go_ret
        exact ⟨ret_bool (by simp), hw1⟩
    · have CJ := Lib.hid (inBq (w := w) j 0 ((n : Int) - 1) false (decide_eq_false hj))
      rw [decide_eq_false (show ¬ (0 ≤ i ∧ i < j ∧ j < (n : Int)) by omega)]
      go_enter Try.func18, Try.ntmps18
      go_wp2
      refine wp_region_quiet_below (by kernel_rfl) (by kernel_rfl) ?_
      iterate 2 (quiet_step (first | (go_at_call 35; exact calls_below (CV.out _))))
      iterate 6 (quiet_step (first | (go_at_call 41; exact CJ.out _)))
      repeat (quiet_step (fail))
      refine wpQuiet_nil ?_
      rintro _ ⟨⟨w1, hw1⟩, rfl⟩
      go_wp2
      go_ret
      exact ⟨ret_bool (by simp), hw1⟩
set_option maxHeartbeats 1000000 in
theorem iMustFollow_any (A : Option Addr) (n c : Nat) (ss : List Sc.St) (B : Nat) (i j : Int) (w : World) (hn : n ≤ 1048576) (h : RdS w B A n ss) :
    Calls Try.prog 19 #[.slice A n c, .int .i64 i, .int .i64 j] w (RetB (Sc.mustFollow ss i j) w) := by
  have H := Lib.hid h
  obtain ⟨v, hv⟩ : ∃ v, v = Sc.valid ss := ⟨_, rfl⟩
  have CV := Lib.hid (iValidCode_any A n c ss B w hn h)
  rw [← hv] at CV
  have hl := h.len
  clear h
  unfold Sc.mustFollow
  rw [← hv, hl]
  have HV := Lib.hid hv; clear hv
  have HL := Lib.hid hl; clear hl
  cases v
  · go_enter Try.func19, Try.ntmps19
    go_wp2_with fail
    refine CV.out.mono ?_
    rintro e w1 ⟨rfl, hb⟩
    have HB := Lib.hid hb; clear hb
    go_wp2
    go_ret
    exact ⟨ret_bool (by simp), HB.out⟩
  · by_cases h1 : i < 0
    · have d1 : decide (i < 0) = true := decide_eq_true h1
      rw [decide_eq_false (show ¬ (0 ≤ i ∧ i < j ∧ j < (n : Int)) by omega)]
      go_enter Try.func19, Try.ntmps19
      go_wp2_with fail
      refine CV.out.mono ?_
      rintro e w1 ⟨rfl, hb⟩
      have HB := Lib.hid hb; clear hb
      go_wp2
      go_ret
      exact ⟨ret_bool (by simp), HB.out⟩
    · have d1 : decide (i < 0) = false := decide_eq_false h1
      by_cases h2 : j ≤ i
      · have d2 : decide (j ≤ i) = true := decide_eq_true h2
        rw [decide_eq_false (show ¬ (0 ≤ i ∧ i < j ∧ j < (n : Int)) by omega)]
        go_enter Try.func19, Try.ntmps19
        go_wp2_with fail
        refine CV.out.mono ?_
        rintro e w1 ⟨rfl, hb⟩
        have HB := Lib.hid hb; clear hb
        go_wp2
        go_ret
        exact ⟨ret_bool (by simp), HB.out⟩
      · have d2 : decide (j ≤ i) = false := decide_eq_false h2
        by_cases h3 : (n : Int) ≤ j
        · have d3 : decide ((n : Int) ≤ j) = true := decide_eq_true h3
          rw [decide_eq_false (show ¬ (0 ≤ i ∧ i < j ∧ j < (n : Int)) by omega)]
          go_enter Try.func19, Try.ntmps19
          go_wp2_with fail
          refine CV.out.mono ?_
          rintro e w1 ⟨rfl, hb⟩
          have HB := Lib.hid hb; clear hb
          go_wp2
          go_ret
          exact ⟨ret_bool (by simp), HB.out⟩
        · have d3 : decide ((n : Int) ≤ j) = false := decide_eq_false h3
          rw [decide_eq_true (show 0 ≤ i ∧ i < j ∧ j < (n : Int) by omega)]
          obtain ⟨x, rfl⟩ := Int.eq_ofNat_of_zero_le (show 0 ≤ i by omega)
          obtain ⟨y, rfl⟩ := Int.eq_ofNat_of_zero_le (show 0 ≤ j by omega)
          go_enter Try.func19, Try.ntmps19
          go_wp2_with fail
          refine CV.out.mono ?_
          rintro e w1 ⟨rfl, hb⟩
          obtain ⟨g, o, rfl, hg, hx⟩ := (H.out.below hb).at_ (k := x) (by omega)
          obtain ⟨g', o', e', hg', hy⟩ := (H.out.below hb).at_ (k := y) (by omega)
          injection e' with e'; injection e' with e1 e2; subst e1; subst e2
          have HB := Lib.hid hb; clear hb
          have okx := Sc.ok_of_valid HV.out.symm (k := x) (by rw [HL.out]; omega)
          have oky := Sc.ok_of_valid HV.out.symm (k := y) (by rw [HL.out]; omega)
          obtain ⟨q, hq⟩ : ∃ q, q = Sc.nth ss x := ⟨_, rfl⟩
          obtain ⟨r, hr⟩ : ∃ q, q = Sc.nth ss y := ⟨_, rfl⟩
          rw [← hq] at hx okx
          rw [← hr] at hy oky
          have HQ := Lib.hid hq
          have HR := Lib.hid hr
          clear hq hr
          obtain ⟨p, d, a, b⟩ := q
          obtain ⟨p', d', a', b'⟩ := r
          obtain ⟨m, hm⟩ : ∃ z, z = Sc.must ⟨p, d, a, b⟩ ⟨p', d', a', b'⟩ := ⟨_, rfl⟩
          have CM := Lib.hid (fun W => iMust_any p d a b p' d' a' b' W okx oky)
          rw [← hm] at CM
          have HM := Lib.hid hm
          clear hm okx oky
          obtain ⟨x0, x1, x2, x3⟩ := hx
          obtain ⟨y0, y1, y2, y3⟩ := hy
          have s0 := BelowBy.cell x0
          have s1 := BelowBy.cell x1
          have s2 := BelowBy.cell x2
          have s3 := BelowBy.cell x3
          have t0 := BelowBy.cell y0
          have t1 := BelowBy.cell y1
          have t2 := BelowBy.cell y2
          have t3 := BelowBy.cell y3
          clear x0 x1 x2 x3 y0 y1 y2 y3
          simp only at s0 s1 s2 s3 t0 t1 t2 t3
          have i1 : (x : Int) < (n : Int) := by omega
          have i2 : (y : Int) < (n : Int) := by omega
          go_wp2
          refine wp_region_quiet_below (by kernel_rfl) (by kernel_rfl) ?_
          repeat (quiet_step (first | (go_at_call 43; exact calls_below (CM.out _))))
          refine wpQuiet_nil ?_
          rintro _ ⟨⟨w2, hw2⟩, rfl⟩
          go_wp2
          go_ret
          refine ⟨ret_bool ?_, HB.out.trans (hw2.mono HB.out.size)⟩
          rw [HM.out, Int.toNat_natCast, Int.toNat_natCast, ← HQ.out, ← HR.out]
          simp
end Go.Proofs.Ytbaiaahdjkjjoaa.Wds
