/-
  Orders over sets of needs: what can come next, and whether a list is an order: the code's functions, one contract each.
-/
import Derived.Test.YtfmplneopmbfoaaBlkU
import Derived.Test.YtfmplneopmbfoaaPrM
namespace Go.Proofs.Ytfmplneopmbfoaa.Wds
open Go.RowKit
set_option linter.unusedVariables false

set_option maxHeartbeats 1000000 in
theorem isNextU_any (g n : Nat) (us : List Nat) (s j : Nat) (w : World) (hl : us.length = n) (hn : n ≤ 16) (hu : ∀ i, i < n → us.getD i 0 < 4294967296) (hs : s < 4294967296) (hj : j < n) (hb : BlkU w g (cllU us)) :
    Calls Try.prog 58 #[.slice (some ⟨g, 0, none⟩) n n, .int .u32 (s : Int), .int .i64 (j : Int)] w (RetB (Tk.nextU us s j) w) := by
  have C1 := Lib.hid (fun W => hasN_any s j W hs (by omega))
  have n0 : w.cell? ⟨g, j, none⟩ = some (.int .u32 ((us.getD j 0 : Nat) : Int)) := by rw [hb.cell, cllU_get (by omega)]
  have hd := hu j hj
  unfold Tk.nextU
  obtain ⟨d, hdd⟩ : ∃ d, d = us.getD j 0 := ⟨_, rfl⟩
  rw [← hdd] at n0 hd ⊢
  obtain ⟨m, hm⟩ : ∃ m, m = Sc.diff d s := ⟨_, rfl⟩
  have b1 : bits .andNot .u32 (d : Int) (s : Int) = (m : Int) := by rw [hm]; exact u32_andNot d s hd hs
  rw [← hm]
  generalize s.testBit j = t at C1 ⊢
  clear hm hdd hu hb
  have i1 : (j : Int) < (n : Int) := by omega
  have i2 : (0 : Int) ≤ (j : Int) := by omega
  cases t
  rotate_left
  · go_enter Try.func58, Try.ntmps58
    go_wp2_with fail
    refine (C1.out _).mono ?_
    rintro e w1 ⟨rfl, rfl⟩
    go_wp2
    go_ret
    exact ⟨ret_bool (by simp), Below.refl _ _⟩
  · go_enter Try.func58, Try.ntmps58
    go_wp2_with fail
    refine (C1.out _).mono ?_
    rintro e w1 ⟨rfl, rfl⟩
    go_wp2
    go_ret
    refine ⟨ret_bool ?_, Below.refl _ _⟩
    rw [Bool.not_false, Bool.true_and, Bool.eq_iff_iff]
    simp
    try omega
set_option maxHeartbeats 1000000 in
theorem isOrderU_any (g n : Nat) (us : List Nat) (A' : Option Addr) (n' c' : Nat) (zs : List Int) (B' : Nat) (w : World) (hl : us.length = n) (hn : n ≤ 16) (hu : ∀ i, i < n → us.getD i 0 < 4294967296) (hn' : n' ≤ 1048576) (hb : BlkU w g (cllU us)) (h' : Rd w B' A' n' zs) :
    Calls Try.prog 60 #[.slice (some ⟨g, 0, none⟩) n n, .slice A' n' c'] w (RetB (Tk.ordU us zs) w) := by
  have hl' := h'.len
  have HU := Lib.hid hb
  have HUL := Lib.hid hu
  have H' := Lib.hid h'
  clear h' hb hu
  by_cases hnn : n' = n
  rotate_left
  · rw [Tk.ordU_len (by omega)]
    clear hl hl'
    have e1 : ((n' : Int) == (n : Int)) = false := by simp; omega
    have e2 : ((n' : Int) != (n : Int)) = true := by simp; omega
    have e3 : decide ((n' : Int) = (n : Int)) = false := decide_eq_false (by omega)
    go_enter Try.func60, Try.ntmps60
    go_wp2
    go_ret
    exact ⟨rfl, Below.refl _ _⟩
  subst hnn
  obtain ⟨r, hr⟩ : ∃ r, r = Tk.ordU us zs := ⟨_, rfl⟩
  rw [← hr]
  have HR := Lib.hid hr
  have HL := Lib.hid hl
  have HL' := Lib.hid hl'
  have hbad : ∀ k, k < n' → Tk.okU us zs k = false → r = false := fun k hk e => by rw [hr]; exact Tk.ordU_bad (by rw [hl']; exact hk) e
  have HBAD := Lib.hid hbad
  clear hbad hr hl hl'
  go_enter Try.func60, Try.ntmps60
  go_wp2
  go_loopw [5, 15] (fun s i wr => ∃ k : Nat, k ≤ n' ∧ i = .int .i64 k ∧ s = .int .u32 ((Sc.doneOf (zs.take k) : Nat) : Int) ∧ Hid (∀ j, j < k → Tk.okU us zs j = true) ∧ Below w.heap.size w wr) (fun _ i _ => n' - (intOf i).toNat)
  case atStart => exact ⟨0, Nat.zero_le _, rfl, rfl, Lib.hid (fun j hj => absurd hj (Nat.not_lt_zero _)), Below.refl _ _⟩
  case round =>
    obtain ⟨k, hk, rfl, rfl, HA, hb⟩ := hrel
    by_cases hlt : k < n'
    · obtain ⟨g', o', rfl, hg', hc1⟩ := (H'.out.below hb).at_ hlt
      have hpre : ∀ x ∈ zs.take k, x ≤ 31 := fun x hx => by
        obtain ⟨i, hi, _, rfl⟩ := Tk.mem_take hx
        have := Tk.okU_range (HA.out i hi)
        rw [HL.out] at this
        omega
      have hd := Sc.doneOf_lt (l := zs.take k) hpre
      have HOK := Lib.hid (show Tk.okU us zs k = (decide (0 ≤ zs.getD k 0 ∧ zs.getD k 0 < n') && Tk.nextU us (Sc.doneOf (zs.take k)) (zs.getD k 0).toNat) by rw [Tk.okU, HL.out])
      obtain ⟨j, hj⟩ : ∃ j, j = zs.getD k 0 := ⟨_, rfl⟩
      rw [← hj] at hc1 HOK
      have HSN := Lib.hid (show Sc.doneOf (zs.take (k + 1)) = Sc.doneOf (zs.take k) ||| Sc.bt j by rw [Tk.take_snoc (by rw [HL'.out]; exact hlt), Sc.doneOf_snoc, hj])
      have HJ := Lib.hid hj; clear hj
      have HU3 := Lib.hid (HU.out.keep hb)
      generalize Sc.doneOf (zs.take k) = s at hd HSN HOK ⊢
      have CN := Lib.hid (fun (q : Nat) (hq : q < n') W (hW : BlkU W g (cllU us)) => isNextU_any g n' us s q W HL.out hn HUL.out hd hq hW)
      have CW := Lib.hid (fun (h0 : 0 ≤ j) (h1 : j ≤ 31) W => with_any s j W hd h0 h1)
      have HB := Lib.hid hb; clear hb hpre hd
      have i1 : (0 : Int) ≤ (k : Int) := by omega
      have i2 : (k : Int) < (n' : Int) := by omega
      by_cases h1 : j < 0
      · have d1 : decide (j < 0) = true := decide_eq_true h1
        obtain rfl : r = false := HBAD.out k hlt (by rw [HOK.out, decide_eq_false (by omega)]; rfl)
        go_wp2
        go_ret
        exact ⟨rfl, HB.out⟩
      · have d1 : decide (j < 0) = false := decide_eq_false h1
        by_cases h2 : (n' : Int) ≤ j
        · have d2 : decide ((n' : Int) ≤ j) = true := decide_eq_true h2
          obtain rfl : r = false := HBAD.out k hlt (by rw [HOK.out, decide_eq_false (by omega)]; rfl)
          go_wp2
          go_ret
          exact ⟨rfl, HB.out⟩
        · have d2 : decide ((n' : Int) ≤ j) = false := decide_eq_false h2
          obtain ⟨q, rfl⟩ := Int.eq_ofNat_of_zero_le (show 0 ≤ j by omega)
          have HOK2 := Lib.hid (show Tk.okU us zs k = Tk.nextU us s q by rw [HOK.out, decide_eq_true (by omega), Bool.true_and, Int.toNat_natCast])
          have hq : q < n' := by omega
          have CN2 := Lib.hid (CN.out q hq _ HU3.out)
          have CW2 := Lib.hid (fun W => CW.out (by omega) (by omega) W)
          have dN : decide (n' ≤ q) = false := decide_eq_false (by omega)
          clear h1 h2
          generalize Tk.nextU us s q = t at CN2 HOK2
          cases t
          · obtain rfl : r = false := HBAD.out k hlt HOK2.out
            go_wp2_with fail
            refine CN2.out.mono ?_
            rintro e w3 ⟨rfl, hb3⟩
            have HB3 := Lib.hid (HB.out.trans (hb3.mono HB.out.size)); clear hb3
            go_wp2
            go_ret
            exact ⟨rfl, HB3.out⟩
          · go_wp2_with fail
            refine CN2.out.mono ?_
            rintro e w3 ⟨rfl, hb3⟩
            have HB3 := Lib.hid (HB.out.trans (hb3.mono HB.out.size)); clear hb3
            go_wp2_with fail
            refine (CW2.out _).mono ?_
            rintro e w4 ⟨rfl, rfl⟩
            go_wp2
            go_roundw
            case rel =>
              refine ⟨k + 1, by omega, by go_num, by rw [HSN.out], Lib.hid (fun i hi => ?_), HB3.out⟩
              rcases Nat.lt_or_ge i k with h | h
              · exact HA.out i h
              · obtain rfl : i = k := by omega
                exact HOK2.out
            case measure => simp [intOf]; omega
    · have hkn : k = n' := by omega
      obtain rfl : r = true := by
        rw [HR.out]
        exact Tk.ordU_all (HL'.out.trans HL.out.symm) fun i hi => HA.out i (by rw [HL'.out] at hi; omega)
      have HB := Lib.hid hb; clear hb
      subst hkn
      go_wp2
      go_ret
      exact ⟨rfl, HB.out⟩
end Go.Proofs.Ytfmplneopmbfoaa.Wds
