/-
  Whether a list is an order: the model's function.
-/
import Derived.Test.YtbaiaahdjkjjoaaOrder
namespace Go.Proofs.Ytbaiaahdjkjjoaa.Wds
open Go.RowKit
set_option linter.unusedVariables false

theorem Rd.take_ {w : World} {B n : Nat} {A : Option Addr} {zs : List Int} (h : Rd w B A n zs) {k : Nat} (hk : k ≤ n) : Rd w B A k (zs.take k) := by
  refine ⟨by rw [List.length_take, h.1]; omega, fun hn => ?_⟩
  obtain ⟨g, o, e, hg, hc⟩ := h.2 (by omega)
  refine ⟨g, o, e, hg, fun j z hz => ?_⟩
  rw [List.getElem?_take] at hz
  split at hz
  · exact hc j z hz
  · cases hz
theorem next_no1 {c : List Sc.St} {pre : List Int} {j : Int} (h : ¬ (0 ≤ j ∧ j < c.length)) : Sc.nextOk c pre j = false := by
  rw [Sc.nextOk, decide_eq_false h]; rfl
theorem next_no2 {c : List Sc.St} {pre : List Int} {j : Int} (h : pre.contains j = true) : Sc.nextOk c pre j = false := by
  rw [Sc.nextOk, h]; simp
theorem next_no3 {c : List Sc.St} {pre : List Int} {j : Int} {i : Nat} (hi : i < j.toNat) (h1 : Sc.must (Sc.nth c i) (Sc.nth c j.toNat) = true) (h2 : pre.contains (i : Int) = false) : Sc.nextOk c pre j = false := by
  have : ((List.range j.toNat).all fun i => !Sc.must (Sc.nth c i) (Sc.nth c j.toNat) || pre.contains (i : Int)) = false := by
    rw [List.all_eq_false]
    exact ⟨i, List.mem_range.2 hi, by rw [h1, h2]; simp⟩
  rw [Sc.nextOk, this, Bool.and_false]
theorem next_yes {c : List Sc.St} {pre : List Int} {j : Int} (h : 0 ≤ j ∧ j < c.length) (h1 : pre.contains j = false) (h2 : ∀ i : Nat, i < j.toNat → Sc.must (Sc.nth c i) (Sc.nth c j.toNat) = true → pre.contains (i : Int) = true) : Sc.nextOk c pre j = true := by
  have : ((List.range j.toNat).all fun i => !Sc.must (Sc.nth c i) (Sc.nth c j.toNat) || pre.contains (i : Int)) = true := by
    rw [List.all_eq_true]
    intro i hi
    have := h2 i (List.mem_range.1 hi)
    cases hm : Sc.must (Sc.nth c i) (Sc.nth c j.toNat)
    · rfl
    · rw [this hm]; rfl
  rw [Sc.nextOk, this, decide_eq_true h, h1]; rfl
theorem hasB {w : World} (A : Option Addr) (n c : Nat) (zs : List Int) (B : Nat) (x : Int) (b : Bool) (hb : zs.contains x = b) (hn : n ≤ 1048576) (h : Rd w B A n zs) (p : BelowBy w) :
    Calls Try.prog 57 #[.slice A n c, .int .i64 x] p.W fun e w'' => e = .returned (.bool b) ∧ ∃ q : BelowBy w, w'' = q.W := by
  subst hb
  exact calls_below (sHas_any A n c zs B x p.W hn (h.below p.h))
set_option maxHeartbeats 40000000 in
theorem sOrder_any (A : Option Addr) (n c : Nat) (ss : List Sc.St) (B : Nat) (A' : Option Addr) (n' c' : Nat) (zs : List Int) (B' : Nat) (w : World) (hn : n ≤ 1048576) (hn' : n' ≤ 1048576) (hc' : n' ≤ c') (h : RdS w B A n ss) (h' : Rd w B' A' n' zs) :
    Calls Try.prog 44 #[.slice A n c, .slice A' n' c'] w (RetB (Sc.isOrd ss zs) w) := by
  have hl := h.len
  have hl' := h'.len
  have H := Lib.hid h
  have H' := Lib.hid h'
  clear h h'
  by_cases hnn : n' = n
  rotate_left
  · have hfin : Sc.isOrd ss zs = false := by
      rw [Sc.isOrd, hl, hl', show (n' == n) = false by simp [hnn]]; rfl
    rw [hfin]
    clear hfin hl hl'
    have e1 : ((n' : Int) == (n : Int)) = false := by simp; omega
    have e2 : ((n' : Int) != (n : Int)) = true := by simp; omega
    have e3 : decide ((n' : Int) = (n : Int)) = false := decide_eq_false (by omega)
    go_enter Try.func44, Try.ntmps44
    go_wp2
    go_ret
    exact ⟨rfl, Below.refl _ _⟩
  · subst hnn
    obtain ⟨r, hr⟩ : ∃ r, r = Sc.isOrd ss zs := ⟨_, rfl⟩
    rw [← hr]
    have HR := Lib.hid hr
    have HL := Lib.hid hl
    have HL' := Lib.hid hl'
    have hbad : ∀ k, k < n' → Sc.nextOk ss (zs.take k) (zs.getD k 0) = false → r = false := fun k hk e => by rw [hr]; exact ord_bad (by rw [hl']; exact hk) e
    have HBAD := Lib.hid hbad
    have u1 : IntKind.i64.wrap ((n' : Int) - 1) = (n' : Int) - 1 := IntWalk.i64_in _ (by omega)
    clear hbad hr hl hl'
    go_enter Try.func44, Try.ntmps44
    go_wp2
    go_loopw [5] (fun i wr => ∃ k : Nat, k ≤ n' ∧ i = .int .i64 k ∧ Hid (∀ j, j < k → Sc.nextOk ss (zs.take j) (zs.getD j 0) = true) ∧ Below w.heap.size w wr) (fun i _ => n' - (intOf i).toNat)
    case atStart => exact ⟨0, Nat.zero_le _, rfl, Lib.hid (fun j hj => absurd hj (Nat.not_lt_zero _)), Below.refl _ _⟩
    case round =>
      rename World => wo
      obtain ⟨k, hk, rfl, HA, hb⟩ := hrel
      by_cases hlt : k < n'
      · obtain ⟨g', o', rfl, hg', hc1⟩ := (H'.out.below hb).at_ hlt
        obtain ⟨j, hj⟩ : ∃ j, j = zs.getD k 0 := ⟨_, rfl⟩
        rw [← hj] at hc1
        have HJ := Lib.hid hj; clear hj
        have HSo := Lib.hid (H.out.below hb)
        have HTo := Lib.hid ((H'.out.below hb).take_ (k := k) (by omega))
        have hc := BelowBy.cell hc1
        have HC := Lib.hid hc1
        have HB := Lib.hid hb; clear hb hc1
        have i1 : (0 : Int) ≤ (k : Int) := by omega
        have i2 : (k : Int) < (n' : Int) := by omega
        have i3 : k ≤ c' := by omega
        by_cases hj1 : 0 ≤ j ∧ j ≤ (n' : Int) - 1
        rotate_left
        · obtain rfl : r = false := HBAD.out k hlt (by rw [← HJ.out]; exact next_no1 (by rw [HL.out]; omega))
          have CI := Lib.hid (inBq (w := wo) j 0 ((n' : Int) - 1) false (decide_eq_false hj1))
          go_wp2
          refine wp_region_quiet_below (by kernel_rfl) (by kernel_rfl) ?_
          iterate 9 (quiet_step (first | (go_at_call 41; exact CI.out _)))
          repeat (quiet_step (fail))
          refine wpQuiet_nil ?_
          rintro _ ⟨⟨w1, hw1⟩, rfl⟩
          go_wp2
          go_ret
          exact ⟨rfl, HB.out.trans (hw1.mono HB.out.size)⟩
        · have CI := Lib.hid (inBq (w := wo) j 0 ((n' : Int) - 1) true (decide_eq_true hj1))
          obtain ⟨b, hbb⟩ : ∃ b, b = (zs.take k).contains j := ⟨_, rfl⟩
          have CH := Lib.hid (hasB (w := wo) (some ⟨g', o', none⟩) k c' (zs.take k) B' j b hbb.symm (by omega) HTo.out)
          have HBB := Lib.hid hbb; clear hbb
          cases b
          rotate_left
          · obtain rfl : r = false := HBAD.out k hlt (by rw [← HJ.out]; exact next_no2 HBB.out.symm)
            go_wp2
            refine wp_region_quiet_below (by kernel_rfl) (by kernel_rfl) ?_
            iterate 9 (quiet_step (first | (go_at_call 41; exact CI.out _)))
            repeat (quiet_step (first | (go_at_call 57; exact CH.out _)))
            refine wpQuiet_nil ?_
            rintro _ ⟨⟨w1, hw1⟩, rfl⟩
            go_wp2
            go_ret
            exact ⟨rfl, HB.out.trans (hw1.mono HB.out.size)⟩
          · go_wp2
            refine wp_region_quiet_below (by kernel_rfl) (by kernel_rfl) ?_
            iterate 9 (quiet_step (first | (go_at_call 41; exact CI.out _)))
            repeat (quiet_step (first | (go_at_call 57; exact CH.out _)))
            refine wpQuiet_nil ?_
            rintro _ ⟨⟨w1, hw1⟩, rfl⟩
            have HB1 := Lib.hid (HB.out.trans (hw1.mono HB.out.size))
            have hc2 := (hw1.cell (p := ⟨g', o' + k, none⟩) (World.block_lt_of_cell? wo _ HC.out)).trans HC.out
            clear hw1 hc HSo HTo HC
            obtain ⟨y, rfl⟩ := Int.eq_ofNat_of_zero_le hj1.1
            go_wp2
            go_loopw [6] (fun i wr => ∃ x : Nat, x ≤ y ∧ i = .int .i64 x ∧ Hid (∀ i : Nat, i < x → Sc.must (Sc.nth ss i) (Sc.nth ss y) = true → (zs.take k).contains (i : Int) = true) ∧ Below w.heap.size w wr) (fun i _ => y - (intOf i).toNat)
            case atStart => exact ⟨0, Nat.zero_le _, rfl, Lib.hid (fun j hj => absurd hj (Nat.not_lt_zero _)), HB1.out⟩
            case round =>
              rename World => wi
              obtain ⟨x, hx, rfl, HAI, hb⟩ := hrel
              obtain ⟨g2, o2, e', _, hc3⟩ := (H'.out.below hb).at_ hlt
              injection e' with e'; injection e' with e1 e2; subst e1; subst e2
              rw [← HJ.out] at hc3
              by_cases hlx : x < y
              · obtain ⟨g, o, rfl, hg, hqx⟩ := (H.out.below hb).at_ (k := x) (by omega)
                obtain ⟨g2, o2, e', hg2, hqy⟩ := (H.out.below hb).at_ (k := y) (by omega)
                injection e' with e'; injection e' with e1 e2; subst e1; subst e2
                have hti := (H'.out.below hb).take_ (k := k) (by omega)
                obtain ⟨q, hq⟩ : ∃ q, q = Sc.nth ss x := ⟨_, rfl⟩
                obtain ⟨u, hu⟩ : ∃ q, q = Sc.nth ss y := ⟨_, rfl⟩
                rw [← hq] at hqx
                rw [← hu] at hqy
                have HQ := Lib.hid hq
                have HU := Lib.hid hu
                clear hq hu
                obtain ⟨p, d, a, b⟩ := q
                obtain ⟨p', d', a', b'⟩ := u
                obtain ⟨m, hm⟩ : ∃ z, z = Sc.must ⟨p, d, a, b⟩ ⟨p', d', a', b'⟩ := ⟨_, rfl⟩
                have CM := Lib.hid (fun (z : BelowBy wi) => calls_below (p := z) (sMust_any g (o + x * 4) g (o + y * 4) p d a b p' d' a' b' z.W
                  (hqx.cells fun i hs => z.h.cell hs) (hqy.cells fun i hs => z.h.cell hs)))
                rw [← hm] at CM
                rw [HQ.out, HU.out] at hm
                have HM := Lib.hid hm; clear hm
                obtain ⟨f, hf⟩ : ∃ f, f = (zs.take k).contains (x : Int) := ⟨_, rfl⟩
                have CF := Lib.hid (hasB (w := wi) (some ⟨g', o', none⟩) k c' (zs.take k) B' x f hf.symm (by omega) hti)
                have HF := Lib.hid hf
                have hc4 := BelowBy.cell hc3
                have HBI := Lib.hid hb
                clear hf hti hqx hqy hb
                have j1 : (0 : Int) ≤ (x : Int) := by omega
                have j2 : (x : Int) < (y : Int) := by omega
                have j3 : (y : Int) < (n' : Int) := by omega
                have j4 : (x : Int) < (n' : Int) := by omega
                have mk : m = true → f = false → r = false := fun e1 e2 => by
                  subst e1; subst e2
                  exact HBAD.out k hlt (by rw [← HJ.out]; exact next_no3 (i := x) (by omega) (by rw [Int.toNat_natCast]; exact HM.out.symm) HF.out.symm)
                have HMK := Lib.hid mk; clear mk
                cases m
                · go_wp2
                  refine wp_region_quiet_below (by kernel_rfl) (by kernel_rfl) ?_
                  iterate 11 (quiet_step (first | (go_at_call 42; exact CM.out _)))
                  repeat (quiet_step (fail))
                  refine wpQuiet_nil ?_
                  rintro _ ⟨⟨w2, hw2⟩, rfl⟩
                  have HB2 := Lib.hid (HBI.out.trans (hw2.mono HBI.out.size)); clear hw2
                  go_wp2
                  go_roundw
                  case rel =>
                    refine ⟨x + 1, by omega, by go_num, Lib.hid (fun i hi => ?_), HB2.out⟩
                    rcases Nat.lt_or_ge i x with h | h
                    · exact HAI.out i h
                    · obtain rfl : i = x := by omega
                      intro e
                      rw [← HM.out] at e; cases e
                  case measure => simp [intOf]; omega
                · cases f
                  · obtain rfl : r = false := HMK.out rfl rfl
                    go_wp2
                    refine wp_region_quiet_below (by kernel_rfl) (by kernel_rfl) ?_
                    iterate 11 (quiet_step (first | (go_at_call 42; exact CM.out _)))
                    repeat (quiet_step (first | (go_at_call 57; exact CF.out _)))
                    refine wpQuiet_nil ?_
                    rintro _ ⟨⟨w2, hw2⟩, rfl⟩
                    have HB2 := Lib.hid (HBI.out.trans (hw2.mono HBI.out.size)); clear hw2
                    go_wp2
                    go_ret
                    exact ⟨rfl, HB2.out⟩
                  · go_wp2
                    refine wp_region_quiet_below (by kernel_rfl) (by kernel_rfl) ?_
                    iterate 11 (quiet_step (first | (go_at_call 42; exact CM.out _)))
                    repeat (quiet_step (first | (go_at_call 57; exact CF.out _)))
                    refine wpQuiet_nil ?_
                    rintro _ ⟨⟨w2, hw2⟩, rfl⟩
                    have HB2 := Lib.hid (HBI.out.trans (hw2.mono HBI.out.size)); clear hw2
                    go_wp2
                    go_roundw
                    case rel =>
                      refine ⟨x + 1, by omega, by go_num, Lib.hid (fun i hi => ?_), HB2.out⟩
                      rcases Nat.lt_or_ge i x with h | h
                      · exact HAI.out i h
                      · obtain rfl : i = x := by omega
                        intro e
                        exact HF.out.symm
                    case measure => simp [intOf]; omega
              · have hxy : x = y := by omega
                subst hxy
                have hok : Sc.nextOk ss (zs.take k) (zs.getD k 0) = true := by
                  rw [← HJ.out]
                  exact next_yes (by rw [HL.out]; omega) HBB.out.symm (fun i hi => by rw [Int.toNat_natCast] at hi ⊢; exact HAI.out i hi)
                have HOK := Lib.hid hok
                have HBI := Lib.hid hb; clear hb hok
                go_wp2
                go_roundw
                case rel =>
                  refine ⟨k + 1, by omega, by go_num, Lib.hid (fun i hi => ?_), HBI.out⟩
                  rcases Nat.lt_or_ge i k with h | h
                  · exact HA.out i h
                  · obtain rfl : i = k := by omega
                    exact HOK.out
                case measure => simp [intOf]; omega
      · have hkn : k = n' := by omega
        obtain rfl : r = true := by
          rw [HR.out]
          exact ord_all (HL'.out.trans HL.out.symm) fun i hi => HA.out i (by rw [HL'.out] at hi; omega)
        have HB := Lib.hid hb; clear hb
        subst hkn
        go_wp2
        go_ret
        exact ⟨rfl, HB.out⟩
theorem sIsOrder_any (A : Option Addr) (n c : Nat) (ss : List Sc.St) (B : Nat) (A' : Option Addr) (n' c' : Nat) (zs : List Int) (B' : Nat) (w : World) (hn : n ≤ 1048576) (hc : n ≤ c) (hn' : n' ≤ 1048576) (hc' : n' ≤ c') (h : RdS w B A n ss) (h' : Rd w B' A' n' zs) :
    Calls Try.prog 20 #[.slice A n c, .slice A' n' c'] w (RetB (Sc.isOrder ss zs) w) := by
  have CV := Lib.hid (sIs3_any A n c ss B w hn h)
  have CO := Lib.hid (fun (W : World) (hb : Below w.heap.size w W) => sOrder_any A n c ss B A' n' c' zs B' W hn hn' hc' (h.below hb) (h'.below hb))
  clear h h'
  unfold Sc.isOrder
  generalize Sc.valid ss = v at CV ⊢
  generalize Sc.isOrd ss zs = q at CO ⊢
  cases v
  · go_enter Try.func20, Try.ntmps20
    go_wp2_with fail
    refine CV.out.mono ?_
    rintro e w1 ⟨rfl, hb⟩
    have HB := Lib.hid hb; clear hb
    go_wp2
    go_ret
    exact ⟨ret_bool (by simp), HB.out⟩
  · go_enter Try.func20, Try.ntmps20
    go_wp2_with fail
    refine CV.out.mono ?_
    rintro e w1 ⟨rfl, hb⟩
    have HB := Lib.hid hb; clear hb
    go_wp2_with fail
    refine (CO.out _ HB.out).mono ?_
    rintro e w2 ⟨rfl, hb2⟩
    have HB2 := Lib.hid (HB.out.trans (hb2.mono HB.out.size)); clear hb2
    go_wp2
    go_ret
    exact ⟨ret_bool (by simp), HB2.out⟩
end Go.Proofs.Ytbaiaahdjkjjoaa.Wds
