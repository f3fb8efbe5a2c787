/-
  IsOrder: what can come next, and whether a list is an order: the code's and the model's, one contract each.
-/
import Derived.Test.YtacbcjlpajmkhaaGraph
import Derived.Test.YtacbcjlpajmkhaaFollow
namespace Go.Proofs.Ytacbcjlpajmkhaa.Wds
open Go.RowKit
set_option linter.unusedVariables false

theorem nextOk_range {c : List Sc.St} {pre : List Int} {j : Int} (h : Sc.nextOk c pre j = true) : 0 ≤ j ∧ j < c.length := by
  simp only [Sc.nextOk, Bool.and_eq_true, decide_eq_true_eq] at h; exact h.1.1
set_option maxHeartbeats 1000000 in
theorem isNext_any (g n : Nat) (ss : List Sc.St) (pre : List Int) (j : Int) (w : World) (hl : ss.length = n) (hn : n ≤ 16) (hb : BlkU w g (cllU (graph ss n))) (hp : ∀ x ∈ pre, 0 ≤ x ∧ x ≤ 31) (hj : 0 ≤ j ∧ j < (n : Int)) :
    Calls Try.prog 22 #[.slice (some ⟨g, 0, none⟩) n n, .int .u32 ((Sc.doneOf pre : Nat) : Int), .int .i64 j] w (RetB (Sc.nextOk ss pre j) w) := by
  have hnb := Sc.next_bits (c := ss) (pre := pre) (j := j) (by rw [hl]; exact hj) (fun x hx => (hp x hx).1)
  have hd := Sc.doneOf_lt (l := pre) (fun x hx => (hp x hx).2)
  obtain ⟨s, hs⟩ : ∃ s, s = Sc.doneOf pre := ⟨_, rfl⟩
  rw [← hs] at hnb hd ⊢
  have C1 := Lib.hid (fun W => with_any s j W hd hj.1 (by omega))
  obtain ⟨t, ht⟩ : ∃ t, t = s ||| Sc.bt j := ⟨_, rfl⟩
  rw [← ht] at C1 hnb
  obtain ⟨k, rfl⟩ := Int.eq_ofNat_of_zero_le hj.1
  have hk : k < n := by omega
  rw [Int.toNat_natCast] at hnb
  have n0 : w.cell? ⟨g, k, none⟩ = some (.int .u32 ((Sc.need ss k : Nat) : Int)) := by
    rw [hb.cell, cllU_get (by rw [graph_len]; exact hk), graph_at hk]
  have hnl : Sc.need ss k < 4294967296 := Sc.setOf_lt32 _ (by omega)
  obtain ⟨d, hdd⟩ : ∃ d, d = Sc.need ss k := ⟨_, rfl⟩
  rw [← hdd] at n0 hnl hnb
  obtain ⟨m, hm⟩ : ∃ m, m = Sc.diff d s := ⟨_, rfl⟩
  have b1 : bits .andNot .u32 (d : Int) (s : Int) = (m : Int) := by rw [hm]; exact u32_andNot d s hnl hd
  rw [← hm] at hnb
  rw [← hnb]
  clear hnb hm hdd ht hs hp hb
  have i1 : (k : Int) < (n : Int) := by omega
  by_cases e1 : t = s
  · subst e1
    go_enter Try.func22, Try.ntmps22
    go_wp2_with fail
    refine (C1.out _).mono ?_
    rintro e w1 ⟨rfl, rfl⟩
    go_wp2
    go_ret
    exact ⟨ret_bool (by simp), Below.refl _ _⟩
  · have c1 : ((t : Int) == (s : Int)) = false := by simp; omega
    have c2 : ((t : Int) != (s : Int)) = true := by simp; omega
    have c3 : (t == s) = false := by simp [e1]
    have c4 : ¬ ((t : Int) = (s : Int)) := by omega
    rw [c3]
    go_enter Try.func22, Try.ntmps22
    go_wp2_with fail
    refine (C1.out _).mono ?_
    rintro e w1 ⟨rfl, rfl⟩
    go_wp2
    go_ret
    refine ⟨ret_bool ?_, Below.refl _ _⟩
    rw [Bool.not_false, Bool.true_and, Bool.eq_iff_iff]
    simp
    try omega
theorem ord_bad {c : List Sc.St} {o : List Int} {k : Nat} (hk : k < o.length) (h : Sc.nextOk c (o.take k) (o.getD k 0) = false) : Sc.isOrd c o = false := by
  have : ((List.range o.length).all fun k => Sc.nextOk c (o.take k) (o.getD k 0)) = false := by
    rw [List.all_eq_false]
    exact ⟨k, List.mem_range.2 hk, by rw [h]; simp⟩
  rw [Sc.isOrd, this, Bool.and_false]
theorem ord_all {c : List Sc.St} {o : List Int} (hl : o.length = c.length) (h : ∀ k, k < o.length → Sc.nextOk c (o.take k) (o.getD k 0) = true) : Sc.isOrd c o = true := by
  have : ((List.range o.length).all fun k => Sc.nextOk c (o.take k) (o.getD k 0)) = true := by
    rw [List.all_eq_true]
    intro k hk
    exact h k (List.mem_range.1 hk)
  rw [Sc.isOrd, this, hl]; simp
theorem mem_take {o : List Int} {k : Nat} {x : Int} (h : x ∈ o.take k) : ∃ i, i < k ∧ i < o.length ∧ x = o.getD i 0 := by
  obtain ⟨i, hi, he⟩ := List.getElem_of_mem h
  rw [List.length_take] at hi
  refine ⟨i, by omega, by omega, ?_⟩
  rw [List.getElem_take] at he
  rw [List.getD_eq_getElem?_getD, List.getElem?_eq_getElem (by omega)]; exact he.symm
theorem take_snoc {o : List Int} {k : Nat} (h : k < o.length) : o.take (k + 1) = o.take k ++ [o.getD k 0] := by
  rw [List.take_succ_eq_append_getElem h, List.getD_eq_getElem?_getD, List.getElem?_eq_getElem h]; rfl
set_option maxHeartbeats 1000000 in
theorem iIsOrder_any (A : Option Addr) (n c : Nat) (ss : List Sc.St) (B : Nat) (A' : Option Addr) (n' c' : Nat) (zs : List Int) (B' : Nat) (w : World) (hn : n ≤ 1048576) (hc : n ≤ c) (hn' : n' ≤ 1048576) (hc' : n' ≤ c') (h : RdS w B A n ss) (h' : Rd w B' A' n' zs) :
    Calls Try.prog 8 #[.slice A n c, .slice A' n' c'] w (RetB (Sc.isOrder ss zs) w) := by
  have hl := h.len
  have hl' := h'.len
  obtain ⟨v, hv⟩ : ∃ v, v = Sc.valid ss := ⟨_, rfl⟩
  have CV := Lib.hid (iValidCode_any A n c ss B w hn h)
  rw [← hv] at CV
  unfold Sc.isOrder
  rw [← hv]
  have H := Lib.hid h
  have H' := Lib.hid h'
  clear h h'
  cases v
  · clear hl hl' hv
    go_enter Try.func8, Try.ntmps8
    go_wp2_with fail
    refine CV.out.mono ?_
    rintro e w1 ⟨rfl, hb⟩
    have HB := Lib.hid hb; clear hb
    go_wp2
    go_ret
    exact ⟨ret_bool (by simp), HB.out⟩
  · by_cases hnn : n' = n
    rotate_left
    · have hfin : Sc.isOrd ss zs = false := by
        rw [Sc.isOrd, hl, hl', show (n' == n) = false by simp [hnn]]; rfl
      rw [hfin]
      clear hfin hl hl' hv
      have e1 : ((n' : Int) == (n : Int)) = false := by simp; omega
      have e2 : ((n' : Int) != (n : Int)) = true := by simp; omega
      have e3 : decide ((n' : Int) = (n : Int)) = false := decide_eq_false (by omega)
      go_enter Try.func8, Try.ntmps8
      go_wp2_with fail
      refine CV.out.mono ?_
      rintro e w1 ⟨rfl, hb⟩
      have HB := Lib.hid hb; clear hb
      go_wp2
      go_ret
      exact ⟨ret_bool (by simp), HB.out⟩
    · subst hnn
      have h16 := Sc.len_of_valid hv.symm
      rw [hl] at h16
      rw [Bool.true_and]
      obtain ⟨r, hr⟩ : ∃ r, r = Sc.isOrd ss zs := ⟨_, rfl⟩
      rw [← hr]
      have HR := Lib.hid hr
      have HL := Lib.hid hl
      have HL' := Lib.hid hl'
      have HV := Lib.hid hv.symm
      have hbad : ∀ k, k < n' → Sc.nextOk ss (zs.take k) (zs.getD k 0) = false → r = false := fun k hk e => by rw [hr]; exact ord_bad (by rw [hl']; exact hk) e
      have HBAD := Lib.hid hbad
      clear hbad hr hl hl' hv
      go_enter Try.func8, Try.ntmps8
      go_wp2_with fail
      refine CV.out.mono ?_
      rintro e w1 ⟨rfl, hb⟩
      have HB1 := Lib.hid hb
      have H1 := Lib.hid (H.out.below hb)
      have H1' := Lib.hid (H'.out.below hb); clear hb
      go_wp2_with fail
      refine (graphOf_any A n' c ss B w1 H1.out HV.out hc).mono ?_
      rintro e w2 ⟨g, rfl, hg, hbu, hb⟩
      have HU := Lib.hid hbu
      have H2' := Lib.hid (H1'.out.below hb)
      have HB2 := Lib.hid (HB1.out.trans (hb.mono HB1.out.size))
      clear hbu hb hg
      go_wp2_with fail
      go_loopw [6, 23] (fun s i wr => ∃ k : Nat, k ≤ n' ∧ i = .int .i64 k ∧ s = .int .u32 ((Sc.doneOf (zs.take k) : Nat) : Int) ∧ Hid (∀ j, j < k → Sc.nextOk ss (zs.take j) (zs.getD j 0) = true) ∧ Below w2.heap.size w2 wr) (fun _ i _ => n' - (intOf i).toNat)
      case atStart => exact ⟨0, Nat.zero_le _, rfl, rfl, Lib.hid (fun j hj => absurd hj (Nat.not_lt_zero _)), Below.refl _ _⟩
      case round =>
        obtain ⟨k, hk, rfl, rfl, HA, hb⟩ := hrel
        by_cases hlt : k < n'
        · obtain ⟨g', o', rfl, hg', hc1⟩ := (H2'.out.below hb).at_ hlt
          have hpre : ∀ x ∈ zs.take k, 0 ≤ x ∧ x ≤ 31 := fun x hx => by
            obtain ⟨i, hi, _, rfl⟩ := mem_take hx
            have := nextOk_range (HA.out i hi)
            rw [HL.out] at this
            omega
          have hd := Sc.doneOf_lt (l := zs.take k) (fun x hx => (hpre x hx).2)
          obtain ⟨j, hj⟩ : ∃ j, j = zs.getD k 0 := ⟨_, rfl⟩
          rw [← hj] at hc1
          have HJ := Lib.hid hj; clear hj
          have hu := HU.out.keep hb
          have HU3 := Lib.hid hu
          have CN := Lib.hid (fun (hj : 0 ≤ j ∧ j < (n' : Int)) => isNext_any g n' ss (zs.take k) j wr HL.out h16 hu hpre hj)
          have CW := Lib.hid (fun (hj : 0 ≤ j ∧ j ≤ 31) W => with_any (Sc.doneOf (zs.take k)) j W hd hj.1 hj.2)
          have HSN := Lib.hid (show Sc.doneOf (zs.take (k + 1)) = Sc.doneOf (zs.take k) ||| Sc.bt j by rw [take_snoc (by rw [HL'.out]; exact hlt), Sc.doneOf_snoc, HJ.out])
          generalize Sc.doneOf (zs.take k) = s at CN CW HSN ⊢
          obtain ⟨q, hq⟩ : ∃ q, q = Sc.nextOk ss (zs.take k) j := ⟨_, rfl⟩
          rw [← hq] at CN
          have hqr := fun e : q = true => nextOk_range (hq.symm.trans e)
          rw [HL.out] at hqr
          rw [HJ.out] at hq
          have HQ := Lib.hid hq
          have HQR := Lib.hid hqr
          have HB := Lib.hid hb; clear hb hq hpre hd hu hqr
          have i1 : (0 : Int) ≤ (k : Int) := by omega
          have i2 : (k : Int) < (n' : Int) := by omega
          by_cases h1 : j < 0
          · have d1 : decide (j < 0) = true := decide_eq_true h1
            obtain rfl : r = false := HBAD.out k hlt (by
              rw [← HQ.out]; cases q
              · rfl
              · have := HQR.out rfl; omega)
            go_wp2
            go_ret
            exact ⟨rfl, HB2.out.trans (HB.out.mono HB2.out.size)⟩
          · have d1 : decide (j < 0) = false := decide_eq_false h1
            by_cases h2 : (n' : Int) ≤ j
            · have d2 : decide ((n' : Int) ≤ j) = true := decide_eq_true h2
              obtain rfl : r = false := HBAD.out k hlt (by
                rw [← HQ.out]; cases q
                · rfl
                · have := HQR.out rfl; omega)
              go_wp2
              go_ret
              exact ⟨rfl, HB2.out.trans (HB.out.mono HB2.out.size)⟩
            · have d2 : decide ((n' : Int) ≤ j) = false := decide_eq_false h2
              cases q
              · obtain rfl : r = false := HBAD.out k hlt HQ.out.symm
                go_wp2_with fail
                refine (CN.out (by omega)).mono ?_
                rintro e w3 ⟨rfl, hb3⟩
                have HB3 := Lib.hid (HB.out.trans (hb3.mono HB.out.size)); clear hb3
                go_wp2
                go_ret
                exact ⟨rfl, HB2.out.trans (HB3.out.mono HB2.out.size)⟩
              · go_wp2_with fail
                refine (CN.out (by omega)).mono ?_
                rintro e w3 ⟨rfl, hb3⟩
                have HB3 := Lib.hid (HB.out.trans (hb3.mono HB.out.size)); clear hb3
                go_wp2_with fail
                refine (CW.out (by omega) _).mono ?_
                rintro e w4 ⟨rfl, rfl⟩
                go_wp2
                go_roundw
                case rel =>
                  refine ⟨k + 1, by omega, by go_num, by rw [HSN.out], Lib.hid (fun i hi => ?_), HB3.out⟩
                  rcases Nat.lt_or_ge i k with h | h
                  · exact HA.out i h
                  · obtain rfl : i = k := by omega
                    exact HQ.out.symm
                case measure => simp [intOf]; omega
        · have hkn : k = n' := by omega
          obtain rfl : r = true := by
            rw [HR.out]
            exact ord_all (HL'.out.trans HL.out.symm) fun i hi => HA.out i (by rw [HL'.out] at hi; omega)
          have HB := Lib.hid hb; clear hb
          subst hkn
          go_wp2
          go_ret
          exact ⟨rfl, HB2.out.trans (HB.out.mono HB2.out.size)⟩
end Go.Proofs.Ytacbcjlpajmkhaa.Wds
