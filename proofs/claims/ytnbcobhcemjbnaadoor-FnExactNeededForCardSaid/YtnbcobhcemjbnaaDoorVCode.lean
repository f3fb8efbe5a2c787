/-
  What tells whether code is valid: the model's function and the code's own, one contract each.
-/
import Derived.Test.YtnbcobhcemjbnaaDoorStW
import Derived.Test.YtnbcobhcemjbnaaDoorInB
import Derived.Test.YtnbcobhcemjbnaaDoorWords
namespace Go.Proofs.YtnbcobhcemjbnaaDoor.Wds
open Go.RowKit
set_option linter.unusedVariables false

theorem valid_bad {ss : List Sc.St} {k : Nat} (hk : k < ss.length) (h : Sc.ok (Sc.nth ss k) = false) : Sc.valid ss = false := by
  cases e : Sc.valid ss
  · rfl
  · rw [Sc.ok_of_valid e hk] at h; cases h
theorem valid_all {ss : List Sc.St} (h : ∀ j, j < ss.length → Sc.ok (Sc.nth ss j) = true) : Sc.valid ss = decide (ss.length ≤ 16) := by
  have : ss.all Sc.ok = true := by
    rw [List.all_eq_true]
    intro x hx
    obtain ⟨j, hj, rfl⟩ := List.getElem_of_mem hx
    have := h j hj
    rwa [Sc.nth, List.getD_eq_getElem?_getD, List.getElem?_eq_getElem hj] at this
  rw [Sc.valid, this, Bool.true_and]
theorem sOpB_any (n : Int) (w : World) : Calls Tryd.prog 79 #[.int .i64 n] w fun e w' => e = .returned (.bool (Sc.isOp n)) ∧ w = w' := by
  have C := Lib.hid (inB_any n 0 17)
  unfold Sc.isOp
  generalize decide (0 ≤ n ∧ n ≤ 17) = b at C ⊢
  go_enter Tryd.func79, Tryd.ntmps79
  go_wp2_with fail
  refine (C.out w).mono ?_
  rintro e w' ⟨rfl, rfl⟩
  go_wp2
  go_ret
  exact ⟨rfl, rfl⟩
theorem sCellB_any (n : Int) (w : World) : Calls Tryd.prog 80 #[.int .i64 n] w fun e w' => e = .returned (.bool (Sc.isCell n)) ∧ w = w' := by
  have C := Lib.hid (inB_any n 0 31)
  unfold Sc.isCell
  generalize decide (0 ≤ n ∧ n ≤ 31) = b at C ⊢
  go_enter Tryd.func80, Tryd.ntmps80
  go_wp2_with fail
  refine (C.out w).mono ?_
  rintro e w' ⟨rfl, rfl⟩
  go_wp2
  go_ret
  exact ⟨rfl, rfl⟩
theorem iOpB_any (n : Int) (w : World) : Calls Tryd.prog 92 #[.int .i64 n] w fun e w' => e = .returned (.bool (Sc.isOp n)) ∧ Below w.heap.size w w' := by
  unfold Sc.isOp
  by_cases h0 : n < 0
  · rw [decide_eq_false (by omega)]
    go_enter Tryd.func92, Tryd.ntmps92
    go_wp2_with (go_at_call 71; refine (within_lo _ _ _ _ (by omega)).mono ?_; rintro e w' ⟨rfl, rfl⟩)
    go_ret
    exact ⟨rfl, (Below.refl _ _).alloc (Nat.le_refl _) _⟩
  · by_cases h1 : 17 < n
    · rw [decide_eq_false (by omega)]
      go_enter Tryd.func92, Tryd.ntmps92
      go_wp2_with (go_at_call 71; refine (within_hi _ _ _ _ (by omega) (by omega)).mono ?_; rintro e w' ⟨rfl, rfl⟩)
      go_ret
      exact ⟨rfl, (Below.refl _ _).alloc (Nat.le_refl _) _⟩
    · rw [decide_eq_true (by omega)]
      go_enter Tryd.func92, Tryd.ntmps92
      go_wp2_with (go_at_call 71; refine (within_in _ _ _ _ (by omega) (by omega)).mono ?_; rintro e w' ⟨rfl, rfl⟩)
      go_ret
      exact ⟨rfl, Below.refl _ _⟩
theorem iCellB_any (n : Int) (w : World) : Calls Tryd.prog 93 #[.int .i64 n] w fun e w' => e = .returned (.bool (Sc.isCell n)) ∧ Below w.heap.size w w' := by
  unfold Sc.isCell
  by_cases h0 : n < 0
  · rw [decide_eq_false (by omega)]
    go_enter Tryd.func93, Tryd.ntmps93
    go_wp2_with (go_at_call 71; refine (within_lo _ _ _ _ (by omega)).mono ?_; rintro e w' ⟨rfl, rfl⟩)
    go_ret
    exact ⟨rfl, (Below.refl _ _).alloc (Nat.le_refl _) _⟩
  · by_cases h1 : 31 < n
    · rw [decide_eq_false (by omega)]
      go_enter Tryd.func93, Tryd.ntmps93
      go_wp2_with (go_at_call 71; refine (within_hi _ _ _ _ (by omega) (by omega)).mono ?_; rintro e w' ⟨rfl, rfl⟩)
      go_ret
      exact ⟨rfl, (Below.refl _ _).alloc (Nat.le_refl _) _⟩
    · rw [decide_eq_true (by omega)]
      go_enter Tryd.func93, Tryd.ntmps93
      go_wp2_with (go_at_call 71; refine (within_in _ _ _ _ (by omega) (by omega)).mono ?_; rintro e w' ⟨rfl, rfl⟩)
      go_ret
      exact ⟨rfl, Below.refl _ _⟩
set_option maxHeartbeats 1000000 in
theorem sIs3_any (A : Option Addr) (n c : Nat) (ss : List Sc.St) (B : Nat) (w : World) (hn : n ≤ 1048576) (h : RdS w B A n ss) :
    Calls Tryd.prog 51 #[.slice A n c] w fun e w' => e = .returned (.bool (Sc.valid ss)) ∧ Below w.heap.size w w' := by
  have H := Lib.hid h; clear h
  obtain ⟨r, hr⟩ : ∃ r, r = Sc.valid ss := ⟨_, rfl⟩
  rw [← hr]
  have HR := Lib.hid hr; clear hr
  go_enter Tryd.func51, Tryd.ntmps51
  go_wp2
  go_loopw [3] (fun i wr => ∃ k : Nat, k ≤ n ∧ i = .int .i64 k ∧ Hid (∀ j, j < k → Sc.ok (Sc.nth ss j) = true) ∧ Below w.heap.size w wr) (fun i _ => n - (intOf i).toNat)
  case atStart => exact ⟨0, Nat.zero_le _, rfl, Lib.hid (fun j hj => absurd hj (Nat.not_lt_zero _)), Below.refl _ _⟩
  case round =>
    obtain ⟨k, hk, rfl, HA, hb⟩ := hrel
    by_cases hlt : k < n
    · obtain ⟨g, o, rfl, hg, c0, c1, c2, c3⟩ := (H.out.below hb).at_ hlt
      have HL := Lib.hid (show k < ss.length by rw [H.out.len]; exact hlt)
      obtain ⟨x, hx⟩ : ∃ x, x = Sc.nth ss k := ⟨_, rfl⟩
      rw [← hx] at c0 c1 c2 c3
      have HX := Lib.hid hx; clear hx
      obtain ⟨p, d, a, b⟩ := x
      simp only at c0 c1 c2 c3
      have HB := Lib.hid hb; clear hb
      have i1 : (0 : Int) ≤ (k : Int) := by omega
      have i2 : (k : Int) < (n : Int) := by omega
      obtain ⟨b0, h0⟩ : ∃ z, z = Sc.isOp p := ⟨_, rfl⟩
      obtain ⟨b1, h1⟩ : ∃ z, z = Sc.isCell d := ⟨_, rfl⟩
      obtain ⟨b2, h2⟩ : ∃ z, z = Sc.isCell a := ⟨_, rfl⟩
      obtain ⟨b3, h3⟩ : ∃ z, z = Sc.isCell b := ⟨_, rfl⟩
      have C0 := Lib.hid (sOpB_any p)
      have C1 := Lib.hid (sCellB_any d)
      have C2 := Lib.hid (sCellB_any a)
      have C3 := Lib.hid (sCellB_any b)
      rw [← h0] at C0
      rw [← h1] at C1
      rw [← h2] at C2
      rw [← h3] at C3
      have HO := Lib.hid (show Sc.ok ⟨p, d, a, b⟩ = (b0 && b1 && b2 && b3) by rw [h0, h1, h2, h3]; rfl)
      rw [HX.out] at HO
      clear h0 h1 h2 h3
      have bad : (b0 && b1 && b2 && b3) = false → r = false := fun e => by rw [HR.out]; exact valid_bad HL.out (by rw [HO.out]; exact e)
      have HBAD := Lib.hid bad; clear bad
      cases b0
      · have e : r = false := HBAD.out rfl
        subst e
        go_wp2_with (first | (go_at_call 79; refine (C0.out _).mono ?_; rintro e w' ⟨rfl, rfl⟩))
        go_ret
        exact ⟨rfl, HB.out⟩
      · cases b1
        · have e : r = false := HBAD.out rfl
          subst e
          go_wp2_with (first | (go_at_call 79; refine (C0.out _).mono ?_; rintro e w' ⟨rfl, rfl⟩) | (go_at_call 80; refine (C1.out _).mono ?_; rintro e w' ⟨rfl, rfl⟩))
          go_ret
          exact ⟨rfl, HB.out⟩
        · cases b2
          · have e : r = false := HBAD.out rfl
            subst e
            go_wp2_with fail
            refine (C0.out _).mono ?_
            rintro e w' ⟨rfl, rfl⟩
            go_wp2_with fail
            refine (C1.out _).mono ?_
            rintro e w' ⟨rfl, rfl⟩
            go_wp2_with fail
            refine (C2.out _).mono ?_
            rintro e w' ⟨rfl, rfl⟩
            go_wp2
            go_ret
            exact ⟨rfl, HB.out⟩
          · cases b3
            · have e : r = false := HBAD.out rfl
              subst e
              go_wp2_with fail
              refine (C0.out _).mono ?_
              rintro e w' ⟨rfl, rfl⟩
              go_wp2_with fail
              refine (C1.out _).mono ?_
              rintro e w' ⟨rfl, rfl⟩
              go_wp2_with fail
              refine (C2.out _).mono ?_
              rintro e w' ⟨rfl, rfl⟩
              go_wp2_with fail
              refine (C3.out _).mono ?_
              rintro e w' ⟨rfl, rfl⟩
              go_wp2
              go_ret
              exact ⟨rfl, HB.out⟩
            · go_wp2_with fail
              refine (C0.out _).mono ?_
              rintro e w' ⟨rfl, rfl⟩
              go_wp2_with fail
              refine (C1.out _).mono ?_
              rintro e w' ⟨rfl, rfl⟩
              go_wp2_with fail
              refine (C2.out _).mono ?_
              rintro e w' ⟨rfl, rfl⟩
              go_wp2_with fail
              refine (C3.out _).mono ?_
              rintro e w' ⟨rfl, rfl⟩
              go_wp2
              go_roundw
              case rel =>
                refine ⟨k + 1, by omega, by go_num, Lib.hid (fun j hj => ?_), HB.out⟩
                rcases Nat.lt_or_ge j k with h | h
                · exact HA.out j h
                · obtain rfl : j = k := by omega
                  exact HO.out
              case measure => simp [intOf]; omega
    · have hkn : k = n := by omega
      have hr : r = decide (n ≤ 16) := by rw [HR.out, valid_all (fun j hj => HA.out j (by rw [H.out.len] at hj; omega)), H.out.len]
      have HB := Lib.hid hb; clear hb hkn
      by_cases h16 : n ≤ 16
      · rw [decide_eq_true h16] at hr
        subst hr
        go_wp2
        go_ret
        exact ⟨ret_bool (by simp; omega), HB.out⟩
      · rw [decide_eq_false h16] at hr
        subst hr
        go_wp2
        go_ret
        exact ⟨ret_bool (by simp; omega), HB.out⟩
set_option maxHeartbeats 1000000 in
theorem isValid_any (p d a b : Int) (w : World) :
    Calls Tryd.prog 84 #[.agg #[.int .i64 p, .int .i64 d, .int .i64 a, .int .i64 b]] w fun e w' => e = .returned (.bool (Sc.ok ⟨p, d, a, b⟩)) ∧ Below w.heap.size w w' := by
  obtain ⟨b0, h0⟩ : ∃ z, z = Sc.isOp p := ⟨_, rfl⟩
  obtain ⟨b1, h1⟩ : ∃ z, z = Sc.isCell d := ⟨_, rfl⟩
  obtain ⟨b2, h2⟩ : ∃ z, z = Sc.isCell a := ⟨_, rfl⟩
  obtain ⟨b3, h3⟩ : ∃ z, z = Sc.isCell b := ⟨_, rfl⟩
  have C0 := Lib.hid (iOpB_any p)
  have C1 := Lib.hid (iCellB_any d)
  have C2 := Lib.hid (iCellB_any a)
  have C3 := Lib.hid (iCellB_any b)
  rw [← h0] at C0
  rw [← h1] at C1
  rw [← h2] at C2
  rw [← h3] at C3
  have ho : Sc.ok ⟨p, d, a, b⟩ = (b0 && b1 && b2 && b3) := by rw [h0, h1, h2, h3]; rfl
  rw [ho]
  clear ho h0 h1 h2 h3
  have HK := Lib.hid (BlkS.new w #[.int .i64 p, .int .i64 d, .int .i64 a, .int .i64 b])
  have HB0 := Lib.hid ((Below.refl w.heap.size w).alloc (Nat.le_refl _) (.cells #[.int .i64 p, .int .i64 d, .int .i64 a, .int .i64 b] 80))
  cases b0
  · go_enter Tryd.func84, Tryd.ntmps84
    go_wp2_with fail
    refine (C0.out _).mono ?_
    rintro e w1 ⟨rfl, hb1⟩
    have HB1 := Lib.hid (HB0.out.trans (hb1.mono HB0.out.size)); clear hb1
    go_wp2
    go_ret
    exact ⟨rfl, HB1.out⟩
  · cases b1
    · go_enter Tryd.func84, Tryd.ntmps84
      go_wp2_with fail
      refine (C0.out _).mono ?_
      rintro e w1 ⟨rfl, hb1⟩
      have HK1 := Lib.hid (HK.out.keep hb1)
      have HB1 := Lib.hid (HB0.out.trans (hb1.mono HB0.out.size)); clear hb1
      have d1 : w1.cell? ⟨w.heap.size, 1, none⟩ = some (.int .i64 d) := HK1.out.cell 1
      go_wp2_with fail
      refine (C1.out _).mono ?_
      rintro e w2 ⟨rfl, hb2⟩
      have HB2 := Lib.hid (HB1.out.trans (hb2.mono HB1.out.size)); clear hb2
      go_wp2
      go_ret
      exact ⟨rfl, HB2.out⟩
    · cases b2
      · go_enter Tryd.func84, Tryd.ntmps84
        go_wp2_with fail
        refine (C0.out _).mono ?_
        rintro e w1 ⟨rfl, hb1⟩
        have HK1 := Lib.hid (HK.out.keep hb1)
        have HB1 := Lib.hid (HB0.out.trans (hb1.mono HB0.out.size)); clear hb1
        have d1 : w1.cell? ⟨w.heap.size, 1, none⟩ = some (.int .i64 d) := HK1.out.cell 1
        go_wp2_with fail
        refine (C1.out _).mono ?_
        rintro e w2 ⟨rfl, hb2⟩
        have HK2 := Lib.hid (HK1.out.keep hb2)
        have HB2 := Lib.hid (HB1.out.trans (hb2.mono HB1.out.size)); clear hb2
        have d2 : w2.cell? ⟨w.heap.size, 2, none⟩ = some (.int .i64 a) := HK2.out.cell 2
        go_wp2_with fail
        refine (C2.out _).mono ?_
        rintro e w3 ⟨rfl, hb3⟩
        have HB3 := Lib.hid (HB2.out.trans (hb3.mono HB2.out.size)); clear hb3
        go_wp2
        go_ret
        exact ⟨rfl, HB3.out⟩
      · cases b3
        all_goals
          go_enter Tryd.func84, Tryd.ntmps84
          go_wp2_with fail
          refine (C0.out _).mono ?_
          rintro e w1 ⟨rfl, hb1⟩
          have HK1 := Lib.hid (HK.out.keep hb1)
          have HB1 := Lib.hid (HB0.out.trans (hb1.mono HB0.out.size)); clear hb1
          have d1 : w1.cell? ⟨w.heap.size, 1, none⟩ = some (.int .i64 d) := HK1.out.cell 1
          go_wp2_with fail
          refine (C1.out _).mono ?_
          rintro e w2 ⟨rfl, hb2⟩
          have HK2 := Lib.hid (HK1.out.keep hb2)
          have HB2 := Lib.hid (HB1.out.trans (hb2.mono HB1.out.size)); clear hb2
          have d2 : w2.cell? ⟨w.heap.size, 2, none⟩ = some (.int .i64 a) := HK2.out.cell 2
          go_wp2_with fail
          refine (C2.out _).mono ?_
          rintro e w3 ⟨rfl, hb3⟩
          have HK3 := Lib.hid (HK2.out.keep hb3)
          have HB3 := Lib.hid (HB2.out.trans (hb3.mono HB2.out.size)); clear hb3
          have d3 : w3.cell? ⟨w.heap.size, 3, none⟩ = some (.int .i64 b) := HK3.out.cell 3
          go_wp2_with fail
          refine (C3.out _).mono ?_
          rintro e w4 ⟨rfl, hb4⟩
          have HB4 := Lib.hid (HB3.out.trans (hb4.mono HB3.out.size)); clear hb4
          go_wp2
          go_ret
          exact ⟨rfl, HB4.out⟩
theorem vcClosure_any (p d a b : Int) (w : World) :
    Calls Tryd.prog 83 #[.agg #[.int .i64 p, .int .i64 d, .int .i64 a, .int .i64 b]] w fun e w' => e = .returned (.bool (!Sc.ok ⟨p, d, a, b⟩)) ∧ Below w.heap.size w w' := by
  have C := Lib.hid (isValid_any p d a b)
  generalize Sc.ok ⟨p, d, a, b⟩ = r at C ⊢
  have HB0 := Lib.hid ((Below.refl w.heap.size w).alloc (Nat.le_refl _) (.cells #[.int .i64 p, .int .i64 d, .int .i64 a, .int .i64 b] 80))
  go_enter Tryd.func83, Tryd.ntmps83
  go_wp2_with fail
  refine (C.out _).mono ?_
  rintro e w1 ⟨rfl, hb1⟩
  have HB1 := Lib.hid (HB0.out.trans (hb1.mono HB0.out.size)); clear hb1
  go_wp2
  go_ret
  exact ⟨rfl, HB1.out⟩
/-- The first statement that is not valid. -/
def badAt (ss : List Sc.St) (e : Ending) : Prop :=
  (e = .returned (.int .i64 (-1)) ∧ ∀ j, j < ss.length → Sc.ok (Sc.nth ss j) = true) ∨ ∃ k : Nat, k < ss.length ∧ e = .returned (.int .i64 (k : Int)) ∧ Sc.ok (Sc.nth ss k) = false
set_option maxHeartbeats 1000000 in
theorem idxF_any (A : Option Addr) (n c : Nat) (ss : List Sc.St) (B : Nat) (w : World) (hn : n ≤ 1048576) (h : RdS w B A n ss) :
    Calls Tryd.prog 91 #[.slice A n c, .func (.func 83) #[] #[]] w fun e w' => badAt ss e ∧ Below w.heap.size w w' := by
  have H := Lib.hid h; clear h
  go_enter Tryd.func91, Tryd.ntmps91
  go_wp2
  go_loopw [5, 8] (fun _ i wr => ∃ k : Nat, k ≤ n ∧ i = .int .i64 k ∧ Hid (∀ j, j < k → Sc.ok (Sc.nth ss j) = true) ∧ Below w.heap.size w wr) (fun _ i _ => n - (intOf i).toNat)
  case atStart => exact ⟨0, Nat.zero_le _, rfl, Lib.hid (fun j hj => absurd hj (Nat.not_lt_zero _)), Below.refl _ _⟩
  case round =>
    obtain ⟨k, hk, rfl, HA, hb⟩ := hrel
    by_cases hlt : k < n
    · obtain ⟨g, o, rfl, hg, c0, c1, c2, c3⟩ := (H.out.below hb).at_ hlt
      have HL := Lib.hid (show k < ss.length by rw [H.out.len]; exact hlt)
      obtain ⟨x, hx⟩ : ∃ x, x = Sc.nth ss k := ⟨_, rfl⟩
      rw [← hx] at c0 c1 c2 c3
      obtain ⟨p, d, a, b⟩ := x
      simp only at c0 c1 c2 c3
      have HB := Lib.hid hb; clear hb
      have i1 : (0 : Int) ≤ (k : Int) := by omega
      have i2 : (k : Int) < (n : Int) := by omega
      obtain ⟨r, hr⟩ : ∃ z, z = Sc.ok ⟨p, d, a, b⟩ := ⟨_, rfl⟩
      have C := Lib.hid (vcClosure_any p d a b)
      rw [← hr] at C
      rw [hx] at hr
      have HR := Lib.hid hr; clear hr hx
      cases r
      · go_wp2_with fail
        refine (C.out _).mono ?_
        rintro e w1 ⟨rfl, hb1⟩
        have HB1 := Lib.hid (HB.out.trans (hb1.mono HB.out.size)); clear hb1
        go_wp2
        go_ret
        exact ⟨.inr ⟨k, HL.out, rfl, HR.out.symm⟩, HB1.out⟩
      · go_wp2_with fail
        refine (C.out _).mono ?_
        rintro e w1 ⟨rfl, hb1⟩
        have HB1 := Lib.hid (HB.out.trans (hb1.mono HB.out.size)); clear hb1
        go_wp2
        go_roundw
        case rel =>
          refine ⟨k + 1, by omega, by go_num, Lib.hid (fun j hj => ?_), HB1.out⟩
          rcases Nat.lt_or_ge j k with h | h
          · exact HA.out j h
          · obtain rfl : j = k := by omega
            exact HR.out.symm
        case measure => simp [intOf]; omega
    · have hkn : k = n := by omega
      have HB := Lib.hid hb; clear hb
      subst hkn
      go_wp2
      go_ret
      exact ⟨.inl ⟨rfl, fun j hj => HA.out j (by rw [H.out.len] at hj; exact hj)⟩, HB.out⟩
theorem contF_any (A : Option Addr) (n c : Nat) (ss : List Sc.St) (B : Nat) (w : World) (hn : n ≤ 1048576) (h : RdS w B A n ss) :
    Calls Tryd.prog 82 #[.slice A n c, .func (.func 83) #[] #[]] w fun e w' => e = .returned (.bool (!ss.all Sc.ok)) ∧ Below w.heap.size w w' := by
  have C := Lib.hid (idxF_any A n c ss B w hn h)
  obtain ⟨r, hr⟩ : ∃ z, z = ss.all Sc.ok := ⟨_, rfl⟩
  rw [← hr]
  have HR := Lib.hid hr
  clear h hr
  go_enter Tryd.func82, Tryd.ntmps82
  go_wp2_with fail
  refine C.out.mono ?_
  rintro e w1 ⟨(⟨rfl, ha⟩ | ⟨k, hk, rfl, hf⟩), hb1⟩
  · have hall : ss.all Sc.ok = true := by
      rw [List.all_eq_true]
      intro x hx
      obtain ⟨j, hj, rfl⟩ := List.getElem_of_mem hx
      have := ha j hj
      rwa [Sc.nth, List.getD_eq_getElem?_getD, List.getElem?_eq_getElem hj] at this
    obtain rfl : r = true := by rw [HR.out]; exact hall
    have HB1 := Lib.hid hb1; clear hb1 ha hall
    go_wp2
    go_ret
    exact ⟨rfl, HB1.out⟩
  · have hall : ss.all Sc.ok = false := by
      cases e : ss.all Sc.ok
      · rfl
      · rw [List.all_eq_true] at e
        have := e (ss[k]) (List.getElem_mem hk)
        rw [Sc.nth, List.getD_eq_getElem?_getD, List.getElem?_eq_getElem hk] at hf
        rw [show (some ss[k]).getD Sc.zero = ss[k] from rfl, this] at hf
        cases hf
    obtain rfl : r = false := by rw [HR.out]; exact hall
    have HB1 := Lib.hid hb1; clear hb1 hf hall
    have k0 : (0 : Int) ≤ (k : Int) := by omega
    go_wp2
    go_ret
    exact ⟨ret_bool (by simp; try omega), HB1.out⟩
theorem iValidCode_any (A : Option Addr) (n c : Nat) (ss : List Sc.St) (B : Nat) (w : World) (hn : n ≤ 1048576) (h : RdS w B A n ss) :
    Calls Tryd.prog 56 #[.slice A n c] w fun e w' => e = .returned (.bool (Sc.valid ss)) ∧ Below w.heap.size w w' := by
  have C := Lib.hid (contF_any A n c ss B w hn h)
  rw [Sc.valid, h.len]
  clear h
  generalize ss.all Sc.ok = r at C ⊢
  by_cases h16 : n ≤ 16
  · rw [decide_eq_true h16]
    have d : decide ((n : Int) ≤ 16) = true := decide_eq_true (by omega)
    go_enter Tryd.func56, Tryd.ntmps56
    go_wp2_with fail
    refine C.out.mono ?_
    rintro e w1 ⟨rfl, hb1⟩
    have HB1 := Lib.hid hb1; clear hb1
    go_wp2
    go_ret
    exact ⟨ret_bool (by simp), HB1.out⟩
  · rw [decide_eq_false h16]
    have d : decide ((n : Int) ≤ 16) = false := decide_eq_false (by omega)
    go_enter Tryd.func56, Tryd.ntmps56
    go_wp2
    go_ret
    exact ⟨ret_bool (by simp), Below.refl _ _⟩
end Go.Proofs.YtnbcobhcemjbnaaDoor.Wds
