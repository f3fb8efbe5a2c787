/-
  Lane by lane: the code's and the model's function; one contract each.
-/
import Derived.Test.YtigodbilfjppbaaGreatDoorSWise
import Derived.Test.YtigodbilfjppbaaGreatDoorWise8
import Derived.Test.YtigodbilfjppbaaGreatDoorWise16
import Derived.Test.YtigodbilfjppbaaGreatDoorLan2
namespace Go.Proofs.YtigodbilfjppbaaGreatDoor.Wds
open Go.RowKit Go.Proofs.YtigodbilfjppbaaGreatDoor.Err
set_option linter.unusedVariables false

theorem iopIs_any (op : Int) (w : World) : Calls Tryz.prog 33 #[.int .i64 op] w (RetB (Ln.isOp op) w) := by
  by_cases h : 0 ≤ op ∧ op ≤ 17
  · have e : Ln.isOp op = true := decide_eq_true h
    rw [e]; exact (isOp_yes op w h.1 h.2).mono fun e w' ⟨he, hw⟩ => ⟨he, hw ▸ Below.refl _ _⟩
  · have e : Ln.isOp op = false := decide_eq_false h
    rw [e]; exact isOp_no op w h
theorem isOp_bd {op : Int} (h : Ln.isOp op = true) : 0 ≤ op ∧ op ≤ 17 := of_decide_eq_true h
theorem both_words {b : Int} {xs ys : List Int} (h : Ln.both b xs ys = true) : (∀ k, k < xs.length → Wd.IsWord b (xs.getD k 0)) ∧ (∀ k, k < xs.length → Wd.IsWord b (ys.getD k 0)) := by
  obtain ⟨hl, h1, h2⟩ := Ln.both_len h
  exact ⟨fun k hk => Ln.vec_word h1 hk, fun k hk => Ln.vec_word h2 (by omega)⟩
theorem bits_split {b : Int} (h : Wd.IsBits b) : (b = 4 ∨ b = 8) ∨ (16 ≤ b ∧ b ≤ 16) := by unfold Wd.IsBits at h; omega
theorem iLaneWise_any (op b : Int) (A1 : Option Addr) (n1 c1 : Nat) (xs : List Int) (B1 : Nat) (A2 : Option Addr) (n2 c2 : Nat) (ys : List Int) (B2 : Nat) (w : World)
    (hn1 : n1 ≤ 1048576) (hn2 : n2 ≤ 1048576) (h1 : Rd w B1 A1 n1 xs) (h2 : Rd w B2 A2 n2 ys) (hg : ErrT w) :
    Calls Tryz.prog 11 #[.int .i64 op, .int .i64 b, .slice A1 n1 c1, .slice A2 n2 c2] w (Ret1 (Ln.laneWise op b xs ys).1 (Ln.laneWise op b xs ys).2 w) := by
  have k0 := iopIs_any op w
  have k1 : ∀ w1, Below w.heap.size w w1 → Calls Tryz.prog 34 #[.int .i64 b, .slice A1 n1 c1, .slice A2 n2 c2] w1 (RetB (Ln.both b xs ys) w1) := fun w1 hb => areVec_any b A1 A2 n1 n2 c1 c2 xs ys B1 B2 w1 hn1 hn2 (h1.below hb) (h2.below hb)
  unfold Ln.laneWise
  by_cases hop : Ln.isOp op = true
  · by_cases hbo : Ln.both b xs ys = true
    · rw [hop, hbo]
      rw [hop] at k0
      simp only [hbo] at k1
      obtain ⟨f1, f2, f3⟩ := Ln.both_len hbo
      obtain ⟨p1, p2⟩ := both_words hbo
      have g1 := h1.len
      have g2 := h2.len
      obtain rfl : n2 = n1 := by omega
      rw [g1] at p1 p2
      have h00 := isOp_bd hop
      have C0 := Lib.hid k0
      have C1 := Lib.hid k1
      show Calls _ _ _ _ (Ret1 (Ln.wise op b xs ys) true w)
      rcases bits_split (Ln.vec_bits f2) with hbb | hbb
      · skip
        have k2 := fun W => resultOf8_any op b W hbb
        have k3 : ∀ w1, Below w.heap.size w w1 → Calls Tryz.prog 35 #[.func (Fn.func 54) #[.agg #[.int .i64 op, .int .i64 b]] #[], .slice A1 n2 c1, .slice A2 n2 c2] w1 (RetL (Ln.wise op b xs ys) w1) := by
          intro w1 hbw
          unfold Ln.wise
          rw [g1]
          exact inPairs8_any op b A1 A2 n2 c1 c2 xs ys B1 B2 w1 h00.1 h00.2 hbb hn1 (h1.below hbw) (h2.below hbw) p1 p2 (hg.below hbw hg.lt)
        obtain ⟨zz, hzz⟩ : ∃ zz, zz = Ln.wise op b xs ys := ⟨_, rfl⟩
        rw [← hzz] at k3 ⊢
        have C2 := Lib.hid k2
        have C3 := Lib.hid k3
        clear k0 k1 k2 k3 h1 h2 hbo f1 f2 f3 g1 g2 p1 p2 hop h00 hg hbb hzz
        go_enter Tryz.func11, Tryz.ntmps11
        go_wp2_with fail
        refine C0.out.mono ?_
        rintro e w1 ⟨rfl, hb⟩
        have HB1 := Lib.hid hb; clear hb
        go_wp2_with fail
        refine (C1.out _ HB1.out).mono ?_
        rintro e w2 ⟨rfl, hb⟩
        have HB2 := Lib.hid (HB1.out.trans (hb.mono HB1.out.size)); clear hb
        go_wp2_with fail
        refine (C2.out _).mono ?_
        rintro e w3 ⟨rfl, hb⟩
        have HB3 := Lib.hid (HB2.out.trans (hb.mono HB2.out.size)); clear hb
        go_wp2_with fail
        refine (C3.out _ HB3.out).mono ?_
        rintro e w4 ⟨A4, n4, c4, rfl, ho, hn4, _, hb⟩
        have HR := Lib.hid (And.intro (ho.more HB3.out.size (Nat.le_refl _)) (And.intro hn4 (HB3.out.trans (hb.mono HB3.out.size)))); clear ho hb
        go_wp2_with fail
        go_ret2
        obtain ⟨ho, hn4, hb⟩ := HR.out
        exact ⟨A4, n4, c4, rfl, ho, hn4, hb⟩
      · skip
        have k2 := fun W => resultOf16_any op b W hbb
        have k3 : ∀ w1, Below w.heap.size w w1 → Calls Tryz.prog 35 #[.func (Fn.func 53) #[.agg #[.int .i64 op, .int .i64 b]] #[], .slice A1 n2 c1, .slice A2 n2 c2] w1 (RetL (Ln.wise op b xs ys) w1) := by
          intro w1 hbw
          unfold Ln.wise
          rw [g1]
          exact inPairs16_any op b A1 A2 n2 c1 c2 xs ys B1 B2 w1 h00.1 h00.2 hbb hn1 (h1.below hbw) (h2.below hbw) p1 p2 (hg.below hbw hg.lt)
        obtain ⟨zz, hzz⟩ : ∃ zz, zz = Ln.wise op b xs ys := ⟨_, rfl⟩
        rw [← hzz] at k3 ⊢
        have C2 := Lib.hid k2
        have C3 := Lib.hid k3
        clear k0 k1 k2 k3 h1 h2 hbo f1 f2 f3 g1 g2 p1 p2 hop h00 hg hbb hzz
        go_enter Tryz.func11, Tryz.ntmps11
        go_wp2_with fail
        refine C0.out.mono ?_
        rintro e w1 ⟨rfl, hb⟩
        have HB1 := Lib.hid hb; clear hb
        go_wp2_with fail
        refine (C1.out _ HB1.out).mono ?_
        rintro e w2 ⟨rfl, hb⟩
        have HB2 := Lib.hid (HB1.out.trans (hb.mono HB1.out.size)); clear hb
        go_wp2_with fail
        refine (C2.out _).mono ?_
        rintro e w3 ⟨rfl, hb⟩
        have HB3 := Lib.hid (HB2.out.trans (hb.mono HB2.out.size)); clear hb
        go_wp2_with fail
        refine (C3.out _ HB3.out).mono ?_
        rintro e w4 ⟨A4, n4, c4, rfl, ho, hn4, _, hb⟩
        have HR := Lib.hid (And.intro (ho.more HB3.out.size (Nat.le_refl _)) (And.intro hn4 (HB3.out.trans (hb.mono HB3.out.size)))); clear ho hb
        go_wp2_with fail
        go_ret2
        obtain ⟨ho, hn4, hb⟩ := HR.out
        exact ⟨A4, n4, c4, rfl, ho, hn4, hb⟩
    · have hbo' : Ln.both b xs ys = false := by simpa using hbo
      rw [hop, hbo']
      rw [hop] at k0
      simp only [hbo'] at k1
      have C0 := Lib.hid k0
      have C1 := Lib.hid k1
      clear k0 k1 h1 h2 hg hop hbo hbo'
      go_enter Tryz.func11, Tryz.ntmps11
      go_wp2_with fail
      refine C0.out.mono ?_
      rintro e w1 ⟨rfl, hb⟩
      have HB1 := Lib.hid hb; clear hb
      go_wp2_with fail
      refine (C1.out _ HB1.out).mono ?_
      rintro e w2 ⟨rfl, hb⟩
      have HB2 := Lib.hid (HB1.out.trans (hb.mono HB1.out.size)); clear hb
      go_wp2_with fail
      go_ret2
      exact Ret1.no HB2.out
  · have hop' : Ln.isOp op = false := by simpa using hop
    rw [hop']
    rw [hop'] at k0
    have C0 := Lib.hid k0
    clear k0 k1 h1 h2 hg hop hop'
    go_enter Tryz.func11, Tryz.ntmps11
    go_wp2_with fail
    refine C0.out.mono ?_
    rintro e w1 ⟨rfl, hb⟩
    have HB1 := Lib.hid hb; clear hb
    go_wp2_with fail
    go_ret2
    exact Ret1.no HB1.out
end Go.Proofs.YtigodbilfjppbaaGreatDoor.Wds
