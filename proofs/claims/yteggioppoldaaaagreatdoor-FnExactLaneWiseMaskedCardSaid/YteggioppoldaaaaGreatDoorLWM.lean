/-
  Results in the lanes that are on: the code's and the model's function; one contract each.
-/
import Derived.Test.YteggioppoldaaaaGreatDoorLWise
import Derived.Test.YteggioppoldaaaaGreatDoorSel
import Derived.Test.YteggioppoldaaaaGreatDoorLan7
namespace Ln
def lwmC (op b : Int) (ms old xs ys : List Int) : Bool := isOp op && both b xs ys && (both b xs old && (msk ms && ms.length == xs.length))
def laneWiseMasked (op b : Int) (ms old xs ys : List Int) : List Int × Bool := ans (lwmC op b ms old xs ys) (sel ms (wise op b xs ys) old)
theorem wise_vec {op b : Int} {xs ys : List Int} (hop : isOp op = true) (h : both b xs ys = true) : vec b (wise op b xs ys) = true := by
  obtain ⟨hl, hx, hy⟩ := both_len h
  have h0 : 0 ≤ op ∧ op ≤ 17 := of_decide_eq_true hop
  exact vec_tab (vec_lanes hx) fun i hi => word_do h0.1 h0.2 (vec_word hx hi) (vec_word hy (by omega))
theorem select_wise {op b : Int} {ms old xs ys : List Int} (hop : isOp op = true) (h : both b xs ys = true) : select b ms (wise op b xs ys) old = laneWiseMasked op b ms old xs ys := by
  have hw := wise_vec hop h
  have hl : (wise op b xs ys).length = xs.length := tab_len _ _
  obtain ⟨_, hx, _⟩ := both_len h
  have e : both b (wise op b xs ys) old = both b xs old := by unfold both; rw [hw, hx, hl]
  unfold select laneWiseMasked lwmC
  rw [hl, e, hop, h]
  rfl
end Ln
namespace Go.Proofs.YteggioppoldaaaaGreatDoor.Wds
open Go.RowKit Go.Proofs.YteggioppoldaaaaGreatDoor.Err
set_option linter.unusedVariables false

theorem iLaneWiseMasked_any (op b : Int) (A : Option Addr) (n c : Nat) (ms : List Int) (B : Nat) (A0 : Option Addr) (n0 c0 : Nat) (old : List Int) (B0 : Nat) (A1 : Option Addr) (n1 c1 : Nat) (xs : List Int) (B1 : Nat) (A2 : Option Addr) (n2 c2 : Nat) (ys : List Int) (B2 : Nat) (w : World)
    (hn : n ≤ 1048576) (hn0 : n0 ≤ 1048576) (hn1 : n1 ≤ 1048576) (hn2 : n2 ≤ 1048576) (h : Rd w B A n ms) (h0 : Rd w B0 A0 n0 old) (h1 : Rd w B1 A1 n1 xs) (h2 : Rd w B2 A2 n2 ys) (hg : ErrT w) :
    Calls Tryz.prog 29 #[.int .i64 op, .int .i64 b, .slice A n c, .slice A0 n0 c0, .slice A1 n1 c1, .slice A2 n2 c2] w (Ret1 (Ln.laneWiseMasked op b ms old xs ys).1 (Ln.laneWiseMasked op b ms old xs ys).2 w) := by
  have k1 := iLaneWise_any op b A1 n1 c1 xs B1 A2 n2 c2 ys B2 w hn1 hn2 h1 h2 hg
  by_cases hc : (Ln.isOp op && Ln.both b xs ys) = true
  · have hc' := hc
    rw [Bool.and_eq_true] at hc'
    have es := Ln.select_wise (ms := ms) (old := old) hc'.1 hc'.2
    unfold Ln.laneWise at k1
    rw [hc] at k1
    have k2 : ∀ (w1 : World) (AR : Option Addr) (nR cR BR : Nat), nR ≤ 1048576 → Below w.heap.size w w1 → Rd w1 BR AR nR (Ln.wise op b xs ys) → Calls Tryz.prog 52 #[.int .i64 b, .slice A n c, .slice AR nR cR, .slice A0 n0 c0] w1 (Ret1 (Ln.laneWiseMasked op b ms old xs ys).1 (Ln.laneWiseMasked op b ms old xs ys).2 w1) := by
      intro w1 AR nR cR BR hnR hb hr
      have := iSelectLanes_any b A n c ms B AR nR cR (Ln.wise op b xs ys) BR A0 n0 c0 old B0 w1 hn hnR hn0 (h.below hb) hr (h0.below hb)
      rwa [es] at this
    generalize Ln.laneWiseMasked op b ms old xs ys = res at *
    obtain ⟨rz, ok⟩ := res
    have K1 := Lib.hid (show Calls _ _ _ _ (Ret1 (Ln.wise op b xs ys) true w) from k1)
    have K2 := Lib.hid k2
    clear k1 k2 h h0 h1 h2 hg hc hc' es
    go_enter Tryz.func29, Tryz.ntmps29
    go_wp2_with fail
    refine K1.out.mono ?_
    rintro e w1 ⟨AR, nR, cR, rfl, hoR, hnR, hb⟩
    have HR := Lib.hid hoR.rd
    have HB1 := Lib.hid hb; clear hoR hb
    go_wp2_with fail
    refine (K2.out _ _ _ _ _ hnR HB1.out HR.out).mono ?_
    rintro e w2 ⟨AS, nS, cS, rfl, ho, hnS, hb⟩
    have HF := Lib.hid (And.intro (ho.more HB1.out.size (Nat.le_refl _)) (HB1.out.trans (hb.mono HB1.out.size))); clear ho hb
    go_wp2_with fail
    go_ret2
    obtain ⟨ho, hb⟩ := HF.out
    exact ⟨AS, nS, cS, rfl, ho, hnS, hb⟩
  · have hc' : (Ln.isOp op && Ln.both b xs ys) = false := by simpa using hc
    have e : Ln.laneWiseMasked op b ms old xs ys = Ln.no := by unfold Ln.laneWiseMasked Ln.lwmC; rw [hc']; rfl
    rw [e]
    unfold Ln.laneWise at k1
    rw [hc'] at k1
    have K1 := Lib.hid (show Calls _ _ _ _ (Ret1 [] false w) from k1)
    clear k1 h h0 h1 h2 hg hc hc' e
    go_enter Tryz.func29, Tryz.ntmps29
    go_wp2_with fail
    refine K1.out.mono ?_
    rintro e w1 ⟨AR, nR, cR, rfl, hoR, hnR, hb⟩
    have HB1 := Lib.hid hb; clear hoR hb
    go_wp2_with fail
    go_ret2
    exact Ret1.no HB1.out
theorem sLaneWiseMasked_any (op b : Int) (A : Option Addr) (n c : Nat) (ms : List Int) (B : Nat) (A0 : Option Addr) (n0 c0 : Nat) (old : List Int) (B0 : Nat) (A1 : Option Addr) (n1 c1 : Nat) (xs : List Int) (B1 : Nat) (A2 : Option Addr) (n2 c2 : Nat) (ys : List Int) (B2 : Nat) (w : World)
    (hn : n ≤ 1048576) (hn0 : n0 ≤ 1048576) (hn1 : n1 ≤ 1048576) (hn2 : n2 ≤ 1048576) (h : Rd w B A n ms) (h0 : Rd w B0 A0 n0 old) (h1 : Rd w B1 A1 n1 xs) (h2 : Rd w B2 A2 n2 ys) :
    Calls Tryz.prog 28 #[.int .i64 op, .int .i64 b, .slice A n c, .slice A0 n0 c0, .slice A1 n1 c1, .slice A2 n2 c2] w (Ret1 (Ln.laneWiseMasked op b ms old xs ys).1 (Ln.laneWiseMasked op b ms old xs ys).2 w) := by
  have k0 := sopIs_any op w
  have k1 := sBoth_any b A1 A2 n1 n2 c1 c2 xs ys B1 B2 w hn1 hn2 h1 h2
  have k2 : ∀ w1, Below w.heap.size w w1 → Calls Tryz.prog 47 #[.int .i64 b, .slice A1 n1 c1, .slice A0 n0 c0] w1 (RetB (Ln.both b xs old) w1) := fun w1 hb => sBoth_any b A1 A0 n1 n0 c1 c0 xs old B1 B0 w1 hn1 hn0 (h1.below hb) (h0.below hb)
  have k3 : ∀ w1, Below w.heap.size w w1 → Calls Tryz.prog 50 #[.slice A n c, .int .i64 n1] w1 (RetB (Ln.msk ms && ms.length == n1) w1) := fun w1 hb => sMask_any A n c n1 ms B w1 hn hn1 (h.below hb)
  have k4 : Ln.isOp op = true → Ln.both b xs ys = true → ∀ w1, Below w.heap.size w w1 → Calls Tryz.prog 48 #[.int .i64 op, .int .i64 b, .slice A1 n1 c1, .slice A2 n2 c2] w1 (RetL (Ln.wise op b xs ys) w1) := by
    intro e0 e1 w1 hb
    obtain ⟨f1, _, _⟩ := Ln.both_len e1
    obtain ⟨p1, p2⟩ := both_words e1
    have g1 := h1.len
    have g2 := h2.len
    obtain rfl : n2 = n1 := by omega
    rw [g1] at p1 p2
    unfold Ln.wise
    rw [g1]
    exact sWise_any op b A1 A2 n2 c1 c2 xs ys B1 B2 w1 (isOp_bd e0).1 (isOp_bd e0).2 hn1 (h1.below hb) (h2.below hb) p1 p2
  have k5 : Ln.both b xs old = true → (Ln.msk ms && ms.length == n1) = true → ∀ (w1 : World) (AR : Option Addr) (nR cR BR : Nat), Below w.heap.size w w1 → Rd w1 BR AR nR (Ln.wise op b xs ys) → Calls Tryz.prog 51 #[.slice A n c, .slice AR nR cR, .slice A0 n0 c0] w1 (RetL (Ln.sel ms (Ln.wise op b xs ys) old) w1) := by
    intro e0 e1 w1 AR nR cR BR hb hr
    obtain ⟨f1, _, _⟩ := Ln.both_len e0
    simp only [Bool.and_eq_true, beq_iff_eq] at e1
    have g0 := h0.len
    have g1 := h1.len
    have g := h.len
    have gr := hr.len
    unfold Ln.wise at gr
    rw [Ln.tab_len] at gr
    obtain rfl : n1 = n := by omega
    obtain rfl : n0 = n1 := by omega
    obtain rfl : nR = n0 := by omega
    exact sSel_any A AR A0 nR c cR c0 ms (Ln.wise op b xs ys) old B BR B0 w1 hn (h.below hb) hr (h0.below hb)
  unfold Ln.laneWiseMasked Ln.lwmC
  rw [h1.len]
  generalize Ln.both b xs ys = p1 at *
  generalize Ln.both b xs old = p2 at *
  generalize (Ln.msk ms && ms.length == n1) = p3 at *
  generalize Ln.isOp op = p0 at *
  have C0 := Lib.hid k0
  have C1 := Lib.hid k1
  have C2 := Lib.hid k2
  have C3 := Lib.hid k3
  have C4 := Lib.hid k4
  have C5 := Lib.hid k5
  clear k0 k1 k2 k3 k4 k5 h h0 h1 h2
  cases p0
  · go_enter Tryz.func28, Tryz.ntmps28
    go_wp2_with fail
    refine C0.out.mono ?_
    rintro e w1 ⟨rfl, rfl⟩
    go_wp2_with fail
    go_ret2
    exact Ret1.no (Below.refl _ _)
  · cases p1
    · go_enter Tryz.func28, Tryz.ntmps28
      go_wp2_with fail
      refine C0.out.mono ?_
      rintro e w1 ⟨rfl, rfl⟩
      go_wp2_with fail
      refine C1.out.mono ?_
      rintro e w2 ⟨rfl, hb⟩
      have HB := Lib.hid hb; clear hb
      go_wp2_with fail
      go_ret2
      exact Ret1.no HB.out
    · cases p2
      · go_enter Tryz.func28, Tryz.ntmps28
        go_wp2_with fail
        refine C0.out.mono ?_
        rintro e w1 ⟨rfl, rfl⟩
        go_wp2_with fail
        refine C1.out.mono ?_
        rintro e w2 ⟨rfl, hb⟩
        have HB := Lib.hid hb; clear hb
        go_wp2_with fail
        refine (C2.out _ HB.out).mono ?_
        rintro e w3 ⟨rfl, hb⟩
        have HB2 := Lib.hid (HB.out.trans (hb.mono HB.out.size)); clear hb
        go_wp2_with fail
        go_ret2
        exact Ret1.no HB2.out
      · cases p3
        · go_enter Tryz.func28, Tryz.ntmps28
          go_wp2_with fail
          refine C0.out.mono ?_
          rintro e w1 ⟨rfl, rfl⟩
          go_wp2_with fail
          refine C1.out.mono ?_
          rintro e w2 ⟨rfl, hb⟩
          have HB := Lib.hid hb; clear hb
          go_wp2_with fail
          refine (C2.out _ HB.out).mono ?_
          rintro e w3 ⟨rfl, hb⟩
          have HB2 := Lib.hid (HB.out.trans (hb.mono HB.out.size)); clear hb
          go_wp2_with fail
          refine (C3.out _ HB2.out).mono ?_
          rintro e w4 ⟨rfl, hb⟩
          have HB3 := Lib.hid (HB2.out.trans (hb.mono HB2.out.size)); clear hb
          go_wp2_with fail
          go_ret2
          exact Ret1.no HB3.out
        · go_enter Tryz.func28, Tryz.ntmps28
          go_wp2_with fail
          refine C0.out.mono ?_
          rintro e w1 ⟨rfl, rfl⟩
          go_wp2_with fail
          refine C1.out.mono ?_
          rintro e w2 ⟨rfl, hb⟩
          have HB := Lib.hid hb; clear hb
          go_wp2_with fail
          refine (C2.out _ HB.out).mono ?_
          rintro e w3 ⟨rfl, hb⟩
          have HB2 := Lib.hid (HB.out.trans (hb.mono HB.out.size)); clear hb
          go_wp2_with fail
          refine (C3.out _ HB2.out).mono ?_
          rintro e w4 ⟨rfl, hb⟩
          have HB3 := Lib.hid (HB2.out.trans (hb.mono HB2.out.size)); clear hb
          go_wp2_with fail
          refine (C4.out (by simp) (by simp) _ HB3.out).mono ?_
          rintro e w5 ⟨A5, n5, c5, rfl, ho, hn5, _, hb⟩
          have HR5 := Lib.hid ho.rd
          have HB5 := Lib.hid (HB3.out.trans (hb.mono HB3.out.size)); clear ho hb
          go_wp2_with fail
          refine (C5.out (by simp) (by simp) _ _ _ _ _ HB5.out HR5.out).mono ?_
          rintro e w6 ⟨A6, n6, c6, rfl, ho, hn6, _, hb⟩
          have HR := Lib.hid (And.intro (ho.more HB5.out.size (Nat.le_refl _)) (And.intro hn6 (HB5.out.trans (hb.mono HB5.out.size)))); clear ho hb
          go_wp2_with fail
          go_ret2
          obtain ⟨ho, hn6, hb⟩ := HR.out
          exact ⟨A6, n6, c6, rfl, ho, hn6, hb⟩
end Go.Proofs.YteggioppoldaaaaGreatDoor.Wds
