/-
  Results in the lanes that are on: the code's and the model's function; one contract each.
-/
import Derived.Test.YtigodbilfjppbaaGreatDoorLWise
import Derived.Test.YtigodbilfjppbaaGreatDoorSel
import Derived.Test.YtigodbilfjppbaaGreatDoorLan7
namespace Ln
def lwmC (op b : Int) (ms old xs ys : List Int) : Bool := isOp op && both b xs ys && (both b xs old && (msk ms && ms.length == xs.length))
def laneWiseMasked (op b : Int) (ms old xs ys : List Int) : List Int × Bool := ans (lwmC op b ms old xs ys) (sel ms (wise op b xs ys) old)
theorem wise_vec {op b : Int} {xs ys : List Int} (hop : isOp op = true) (h : both b xs ys = true) : vec b (wise op b xs ys) = true := by
  obtain ⟨hl, hx, hy⟩ := both_len h
  have h0 : 0 ≤ op ∧ op ≤ 17 := of_decide_eq_true hop
  exact vec_tab (vec_lanes hx) fun i hi => word_do h0.1 h0.2 (vec_word hx hi) (vec_word hy (by omega))
theorem select_wise {op b : Int} {ms old xs ys : List Int} (hop : isOp op = true) (h : both b xs ys = true) : select b ms (wise op b xs ys) old = laneWiseMasked op b ms old xs ys := by
  have hw := wise_vec hop h
  have hl : (wise op b xs ys).length = xs.length := tab_len _ _
  obtain ⟨_, hx, _⟩ := both_len h
  have e : both b (wise op b xs ys) old = both b xs old := by unfold both; rw [hw, hx, hl]
  unfold select laneWiseMasked lwmC
  rw [hl, e, hop, h]
  rfl
end Ln
namespace Go.Proofs.YtigodbilfjppbaaGreatDoor.Wds
open Go.RowKit Go.Proofs.YtigodbilfjppbaaGreatDoor.Err
set_option linter.unusedVariables false

theorem iLaneWiseMasked_any (op b : Int) (A : Option Addr) (n c : Nat) (ms : List Int) (B : Nat) (A0 : Option Addr) (n0 c0 : Nat) (old : List Int) (B0 : Nat) (A1 : Option Addr) (n1 c1 : Nat) (xs : List Int) (B1 : Nat) (A2 : Option Addr) (n2 c2 : Nat) (ys : List Int) (B2 : Nat) (w : World)
    (hn : n ≤ 1048576) (hn0 : n0 ≤ 1048576) (hn1 : n1 ≤ 1048576) (hn2 : n2 ≤ 1048576) (h : Rd w B A n ms) (h0 : Rd w B0 A0 n0 old) (h1 : Rd w B1 A1 n1 xs) (h2 : Rd w B2 A2 n2 ys) (hg : ErrT w) :
    Calls Tryz.prog 12 #[.int .i64 op, .int .i64 b, .slice A n c, .slice A0 n0 c0, .slice A1 n1 c1, .slice A2 n2 c2] w (Ret1 (Ln.laneWiseMasked op b ms old xs ys).1 (Ln.laneWiseMasked op b ms old xs ys).2 w) := by
  have k1 := iLaneWise_any op b A1 n1 c1 xs B1 A2 n2 c2 ys B2 w hn1 hn2 h1 h2 hg
  by_cases hc : (Ln.isOp op && Ln.both b xs ys) = true
  · have hc' := hc
    rw [Bool.and_eq_true] at hc'
    have es := Ln.select_wise (ms := ms) (old := old) hc'.1 hc'.2
    unfold Ln.laneWise at k1
    rw [hc] at k1
    have k2 : ∀ (w1 : World) (AR : Option Addr) (nR cR BR : Nat), nR ≤ 1048576 → Below w.heap.size w w1 → Rd w1 BR AR nR (Ln.wise op b xs ys) → Calls Tryz.prog 14 #[.int .i64 b, .slice A n c, .slice AR nR cR, .slice A0 n0 c0] w1 (Ret1 (Ln.laneWiseMasked op b ms old xs ys).1 (Ln.laneWiseMasked op b ms old xs ys).2 w1) := by
      intro w1 AR nR cR BR hnR hb hr
      have := iSelectLanes_any b A n c ms B AR nR cR (Ln.wise op b xs ys) BR A0 n0 c0 old B0 w1 hn hnR hn0 (h.below hb) hr (h0.below hb)
      rwa [es] at this
    generalize Ln.laneWiseMasked op b ms old xs ys = res at *
    obtain ⟨rz, ok⟩ := res
    have K1 := Lib.hid (show Calls _ _ _ _ (Ret1 (Ln.wise op b xs ys) true w) from k1)
    have K2 := Lib.hid k2
    clear k1 k2 h h0 h1 h2 hg hc hc' es
    go_enter Tryz.func12, Tryz.ntmps12
    go_wp2_with fail
    refine K1.out.mono ?_
    rintro e w1 ⟨AR, nR, cR, rfl, hoR, hnR, hb⟩
    have HR := Lib.hid hoR.rd
    have HB1 := Lib.hid hb; clear hoR hb
    go_wp2_with fail
    refine (K2.out _ _ _ _ _ hnR HB1.out HR.out).mono ?_
    rintro e w2 ⟨AS, nS, cS, rfl, ho, hnS, hb⟩
    have HF := Lib.hid (And.intro (ho.more HB1.out.size (Nat.le_refl _)) (HB1.out.trans (hb.mono HB1.out.size))); clear ho hb
    go_wp2_with fail
    go_ret2
    obtain ⟨ho, hb⟩ := HF.out
    exact ⟨AS, nS, cS, rfl, ho, hnS, hb⟩
  · have hc' : (Ln.isOp op && Ln.both b xs ys) = false := by simpa using hc
    have e : Ln.laneWiseMasked op b ms old xs ys = Ln.no := by unfold Ln.laneWiseMasked Ln.lwmC; rw [hc']; rfl
    rw [e]
    unfold Ln.laneWise at k1
    rw [hc'] at k1
    have K1 := Lib.hid (show Calls _ _ _ _ (Ret1 [] false w) from k1)
    clear k1 h h0 h1 h2 hg hc hc' e
    go_enter Tryz.func12, Tryz.ntmps12
    go_wp2_with fail
    refine K1.out.mono ?_
    rintro e w1 ⟨AR, nR, cR, rfl, hoR, hnR, hb⟩
    have HB1 := Lib.hid hb; clear hoR hb
    go_wp2_with fail
    go_ret2
    exact Ret1.no HB1.out
end Go.Proofs.YtigodbilfjppbaaGreatDoor.Wds
