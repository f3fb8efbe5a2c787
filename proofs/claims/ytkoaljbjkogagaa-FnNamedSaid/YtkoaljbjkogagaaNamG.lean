/-
  ShuffleLanes where it answers: the row that it makes is as long as its capacity allows (its slices can be cut).
-/
import Derived.Test.YtkoaljbjkogagaaShuf2
namespace Go.Proofs.Ytkoaljbjkogagaa.Wds
open Go.RowKit
set_option linter.unusedVariables false
set_option maxHeartbeats 400000 in
theorem iShuffle_yes (b : Int) (A1 : Option Addr) (n1 c1 : Nat) (s : List Int) (B1 : Nat) (A2 : Option Addr) (c2 : Nat) (a : List Int) (B2 : Nat) (w : World)
    (hn1 : n1 ≤ 1048576) (h1 : Rd w B1 A1 n1 s) (h2 : Rd w B2 A2 n1 a) (hs : Ln.shuf s = true) (hv : Ln.vec b a = true) :
    Calls Try.prog 8 #[.int .i64 b, .slice A1 n1 c1, .slice A2 n1 c2] w fun e w' =>
      ∃ A n c, e = .returned (.tuple #[.slice A n c, .bool true]) ∧ Own w' w.heap.size w'.heap.size A n (Ln.pickL a s) ∧ n ≤ c ∧ Below w.heap.size w w' := by
  have k1 := iIsShuffle_any A1 n1 c1 s B1 w hn1 h1
  have k2 := fun W (hb : Below w.heap.size w W) => isVec_any b A2 n1 c2 a B2 W hn1 (h2.below hb)
  have hsh := Ln.shuf_idxs hs
  rw [h1.len] at hsh
  have k3 := fun W (hb : Below w.heap.size w W) => elems_any A2 A1 n1 n1 c2 c1 a s B2 B1 W (by omega) hn1 (h2.below hb) (h1.below hb) hsh
  rw [hs] at k1
  simp only [hv] at k2
  have C1 := Lib.hid k1
  have C2 := Lib.hid k2
  have C3 := Lib.hid k3
  have e1 : ((n1 : Int) == (n1 : Int)) = true := by simp
  have e2 : ((n1 : Int) != (n1 : Int)) = false := by simp
  clear h1 h2 k1 k2 k3 hsh hs hv
  go_enter Try.func8, Try.ntmps8
  go_wp2_with fail
  refine C1.out.mono ?_
  rintro e w1 ⟨rfl, hb⟩
  have HB := Lib.hid hb; clear hb
  go_wp2_with fail
  refine (C2.out _ HB.out).mono ?_
  rintro e w2 ⟨rfl, hb⟩
  have HB2 := Lib.hid (HB.out.trans (hb.mono HB.out.size)); clear hb
  go_wp2_with fail
  refine (C3.out _ HB2.out).mono ?_
  rintro e w3 ⟨A3, n3, c3, rfl, ho, hn3, hc3, hb⟩
  have HF := Lib.hid (And.intro (ho.more HB2.out.size (Nat.le_refl _)) (HB2.out.trans (hb.mono HB2.out.size))); clear ho hb
  go_wp2_with fail
  go_ret2
  exact ⟨A3, n3, c3, rfl, HF.out.1, hc3, HF.out.2⟩
end Go.Proofs.Ytkoaljbjkogagaa.Wds
