/-
  The walks of the laws on OpText and ReadOp: for every input the law returns true and leaves what was there as it was.
-/
import Derived.Test.YthdiiefacgodnaaDoorSpecOp
import Derived.Outline
namespace Go.Proofs.YthdiiefacgodnaaDoor.Wds
open Go.RowKit
set_option linter.unusedVariables false

set_option maxRecDepth 100000 in
theorem law_opText (a0 : Int) (w : World) (ho : OpT w) : Calls Tryd.prog 8 #[.int .i64 a0] w fun e w' => e = .returned (.bool true) ∧ Below w.heap.size w w' := by
  by_cases h : 0 ≤ a0 ∧ a0 ≤ 17
  · have H := Lib.hid h; have HO := Lib.hid ho; clear h ho
    go_enter Tryd.func8, Tryd.ntmps8
    go_wp2_with fail
    refine (specOpText_in _ _ H.out.1 H.out.2).mono ?_
    rintro e w1 ⟨rfl, bel⟩
    have HO1 := Lib.hid (HO.out.below bel HO.out.lt)
    have HB := Lib.hid bel; clear bel
    obtain ⟨t, ht⟩ : ∃ t, t = Wd.tx a0.toNat := ⟨_, rfl⟩
    have C := Lib.hid (opText_in a0 w1 H.out.1 H.out.2 HO1.out)
    rw [← ht] at C ⊢
    clear ht
    have hb : (t.toList == t.toList) = true := beq_self_eq_true _
    go_wp2_with fail
    refine C.out.mono ?_
    rintro e w' ⟨rfl, rfl⟩
    go_wp2
    go_ret
    exact ⟨rfl, HB.out⟩
  · have H := Lib.hid h; clear h ho
    go_enter Tryd.func8, Tryd.ntmps8
    go_wp2_with fail
    refine (specOpText_out _ _ H.out).mono ?_
    rintro e w' ⟨rfl, rfl⟩
    go_wp2_with fail
    refine (opText_out _ _ H.out).mono ?_
    rintro e w1 ⟨rfl, bel⟩
    have HB := Lib.hid bel; clear bel
    go_wp2
    go_ret
    exact ⟨rfl, HB.out⟩
set_option maxRecDepth 100000 in
theorem law_readOp (a0 : ByteArray) (w : World) (h0 : a0.size ≤ maxLen) (ho : OpT w) : Calls Tryd.prog 9 #[.string a0] w fun e w' => e = .returned (.bool true) ∧ Below w.heap.size w w' := by
  have HO := Lib.hid ho; clear ho
  by_cases hbig : 1048576 < a0.size
  · have hl : (1048576 : Int) < (a0.size : Int) := by omega
    go_enter Tryd.func9, Tryd.ntmps9
    go_wp2
    go_ret
    exact ⟨rfl, Below.refl _ _⟩
  · have hl : decide ((1048576 : Int) < (a0.size : Int)) = false := decide_eq_false (by omega)
    have H0 := Lib.hid h0; clear h0
    go_enter Tryd.func9, Tryd.ntmps9
    go_wp2_with fail
    refine (specReadOp_any _ _ H0.out).mono ?_
    rintro e w1 ⟨rfl, bel⟩
    have HO1 := Lib.hid (HO.out.below bel HO.out.lt)
    have HB := Lib.hid bel; clear bel
    have C := Lib.hid (readOp_any a0 w1 H0.out HO1.out)
    obtain ⟨b, hb⟩ : ∃ b, b = Wd.rdB a0.toList := ⟨_, rfl⟩
    obtain ⟨n, hn⟩ : ∃ n, n = Wd.rdN a0.toList := ⟨_, rfl⟩
    rw [← hb, ← hn] at C ⊢
    clear hb hn
    go_wp2_with fail
    refine C.out.mono ?_
    rintro e w' ⟨rfl, rfl⟩
    go_wp2
    go_ret
    exact ⟨rfl, HB.out⟩
end Go.Proofs.YthdiiefacgodnaaDoor.Wds
