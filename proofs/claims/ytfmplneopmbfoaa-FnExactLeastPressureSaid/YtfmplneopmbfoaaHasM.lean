/-
  Whether a list has a number: the model's function.
-/
import Derived.Test.YtfmplneopmbfoaaVecW
namespace Go.Proofs.Ytfmplneopmbfoaa.Wds
open Go.RowKit
set_option linter.unusedVariables false

/-- Whether a list has a number. -/
theorem sHas_any (A : Option Addr) (n c : Nat) (zs : List Int) (B : Nat) (x : Int) (w : World) (hn : n ≤ 1048576) (h : Rd w B A n zs) :
    Calls Try.prog 92 #[.slice A n c, .int .i64 x] w (RetB (zs.contains x) w) := by
  have H := Lib.hid h; clear h
  obtain ⟨r, hr⟩ : ∃ r, r = zs.contains x := ⟨_, rfl⟩
  rw [← hr]
  have HR := Lib.hid hr; clear hr
  go_enter Try.func92, Try.ntmps92
  go_wp2
  go_loopw [5] (fun i wr => ∃ k : Nat, k ≤ n ∧ i = .int .i64 k ∧ Hid (∀ j, j < k → zs.getD j 0 ≠ x) ∧ Below w.heap.size w wr) (fun i _ => n - (intOf i).toNat)
  case atStart => exact ⟨0, Nat.zero_le _, rfl, Lib.hid (fun j hj => absurd hj (Nat.not_lt_zero _)), Below.refl _ _⟩
  case round =>
    obtain ⟨k, hk, rfl, HA, hb⟩ := hrel
    by_cases hlt : k < n
    · obtain ⟨g, o, rfl, hg, hc⟩ := (H.out.below hb).at_ hlt
      have HL := Lib.hid (show k < zs.length by rw [H.out.len]; exact hlt)
      obtain ⟨z, hz⟩ : ∃ z, z = zs.getD k 0 := ⟨_, rfl⟩
      rw [← hz] at hc
      have HZ := Lib.hid hz
      have HB := Lib.hid hb; clear hz hb
      have i1 : (0 : Int) ≤ (k : Int) := by omega
      have i2 : (k : Int) < (n : Int) := by omega
      by_cases e : z = x
      · obtain rfl : r = true := by
          rw [HR.out, List.contains_iff_mem, ← e, HZ.out, List.getD_eq_getElem?_getD, List.getElem?_eq_getElem HL.out]
          exact List.getElem_mem _
        subst e
        go_wp2
        go_ret
        exact ⟨rfl, HB.out⟩
      · have e1 : (z == x) = false := beq_eq_false_iff_ne.2 e
        have e2 : decide (z = x) = false := decide_eq_false e
        have HE := Lib.hid e; clear e
        go_wp2
        go_roundw
        case rel =>
          refine ⟨k + 1, by omega, by go_num, Lib.hid (fun j hj => ?_), HB.out⟩
          rcases Nat.lt_or_ge j k with h | h
          · exact HA.out j h
          · obtain rfl : j = k := by omega
            rw [← HZ.out]; exact HE.out
        case measure => simp [intOf]; omega
    · have hkn : k = n := by omega
      obtain rfl : r = false := by
        rw [HR.out]
        cases e : zs.contains x
        · rfl
        · exfalso
          rw [List.contains_iff_mem] at e
          obtain ⟨j, hj, he⟩ := List.getElem_of_mem e
          refine HA.out j (by rw [H.out.len] at hj; omega) ?_
          rw [List.getD_eq_getElem?_getD, List.getElem?_eq_getElem hj]; exact he
      have HB := Lib.hid hb; clear hb
      subst hkn
      go_wp2
      go_ret
      exact ⟨rfl, HB.out⟩
end Go.Proofs.Ytfmplneopmbfoaa.Wds
