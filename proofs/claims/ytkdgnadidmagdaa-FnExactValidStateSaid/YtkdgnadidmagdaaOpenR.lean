/-
  An argument that is a slice of slices of numbers reads as rows.
-/
import Derived.Test.YtkdgnadidmagdaaLstRW
import Derived.Deep.Matrix
import Derived.ChangeSame
namespace Go.Proofs.Ytkdgnadidmagdaa.Wds
open Go.ChangeShapes Go.WideShapes Go.Deep Go.RowKit
set_option linter.unusedVariables false
/-- What a walk is told of a slice of slices of numbers that came in. -/
def IsRows (w : World) (A : Option Addr) (n c : Nat) (zss : List (List Int)) : Prop := RdR w w.heap.size A n zss ∧ n ≤ 9223372036854775807 ∧ ∀ k, k < n → (zss.getD k []).length ≤ 9223372036854775807
theorem RdR.rd {w : World} {B n : Nat} {A : Option Addr} {zss : List (List Int)} (h : RdR w B A n zss) : RdR w B A n zss := h
theorem add_noneO (b o j : Nat) : (⟨b, o, none⟩ : Addr).add j = ⟨b, o + j, none⟩ := by
  unfold Addr.add
  by_cases h : j = 0
  · subst h; simp
  · simp [h]
theorem open_rows {H : Type} {enc : TypeId × Value → H} {w : World} {base : Nat} {held : Bool} {fuel : Nat} {cs : List Value} {x : DataW H × List MemPlace}
    (h : DataW.trod enc Try.prog w base (fun _ => true) held fuel 28 cs = some x) : ∃ A n c zss, cs = [.slice A n c] ∧ IsRows w A n c zss := by
  rcases open_int_rows Try.underlying28 Try.underlying29 Try.underlying2 (by kernel_rfl) (by kernel_rfl) h with ⟨hcs, _⟩ | ⟨a, len, cap, A, L, C, Z, hcs, hb, hl, hm, hx, hi⟩
  · exact ⟨none, 0, 0, [], hcs, RdR.nil _ _ _, Nat.zero_le _, fun k hk => absurd hk (Nat.not_lt_zero _)⟩
  · have key : ∀ r, r < len → Rd w w.heap.size (A r) (L r) ((Z r).take (L r)) := by
      intro r hr
      obtain ⟨_, h2, h3, h4, _, h6, h7⟩ := hi r (by omega)
      refine ⟨by simp; omega, fun hn => ?_⟩
      cases hA : A r with
      | none => have := h6 hA; omega
      | some y =>
        obtain ⟨_, hc⟩ := h7 y hA
        obtain ⟨ab, off, spot⟩ := y
        have h0 := hc 0 (by omega)
        have hspot : spot = none := by simpa [Addr.add] using World.cell?_spot h0
        subst hspot
        refine ⟨ab, off, rfl, by have := World.block_lt_of_cell? w _ h0; rw [add_noneO] at this; exact this, fun j z hz => ?_⟩
        rw [List.getElem?_take] at hz
        split at hz
        · have hc' := hc j (by omega)
          have he : (Z r).getD j 0 = z := by rw [List.getD_eq_getElem?_getD, hz]; rfl
          rw [he, add_noneO] at hc'
          exact hc'
        · cases hz
    refine ⟨some a, len, cap, Ln.tabR (fun r => (Z r).take (L r)) len, hcs, ⟨Ln.tabR_len _ _, fun hn => ?_⟩, by unfold maxLen at hm; omega, fun k hk => ?_⟩
    · obtain ⟨h0, _⟩ := hi 0 (by omega)
      obtain ⟨ab, off, spot⟩ := a
      have hspot : spot = none := by simpa [Addr.add] using World.cell?_spot h0
      subst hspot
      refine ⟨ab, off, rfl, by have := World.block_lt_of_cell? w _ h0; rw [add_noneO] at this; exact this, fun j hj => ?_⟩
      obtain ⟨h1, h2, _⟩ := hi j (by omega)
      rw [add_noneO] at h1
      exact ⟨A j, L j, C j, h1, h2, by rw [Ln.tabR_getD _ _ _ hj]; exact key j hj⟩
    · obtain ⟨_, h2, h3, h4, _⟩ := hi k (by omega)
      rw [Ln.tabR_getD _ _ _ hk]
      unfold maxLen at h3
      simp
      omega
end Go.Proofs.Ytkdgnadidmagdaa.Wds
