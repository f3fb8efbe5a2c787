/-
  What the law's choice of a number by a byte returns: a number in its range; nothing changes.
-/
import Derived.Test.YtigodbilfjppbaaGreatDoorDrawBase
import Derived.WalkLawsBesides
import Derived.ProofKit
import Derived.OpenShut
namespace Go.Proofs.YtigodbilfjppbaaGreatDoor.Wds
open Go.RowKit
set_option linter.unusedVariables false

theorem at_any (i n : Int) (a : Option Addr) (len cap : Nat) (zs : List Int) (w : World) (hi0 : 0 ≤ i) (hi1 : i ≤ 1000) (hn0 : 2 ≤ n) (hn1 : n ≤ 1000) (h : IsRow .u8 w a len cap zs) :
    Calls Tryz.prog 24 #[.slice a len cap, .int .i64 i, .int .i64 n] w fun e w' => ∃ z : Int, e = .returned (.int .i64 z) ∧ 0 ≤ z ∧ z < n ∧ w = w' := by
  have hl := h.len_le
  unfold maxLen at hl
  by_cases hlt : i < (len : Int)
  · rcases h with ⟨_, h2, _⟩ | ⟨x, rfl, g2, g3, g4, g5, g6⟩
    · omega
    · obtain ⟨k, rfl⟩ := Int.eq_ofNat_of_zero_le hi0
      obtain ⟨ab, off, spot⟩ := x
      have hspot : spot = none := by simpa [Addr.add] using World.cell?_spot (g5 0 (by omega))
      subst hspot
      have hc := g5 k (by omega)
      have hc' : w.cell? ⟨ab, off + k, none⟩ = some (.int .u8 (zs.getD k 0)) := by
        by_cases h0 : k = 0
        · subst h0; simpa [Addr.add] using hc
        · simpa [Addr.add, h0] using hc
      have hb := bounds_u8 (g6 _ (getD_mem zs k (by omega)))
      obtain ⟨v, hv⟩ : ∃ v, v = zs.getD k 0 := ⟨_, rfl⟩
      rw [← hv] at hc' hb
      obtain ⟨hb0, hb1⟩ := hb
      have G := Lib.hid (And.intro g4 (And.intro g5 (And.intro g6 hc))); clear g4 g5 g6 hc hv
      go_enter Tryz.func24, Tryz.ntmps24
      go_wp2
      go_ret
      exact ⟨_, rfl, Int.emod_nonneg _ (by omega), Int.emod_lt_of_pos _ (by omega), rfl⟩
  · have H := Lib.hid h; clear h
    go_enter Tryz.func24, Tryz.ntmps24
    go_wp2
    go_ret
    exact ⟨_, rfl, Int.emod_nonneg _ (by omega), Int.emod_lt_of_pos _ (by omega), rfl⟩
end Go.Proofs.YtigodbilfjppbaaGreatDoor.Wds
