/-
  What the model's draws return (a number in its range) and do to memory (the source goes on, nothing else changes), over the translated program.
-/
import Derived.Test.YtfmplneopmbfoaaDoorDrawBase
import Derived.WalkLawsBesides
import Derived.Deep.QuietTactic
import Derived.BigQuiet
import Derived.RegionTactic
import Derived.Deep.RegionHeld3
import Derived.Outline
import Derived.OpenShut
import Derived.ProofKit
import Derived.Laws.BitsLemmas
import Derived.Laws.ShiftsVar
namespace Go.Proofs.YtfmplneopmbfoaaDoor.Wds
open Go.RowKit
set_option linter.unusedVariables false

theorem after_next {w : World} {sb : Nat} {x y z : Value} {t : TypeId} (h : w.heap[sb]? = some (.cells #[x, y, z] t (0, 0))) (n m : Nat) (y' z' : Value) :
    ((((w.drewN n).setCell ⟨sb, 1, none⟩ y').setCell ⟨sb, 2, none⟩ z').drewN m).heap[sb]? = some (.cells #[x, y', z'] t (0, 0)) ∧ w.grownBy ((((w.drewN n).setCell ⟨sb, 1, none⟩ y').setCell ⟨sb, 2, none⟩ z').drewN m) (some sb) := by
  have h0 : (w.drewN n).heap[sb]? = some (.cells #[x, y, z] t (0, 0)) := h
  exact ⟨block_set (block_set h0 1 y') 2 z', grown_trans (grown_drewN w n _) (grown_trans (grown_setCell _ sb 1 y') (grown_trans (grown_setCell _ sb 2 z') (grown_drewN _ m _)))⟩
theorem and255_u64 (n : Int) : 0 ≤ bits .and .u64 n 255 ∧ bits .and .u64 n 255 ≤ 255 := by
  have h : bits .and .u64 n 255 = IntKind.u64.wrap (((BitVec.ofInt 64 n &&& BitVec.ofInt 64 255).toNat : Nat) : Int) := rfl
  have h2 : (BitVec.ofInt 64 n &&& BitVec.ofInt 64 255).toNat ≤ 255 := by
    rw [BitVec.toNat_and]
    exact Nat.le_trans Nat.and_le_right (by decide)
  rw [h]
  have : IntKind.u64.wrap (((BitVec.ofInt 64 n &&& BitVec.ofInt 64 255).toNat : Nat) : Int) = (((BitVec.ofInt 64 n &&& BitVec.ofInt 64 255).toNat : Nat) : Int) % 18446744073709551616 := by simp [IntKind.wrap, IntKind.bits, IntKind.signed]
  rw [this]; omega
theorem w255 (n : Int) : 0 ≤ wrap64 (bits .and .u64 n 255) ∧ wrap64 (bits .and .u64 n 255) ≤ 255 := by
  have h := and255_u64 n
  unfold wrap64
  omega
theorem next_in (w : World) (sb ab off len cap pos : Nat) (seed : Int) (z : Int) (hN : pos < 1000000000) (hb : w.heap[sb]? = some (.cells #[.slice (some ⟨ab, off, none⟩) len cap, .int .i64 pos, .int .u64 seed] 77 (0, 0)))
    (hp : pos < len) (hl : len ≤ maxLen) (hz : w.cell? ⟨ab, off + pos, none⟩ = some (.int .u8 z)) (hz0 : 0 ≤ z) (hz1 : z ≤ 255) (hab : ab ≠ sb) :
    Calls Tryd.prog 51 #[.pointer (some ⟨sb, 0, none⟩)] w fun e w' => e = .returned (.int .i64 z) ∧ ∃ seed' : Int, w'.heap[sb]? = some (.cells #[.slice (some ⟨ab, off, none⟩) len cap, .int .i64 ((pos + 1 : Nat) : Int), .int .u64 seed'] 77 (0, 0)) ∧ w.grownBy w' (some sb) := by
  unfold maxLen at hl
  obtain ⟨b0, b1, b2, f1, f2, hlt⟩ := three_cells hb
  have hpl : (pos : Int) < (len : Int) := by omega
  have hpl2 : (pos : Int) + 1 ≤ (len : Int) := by omega
  have HB := Lib.hid hb; clear hb
  go_enter Tryd.func51, Tryd.ntmps51
  go_wp2
  go_quiet (fail)
  go_wp2
  go_quiet (fail)
  go_wp2
  go_quiet (fail)
  go_wp2
  go_ret
  exact ⟨rfl, _, after_next HB.out _ _ _ _⟩
theorem next_out (w : World) (sb : Nat) (a : Option Addr) (len cap pos : Nat) (seed : Int) (hN : pos < 1000000000) (hb : w.heap[sb]? = some (.cells #[.slice a len cap, .int .i64 pos, .int .u64 seed] 77 (0, 0)))
    (hp : len ≤ pos) :
    Calls Tryd.prog 51 #[.pointer (some ⟨sb, 0, none⟩)] w fun e w' => ∃ z : Int, e = .returned (.int .i64 z) ∧ 0 ≤ z ∧ z ≤ 255 ∧ ∃ seed' : Int, w'.heap[sb]? = some (.cells #[.slice a len cap, .int .i64 ((pos + 1 : Nat) : Int), .int .u64 seed'] 77 (0, 0)) ∧ w.grownBy w' (some sb) := by
  obtain ⟨b0, b1, b2, f1, f2, hlt⟩ := three_cells hb
  have hpl : ¬ (pos : Int) < (len : Int) := by omega
  have hpl2 : ¬ (pos : Int) + 1 ≤ (len : Int) := by omega
  have HB := Lib.hid hb; clear hb
  go_enter Tryd.func51, Tryd.ntmps51
  go_wp2
  go_quiet (fail)
  go_wp2
  go_quiet (fail)
  go_wp2
  go_ret
  exact ⟨_, rfl, (w255 _).1, (w255 _).2, _, after_next HB.out _ _ _ _⟩
theorem next_any (w : World) (sb N : Nat) (a : Option Addr) (len cap : Nat) (zs : List Int) (h : Src w sb N a len cap zs) (hN : N < 1000000000) :
    Calls Tryd.prog 51 #[.pointer (some ⟨sb, 0, none⟩)] w fun e w' => ∃ z : Int, e = .returned (.int .i64 z) ∧ 0 ≤ z ∧ z ≤ 255 ∧ After w sb (N + 1) a len cap zs w' := by
  obtain ⟨pos, seed, h1, h2, h3, h4⟩ := h
  by_cases hp : pos < len
  · rcases h3 with ⟨_, hl, _⟩ | ⟨x, rfl, g2, g3, g4, g5, g6⟩
    · omega
    · obtain ⟨ab, off, spot⟩ := x
      have hc := g5 pos (by omega)
      have hspot : spot = none := by simpa [Addr.add] using World.cell?_spot (g5 0 (by omega))
      subst hspot
      have hc' : w.cell? ⟨ab, off + pos, none⟩ = some (.int .u8 (zs.getD pos 0)) := by
        by_cases h0 : pos = 0
        · subst h0; simpa [Addr.add] using hc
        · simpa [Addr.add, h0] using hc
      have hm : zs.getD pos 0 ∈ zs := getD_mem _ _ (by omega)
      have hb := bounds_u8 (g6 _ hm)
      have hlt := h4 _ rfl (by omega)
      refine (next_in w sb ab off len cap pos seed (zs.getD pos 0) (by omega) h2 hp (by omega) hc' hb.1 hb.2 (by simp at hlt; omega)).mono ?_
      rintro e w' ⟨rfl, seed', k1, k2⟩
      exact ⟨_, rfl, hb.1, hb.2, ⟨pos + 1, seed', by omega, k1, IsSrc.grown (.inr ⟨_, rfl, g2, g3, g4, g5, g6⟩) k2 (fun x hx => h4 x hx (by omega)), h4⟩, k2⟩
  · refine (next_out w sb a len cap pos seed (by omega) h2 (by omega)).mono ?_
    rintro e w' ⟨z, rfl, z0, z1, seed', k1, k2⟩
    refine ⟨z, rfl, z0, z1, ⟨pos + 1, seed', by omega, k1, ?_, h4⟩, k2⟩
    rcases h3 with ⟨g1, g2, g3, g4⟩ | ⟨x, g1, g2, g3, g4, g5, g6⟩
    · exact .inl ⟨g1, g2, g3, g4⟩
    · exact .inr ⟨x, g1, g2, g3, g4, fun i hi => k2.cell (g5 i hi) (by have := h4 x g1 (by omega); rw [add_block]; simp; omega), g6⟩
/-- A number from 0 on, less than n where n is 1 or more. -/
def Picked (n : Int) (w : World) (sb M : Nat) (a : Option Addr) (len cap : Nat) (zs : List Int) (e : Ending) (w' : World) : Prop :=
  ∃ z : Int, e = .returned (.int .i64 z) ∧ 0 ≤ z ∧ (1 ≤ n → z < n) ∧ After w sb M a len cap zs w'
theorem pick_any (n : Int) (w : World) (sb N : Nat) (a : Option Addr) (len cap : Nat) (zs : List Int) (h : Src w sb N a len cap zs) (hN : N < 900000000) :
    Calls Tryd.prog 25 #[.pointer (some ⟨sb, 0, none⟩), .int .i64 n] w (Picked n w sb (N + 2) a len cap zs) := by
  have HH := Lib.hid h; clear h
  by_cases h1 : n ≤ 1
  · go_enter Tryd.func25, Tryd.ntmps25
    go_wp2
    go_ret
    exact ⟨0, rfl, by omega, fun _ => by omega, HH.out.more (by omega), World.grownBy.refl _ _⟩
  · by_cases h2 : n ≤ 200
    · go_enter Tryd.func25, Tryd.ntmps25
      go_wp2_with fail
      refine (next_any _ sb N a len cap zs HH.out (by omega)).mono ?_
      rintro e w' ⟨z, rfl, z0, z1, hA⟩
      have HA := Lib.hid hA; clear hA
      go_wp2_with fail
      go_ret
      exact ⟨_, rfl, Int.emod_nonneg _ (by omega), fun _ => Int.emod_lt_of_pos _ (by omega), HA.out.1.more (by omega), HA.out.2⟩
    · go_enter Tryd.func25, Tryd.ntmps25
      go_wp2_with fail
      refine (next_any _ sb N a len cap zs HH.out (by omega)).mono ?_
      rintro e w' ⟨z, rfl, z0, z1, hA⟩
      have HA := Lib.hid hA; clear hA
      go_wp2_with fail
      refine (next_any _ sb (N + 1) a len cap zs HA.out.1 (by omega)).mono ?_
      rintro e w'' ⟨z', rfl, z0', z1', hA'⟩
      have HA' := Lib.hid hA'; clear hA'
      go_wp2_with fail
      go_ret
      exact ⟨_, rfl, Int.emod_nonneg _ (by omega), fun _ => Int.emod_lt_of_pos _ (by omega), HA'.out.1.more (by omega), grown_trans HA.out.2 HA'.out.2⟩
def Chosen (w : World) (sb M : Nat) (a : Option Addr) (len cap : Nat) (zs : List Int) (e : Ending) (w' : World) : Prop :=
  ∃ c : Bool, e = .returned (.bool c) ∧ After w sb M a len cap zs w'
/-- One of the numbers of a list. -/
def Among (ls : List Int) (w : World) (sb M : Nat) (a : Option Addr) (len cap : Nat) (zs : List Int) (e : Ending) (w' : World) : Prop :=
  ∃ z : Int, z ∈ ls ∧ e = .returned (.int .i64 z) ∧ After w sb M a len cap zs w'
end Go.Proofs.YtfmplneopmbfoaaDoor.Wds
