/-
  Plain mathematics of widening and narrowing back; what the nearest signed word is.
-/
import Derived.Test.YtadolbamjojmpaaDoorNarI
import Derived.Test.YtadolbamjojmpaaDoorLan5
import Derived.Test.YtadolbamjojmpaaDoorLan6
namespace Go.Proofs.YtadolbamjojmpaaDoor.Wds
open Go.RowKit
set_option linter.unusedVariables false

theorem half_two (b : Int) : 2 * b / 2 = b := by omega
theorem wide_word {b x : Int} {s : Bool} (hb : b = 4 ∨ b = 8) (hx : Wd.IsWord b x) : Wd.IsWord (2 * b) (Ln.wide b s x) := by
  have p4 : Wd.pw 4 = 16 := rfl
  have p8 : Wd.pw 8 = 256 := rfl
  have p16 : Wd.pw 16 = 65536 := rfl
  have h2 : Wd.IsBits (2 * b) := by unfold Wd.IsBits; omega
  cases s
  · have e : Ln.wide b false x = x := rfl
    rw [e]
    rcases hb with rfl | rfl
    · have h := hx.2; rw [p4] at h; exact ⟨h2, by show 0 ≤ x ∧ x < Wd.pw 8; omega⟩
    · have h := hx.2; rw [p8] at h; exact ⟨h2, by show 0 ≤ x ∧ x < Wd.pw 16; omega⟩
  · exact ⟨h2, Wd.wr_word h2 _⟩
theorem nf_cut {b x : Int} {s : Bool} (hb : b = 4 ∨ b = 8) (hx : Wd.IsWord b x) : Ln.nf (2 * b) 0 (Ln.wide b s x) = x := by
  have p4 : Wd.pw 4 = 16 := rfl
  have p8 : Wd.pw 8 = 256 := rfl
  have p16 : Wd.pw 16 = 65536 := rfl
  have f4 : Wd.hf 4 = 8 := rfl
  have f8 : Wd.hf 8 = 128 := rfl
  have h := hx.2
  have e0 : Ln.nf (2 * b) 0 (Ln.wide b s x) = Wd.wr (2 * b / 2) (Ln.wide b s x) := rfl
  rw [e0, half_two]
  cases s
  · have e : Ln.wide b false x = x := rfl
    rw [e]; exact wr_id b x h
  · have e : Ln.wide b true x = Wd.wr (2 * b) (Wd.sg b x) := rfl
    rw [e]
    rcases hb with rfl | rfl
    · show Wd.sg 4 x % Wd.pw 8 % Wd.pw 4 = x
      unfold Wd.sg
      rw [p4] at h ⊢; rw [p8, f4]; omega
    · show Wd.sg 8 x % Wd.pw 16 % Wd.pw 8 = x
      unfold Wd.sg
      rw [p8] at h ⊢; rw [p16, f8]; omega
theorem nf_u {b x : Int} (hb : b = 4 ∨ b = 8) (hx : Wd.IsWord b x) : Ln.nf (2 * b) 1 (Ln.wide b false x) = x := by
  have e : Ln.nf (2 * b) 1 (Ln.wide b false x) = if x < Wd.pw (2 * b / 2) - 1 then x else Wd.pw (2 * b / 2) - 1 := rfl
  rw [e, half_two]
  have h := hx.2
  split <;> omega
theorem sg_wide {b x : Int} (hb : b = 4 ∨ b = 8) (hx : Wd.IsWord b x) : Wd.sg (2 * b) (Ln.wide b true x) = Wd.sg b x := by
  have h2 : Wd.IsBits (2 * b) := by unfold Wd.IsBits; omega
  have e : Ln.wide b true x = Wd.wr (2 * b) (Wd.sg b x) := rfl
  rw [e]
  have h := Wd.sg_range hx.1 hx.2
  have f4 : Wd.hf 4 = 8 := rfl
  have f8 : Wd.hf 8 = 128 := rfl
  have f16 : Wd.hf 16 = 32768 := rfl
  refine Wd.sg_wr h2 ?_ ?_ <;> (rcases hb with rfl | rfl)
  · show - Wd.hf 8 ≤ _; omega
  · show - Wd.hf 16 ≤ _; omega
  · show _ < Wd.hf 8; omega
  · show _ < Wd.hf 16; omega
theorem cl_in {b n : Int} (h1 : - Wd.hf b ≤ n) (h2 : n < Wd.hf b) : Wd.cl b n = n := by unfold Wd.cl; rw [if_neg (by omega), if_neg (by omega)]
theorem nf_s {b x : Int} (hb : b = 4 ∨ b = 8) (hx : Wd.IsWord b x) : Ln.nf (2 * b) 2 (Ln.wide b true x) = x := by
  have e : Ln.nf (2 * b) 2 (Ln.wide b true x) = Wd.wr (2 * b / 2) (Wd.cl (2 * b / 2) (Wd.sg (2 * b) (Ln.wide b true x))) := rfl
  have h := Wd.sg_range hx.1 hx.2
  rw [e, half_two, sg_wide hb hx, cl_in h.1 h.2.1]
  exact wr_sg b x hx.1 hx.2
/-- Narrowed with the nearest signed words: what such a word stands for. -/
theorem sg_near {b y : Int} (hb : b = 4 ∨ b = 8) : Wd.sg b (Ln.nf (2 * b) 2 y) = Wd.cl b (Wd.sg (2 * b) y) := by
  have e : Ln.nf (2 * b) 2 y = Wd.wr (2 * b / 2) (Wd.cl (2 * b / 2) (Wd.sg (2 * b) y)) := rfl
  have h1 : Wd.IsBits b := by unfold Wd.IsBits; omega
  rw [e, half_two]
  have hp : 0 < Wd.hf b := by rcases hb with rfl | rfl <;> decide
  refine Wd.sg_wr h1 ?_ ?_ <;> (unfold Wd.cl; split <;> (try split) <;> omega)
/-- Both halves of a widened vector, narrowed by a way back, are the vector. -/
theorem back_list {b mode : Int} {s : Bool} {xs : List Int} {m : Nat} (hl : xs.length = m + m) (hf : ∀ i, i < m + m → Ln.nf (2 * b) mode (Ln.wide b s (xs.getD i 0)) = xs.getD i 0) :
    Ln.tab (fun i => Ln.nf (2 * b) mode ((Ln.tab (fun i => Ln.wide b s (xs.getD i 0)) m ++ Ln.tab (fun i => Ln.wide b s (xs.getD (m + i) 0)) m).getD i 0)) (m + m) = xs := by
  have e : Ln.tab (fun i => Ln.wide b s (xs.getD i 0)) m ++ Ln.tab (fun i => Ln.wide b s (xs.getD (m + i) 0)) m = Ln.tab (fun i => Ln.wide b s (xs.getD i 0)) (m + m) := by
    rw [← List.take_append_drop m (Ln.tab (fun i => Ln.wide b s (xs.getD i 0)) (m + m)), Ln.tab_take _ _ _ (by omega), Ln.tab_drop, show m + m - m = m by omega]
  rw [e]
  have h := Ln.tab_self xs
  rw [hl] at h
  refine Eq.trans (Ln.tab_congr fun i hi => ?_) h
  rw [Ln.tab_getD _ _ _ hi]
  exact hf i hi
end Go.Proofs.YtadolbamjojmpaaDoor.Wds
