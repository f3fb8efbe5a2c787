/-
  What the laws of chapters 2 and on draw: bits, lanes, a vector; and their own helpers: a length that is too great, a number below n, equality of lists.
-/
import Derived.Test.YtfmplneopmbfoaaDraw2
import Derived.Test.YtfmplneopmbfoaaSld
namespace Go.Proofs.Ytfmplneopmbfoaa.Wds
open Go.RowKit
set_option linter.unusedVariables false

theorem IsRow.len' {k : IntKind} {w : World} {a : Option Addr} {len cap : Nat} {zs : List Int} (h : IsRow k w a len cap zs) : len ≤ maxLen := by
  rcases h with ⟨_, rfl, _, _⟩ | ⟨x, _, h1, h2, _⟩
  · exact Nat.zero_le _
  · exact Nat.le_trans h1 h2
theorem r8bits_any (a : Option Addr) (len cap : Nat) (zs : List Int) (w : World) (h : IsRow .u8 w a len cap zs) : Calls Try.prog 12 #[.slice a len cap] w fun e w' => ∃ b : Int, e = .returned (.int .i64 b) ∧ Wd.IsBits b ∧ Below w.heap.size w w' := by
  have HS := Lib.hid (src_new w a len cap zs h); clear h
  go_enter Try.func12, Try.ntmps12
  go_wp2_with fail
  refine (from_any _ _ _ _).mono ?_
  rintro e w' ⟨rfl, rfl⟩
  go_wp2_with fail
  refine (among_any [4, 8, 16] (w.heap.size + 1) 3 3 _ w.heap.size 0 a len cap zs (HS.out.grown (World.grownBy_alloc _ _ none) (by simp) (by intro r hr; cases hr)) (by omega) rfl (by decide) (by decide) (fun i hi => by
      rcases (show i = 0 ∨ i = 1 ∨ i = 2 from by omega) with rfl | rfl | rfl <;> simp) (by omega)).mono ?_
  rintro e w'' ⟨z, hz, rfl, hA'⟩
  have HA' := Lib.hid hA'; clear hA'
  have z0 : Wd.IsBits z := by simp at hz; unfold Wd.IsBits; omega
  have HZ := Lib.hid z0; clear z0 hz
  go_wp2_with fail
  go_ret
  exact ⟨z, rfl, HZ.out, ((((Below.refl w.heap.size w).alloc (Nat.le_refl _) _).alloc (by simp) _)).trans (grown_below HA'.out.2 (by simp; omega) (Nat.le_refl _))⟩
theorem r8lanes_any (a : Option Addr) (len cap : Nat) (zs : List Int) (w : World) (h : IsRow .u8 w a len cap zs) : Calls Try.prog 13 #[.slice a len cap] w fun e w' => ∃ n : Nat, e = .returned (.int .i64 n) ∧ Ln.lanes n = true ∧ Below w.heap.size w w' := by
  have HS := Lib.hid (src_new w a len cap zs h); clear h
  go_enter Try.func13, Try.ntmps13
  go_wp2_with fail
  refine (from_any _ _ _ _).mono ?_
  rintro e w' ⟨rfl, rfl⟩
  go_wp2_with fail
  refine (among_any [2, 4, 8, 16] (w.heap.size + 1) 4 4 _ w.heap.size 0 a len cap zs (HS.out.grown (World.grownBy_alloc _ _ none) (by simp) (by intro r hr; cases hr)) (by omega) rfl (by decide) (by decide) (fun i hi => by
      rcases (show i = 0 ∨ i = 1 ∨ i = 2 ∨ i = 3 from by omega) with rfl | rfl | rfl | rfl <;> simp) (by omega)).mono ?_
  rintro e w'' ⟨z, hz, rfl, hA'⟩
  have HA' := Lib.hid hA'; clear hA'
  have z0 : 0 ≤ z ∧ Ln.lanes z = true := by simp at hz; rcases hz with rfl | rfl | rfl | rfl <;> decide
  obtain ⟨m, rfl⟩ := Int.eq_ofNat_of_zero_le z0.1
  have HZ := Lib.hid z0.2; clear z0 hz
  go_wp2_with fail
  go_ret
  exact ⟨m, rfl, HZ.out, ((((Below.refl w.heap.size w).alloc (Nat.le_refl _) _).alloc (by simp) _)).trans (grown_below HA'.out.2 (by simp; omega) (Nat.le_refl _))⟩
/-- A vector that was drawn: its row is new. -/
def DrawnV (b : Int) (n : Nat) (w : World) (e : Ending) (w' : World) : Prop :=
  ∃ (g c : Nat) (ws : List Int), e = .returned (.slice (some ⟨g, 0, none⟩) n c) ∧ Own w' w.heap.size w'.heap.size (some ⟨g, 0, none⟩) n ws ∧ n ≤ c ∧ Ln.vec b ws = true ∧ Below w.heap.size w w'
theorem r8vecS_any (b : Int) (n : Nat) (a : Option Addr) (len cap : Nat) (zs : List Int) (w : World) (hb : Wd.IsBits b) (hl : Ln.lanes n = true) (h : IsSrc w a len cap zs) :
    Calls Try.prog 14 #[.slice a len cap, .int .i64 b, .int .i64 n] w (DrawnV b n w) := by
  have HS := Lib.hid (src_newS w a len cap zs h); clear h
  have hc := Ln.lanes_cases hl
  have h0 : 0 < n := by omega
  have hn : n ≤ 16 := by omega
  have HL := Lib.hid hl
  clear hc hl
  go_enter Try.func14, Try.ntmps14
  go_wp2_with fail
  refine (from_any _ _ _ _).mono ?_
  rintro e w' ⟨rfl, rfl⟩
  go_wp2_with fail
  refine (words_any b n _ w.heap.size 0 a len cap zs hb (by omega) HS.out (by omega)).mono ?_
  rintro e w'' ⟨v, ws, rfl, hl, hr, hown, _, hbel⟩
  obtain ⟨g, cp, rfl, k1, k2⟩ := own_some hown h0
  have HALL := Lib.hid (And.intro hl (And.intro hr (And.intro k1 (And.intro k2 hbel)))); clear hl hr hown hbel k1 k2
  go_wp2_with fail
  go_ret
  obtain ⟨hl, hr, k1, k2, hbel⟩ := HALL.out
  refine ⟨g, cp, ws, rfl, k2.more (by simp) (Nat.le_refl _), k1, ?_, ((Below.refl w.heap.size w).alloc (Nat.le_refl _) _).trans hbel⟩
  unfold Ln.vec
  rw [hl, HL.out, Bool.true_and, List.all_eq_true]
  intro x hx
  exact decide_eq_true ⟨hb, hr x hx⟩
theorem r8vec_any (b : Int) (n : Nat) (a : Option Addr) (len cap : Nat) (zs : List Int) (w : World) (hb : Wd.IsBits b) (hl : Ln.lanes n = true) (h : IsRow .u8 w a len cap zs) :
    Calls Try.prog 14 #[.slice a len cap, .int .i64 b, .int .i64 n] w (DrawnV b n w) :=
  r8vecS_any b n a len cap zs w hb hl h.src
theorem r8long_any (a0 a1 : Option Addr) (n0 c0 n1 c1 : Nat) (w : World) (h0 : n0 ≤ maxLen) (h1 : n1 ≤ maxLen) : Calls Try.prog 11 #[.slice a0 n0 c0, .slice a1 n1 c1] w fun e w' => e = .returned (.bool (decide (48 < n0 ∨ 48 < n1))) ∧ w = w' := by
  unfold maxLen at h0 h1
  by_cases k0 : 48 < n0
  · have e0 : decide (48 < n0 ∨ 48 < n1) = true := decide_eq_true (.inl k0)
    rw [e0]; clear e0
    go_enter Try.func11, Try.ntmps11
    go_wp2
    go_ret
    exact ⟨rfl, rfl⟩
  · by_cases k1 : 48 < n1
    · have e0 : decide (48 < n0 ∨ 48 < n1) = true := decide_eq_true (.inr k1)
      rw [e0]; clear e0
      have k0' : n0 ≤ 48 := by omega
      clear k0
      go_enter Try.func11, Try.ntmps11
      go_wp2
      go_ret
      exact ⟨ret_bool (by simp; omega), rfl⟩
    · have e0 : decide (48 < n0 ∨ 48 < n1) = false := decide_eq_false (by omega)
      rw [e0]; clear e0
      have k0' : n0 ≤ 48 := by omega
      have k1' : n1 ≤ 48 := by omega
      clear k0 k1
      go_enter Try.func11, Try.ntmps11
      go_wp2
      go_ret
      exact ⟨ret_bool (by simp; omega), rfl⟩
theorem r8same_any (A A' : Option Addr) (n c c' : Nat) (zs : List Int) (B B' : Nat) (w : World) (hn : n ≤ 1048576) (h : Rd w B A n zs) (h' : Rd w B' A' n zs) :
    Calls Try.prog 20 #[.slice A n c, .slice A' n c'] w fun e w' => e = .returned (.bool true) ∧ Below w.heap.size w w' := by
  have H := Lib.hid h; clear h
  have H' := Lib.hid h'; clear h'
  go_enter Try.func20, Try.ntmps20
  go_wp2
  go_loopw [5] (fun i wr => ∃ k : Nat, k ≤ n ∧ i = .int .i64 k ∧ Below w.heap.size w wr) (fun i _ => n - (intOf i).toNat)
  case atStart => exact ⟨0, Nat.zero_le _, rfl, Below.refl _ _⟩
  case round =>
    obtain ⟨k, hk, rfl, hb⟩ := hrel
    by_cases hlt : k < n
    · obtain ⟨g, o, rfl, hg, hc⟩ := H.out.at_ hlt
      obtain ⟨g', o', rfl, hg', hc'⟩ := H'.out.at_ hlt
      have hd := (hb.cell (p := ⟨g, o + k, none⟩) (World.block_lt_of_cell? w _ hc)).trans hc
      have hd' := (hb.cell (p := ⟨g', o' + k, none⟩) (World.block_lt_of_cell? w _ hc')).trans hc'
      obtain ⟨z, hz⟩ : ∃ z, z = zs.getD k 0 := ⟨_, rfl⟩
      rw [← hz] at hd hd'
      have HB := Lib.hid hb; clear hz hc hc' hb
      have i1 : (0 : Int) ≤ (k : Int) := by omega
      have i2 : (k : Int) < (n : Int) := by omega
      go_wp2
      go_quiet (fail)
      go_wp2
      go_roundw
      case rel => exact ⟨k + 1, by omega, by go_num, below_drewN HB.out _⟩
      case measure => simp [intOf]; omega
    · have hkn : k = n := by omega
      have HB := Lib.hid hb; clear hb hkn
      go_wp2
      go_ret
      exact ⟨rfl, HB.out⟩
end Go.Proofs.Ytfmplneopmbfoaa.Wds
