/-
  Groups: which two statements can be in one group, the code's test; the set of the first numbers. One contract each.
-/
import Derived.Test.YtgkpjeheoinpiaaGpM
import Derived.Test.YtgkpjeheoinpiaaSets
import Derived.Test.YtgkpjeheoinpiaaScal
namespace Go.Proofs.Ytgkpjeheoinpiaa.Wds
open Go.RowKit
set_option linter.unusedVariables false

theorem ones_any (n : Nat) (w : World) (hn : n ≤ 31) : Calls Try.prog 31 #[.int .i64 (n : Int)] w fun e w' => e = .returned (.int .u32 ((2 ^ n - 1 : Nat) : Int)) ∧ w = w' := by
  have hp := pow_u32 n hn
  have h1 : 1 ≤ 2 ^ n := Nat.one_le_two_pow
  have h2 := Sc.pow_lt hn
  obtain ⟨N, hN⟩ : ∃ N, N = 2 ^ n := ⟨_, rfl⟩
  rw [← hN] at hp h1 h2 ⊢
  have u1 : IntKind.u32.wrap ((N : Int) - 1) = ((N - 1 : Nat) : Int) := by rw [IntKind.wrap_u32]; omega
  clear hN
  go_enter Try.func31, Try.ntmps31
  go_wp2
  go_ret
  exact ⟨rfl, rfl⟩
/-- Whether a number lies in a range: no error, or one that is new. -/
theorem withinO (n lo hi : Int) (b : Bool) (hb : decide (lo ≤ n ∧ n ≤ hi) = b) (w : World) :
    Calls Try.prog 44 #[.int .i64 n, .int .i64 lo, .int .i64 hi] w fun e w' => ((b = true ∧ e = .returned .nilIface) ∨ (b = false ∧ ∃ ad, e = .returned (.iface 79 (.pointer (some ad))))) ∧ Below w.heap.size w w' := by
  by_cases h : lo ≤ n ∧ n ≤ hi
  · rw [decide_eq_true h] at hb
    exact (within_in n lo hi w h.1 h.2).mono fun e w' ⟨he, hw⟩ => ⟨.inl ⟨hb.symm, he⟩, hw ▸ Below.refl _ _⟩
  · rw [decide_eq_false h] at hb
    by_cases h1 : n < lo
    · exact (within_lo n lo hi w h1).mono fun e w' ⟨he, hw⟩ => ⟨.inr ⟨hb.symm, _, he⟩, hw ▸ (Below.refl _ _).alloc (Nat.le_refl _) _⟩
    · exact (within_hi n lo hi w (by omega) (by omega)).mono fun e w' ⟨he, hw⟩ => ⟨.inr ⟨hb.symm, _, he⟩, hw ▸ (Below.refl _ _).alloc (Nat.le_refl _) _⟩
set_option maxRecDepth 100000 in
set_option maxHeartbeats 2000000 in
theorem fits_any (p d a b p' d' a' b' l : Int) (w : World) (hl : l = 2 ∨ l = 4) (hx : Sc.ok ⟨p, d, a, b⟩ = true) (hy : Sc.ok ⟨p', d', a', b'⟩ = true) :
    Calls Try.prog 28 #[.agg #[.int .i64 p, .int .i64 d, .int .i64 a, .int .i64 b], .agg #[.int .i64 p', .int .i64 d', .int .i64 a', .int .i64 b'], .int .i64 l] w
      fun e w' => e = .returned (.bool (Gp.fit l ⟨p, d, a, b⟩ ⟨p', d', a', b'⟩)) ∧ Below w.heap.size w w' := by
  have ox := Sc.ok_cells hx
  have oy := Sc.ok_cells hy
  simp only at ox oy
  obtain ⟨r, hr⟩ : ∃ r, r = Gp.fit l ⟨p, d, a, b⟩ ⟨p', d', a', b'⟩ := ⟨_, rfl⟩
  rw [← hr]
  obtain ⟨m, hm⟩ : ∃ m, m = Sc.must ⟨p', d', a', b'⟩ ⟨p, d, a, b⟩ := ⟨_, rfl⟩
  have CM := Lib.hid (fun W => iMust_any p' d' a' b' p d a b W hy hx)
  unfold Gp.fit at hr
  rw [← hm] at CM hr
  simp only at hr
  have v1 : IntKind.i64.wrap (a - a') = a - a' := IntWalk.i64_in _ (by omega)
  have v2 : IntKind.i64.wrap (b - b') = b - b' := IntWalk.i64_in _ (by omega)
  have v3 : IntKind.i64.wrap (d - d') = d - d' := IntWalk.i64_in _ (by omega)
  have v4 : IntKind.i64.wrap (2 * l) = 2 * l := IntWalk.i64_in _ (by omega)
  have v5 : IntKind.i64.wrap (1 - 2 * l) = 1 - 2 * l := IntWalk.i64_in _ (by omega)
  have v6 : IntKind.i64.wrap (2 * l - 1) = 2 * l - 1 := IntWalk.i64_in _ (by omega)
  have v7 : IntKind.i64.wrap (1 - l) = 1 - l := IntWalk.i64_in _ (by omega)
  have v8 : IntKind.i64.wrap (l - 1) = l - 1 := IntWalk.i64_in _ (by omega)
  obtain ⟨k1, hk1⟩ : ∃ k, Gp.inB (a - a') (2 * l) = k := ⟨_, rfl⟩
  obtain ⟨k2, hk2⟩ : ∃ k, Gp.inB (b - b') (2 * l) = k := ⟨_, rfl⟩
  obtain ⟨k3, hk3⟩ : ∃ k, Gp.inB (d - d') l = k := ⟨_, rfl⟩
  rw [hk1, hk2, hk3] at hr
  have C1 := Lib.hid (withinO (a - a') (1 - 2 * l) (2 * l - 1) k1 hk1)
  have C2 := Lib.hid (withinO (b - b') (1 - 2 * l) (2 * l - 1) k2 hk2)
  have C3 := Lib.hid (withinO (d - d') (1 - l) (l - 1) k3 hk3)
  have HR := Lib.hid hr
  have W1 := Lib.hid ((BlkS.new w #[.int .i64 p, .int .i64 d, .int .i64 a, .int .i64 b]).alloc (.cells #[.int .i64 p', .int .i64 d', .int .i64 a', .int .i64 b'] 40))
  have W2 := Lib.hid (BlkS.new (w.alloc (.cells #[.int .i64 p, .int .i64 d, .int .i64 a, .int .i64 b] 40)) #[.int .i64 p', .int .i64 d', .int .i64 a', .int .i64 b'])
  have HB0 : Hid (Below w.heap.size w ((w.alloc (.cells #[.int .i64 p, .int .i64 d, .int .i64 a, .int .i64 b] 40)).alloc (.cells #[.int .i64 p', .int .i64 d', .int .i64 a', .int .i64 b'] 40))) :=
    Lib.hid (((Below.refl _ _).alloc (Nat.le_refl _) _).alloc (by simp) _)
  have hs : (w.alloc (.cells #[.int .i64 p, .int .i64 d, .int .i64 a, .int .i64 b] 40)).heap.size = w.heap.size + 1 := by simp
  rw [hs] at W2
  clear hr hm hk1 hk2 hk3 hx hy ox oy hl hs
  by_cases hp : p = p'
  · subst hp
    have HR1 := Lib.hid (show r = (!m && (k1 && (k2 && k3))) by rw [HR.out]; simp)
    clear HR
    go_enter Try.func28, Try.ntmps28
    go_wp2_with fail
    refine (CM.out _).mono ?_
    rintro e w1 ⟨rfl, hb⟩
    have X1 := Lib.hid (W1.out.keep hb)
    have X2 := Lib.hid (W2.out.keep hb)
    have HB1 := Lib.hid (HB0.out.trans (hb.mono HB0.out.size)); clear hb
    cases m
    · have x2 : w1.cell? ⟨w.heap.size, 2, none⟩ = some (.int .i64 a) := X1.out.cell 2
      have y2 : w1.cell? ⟨w.heap.size + 1, 2, none⟩ = some (.int .i64 a') := X2.out.cell 2
      go_wp2_with fail
      refine (C1.out _).mono ?_
      rintro e w2 ⟨h1, hb⟩
      have X3 := Lib.hid (X1.out.keep hb)
      have X4 := Lib.hid (X2.out.keep hb)
      have HB2 := Lib.hid (HB1.out.trans (hb.mono HB1.out.size)); clear hb x2 y2
      rcases h1 with ⟨rfl, rfl⟩ | ⟨rfl, ad, rfl⟩
      · have x2 : w2.cell? ⟨w.heap.size, 3, none⟩ = some (.int .i64 b) := X3.out.cell 3
        have y2 : w2.cell? ⟨w.heap.size + 1, 3, none⟩ = some (.int .i64 b') := X4.out.cell 3
        go_wp2_with fail
        refine (C2.out _).mono ?_
        rintro e w3 ⟨h1, hb⟩
        have X5 := Lib.hid (X3.out.keep hb)
        have X6 := Lib.hid (X4.out.keep hb)
        have HB3 := Lib.hid (HB2.out.trans (hb.mono HB2.out.size)); clear hb x2 y2
        rcases h1 with ⟨rfl, rfl⟩ | ⟨rfl, ad, rfl⟩
        · have x2 : w3.cell? ⟨w.heap.size, 1, none⟩ = some (.int .i64 d) := X5.out.cell 1
          have y2 : w3.cell? ⟨w.heap.size + 1, 1, none⟩ = some (.int .i64 d') := X6.out.cell 1
          go_wp2_with fail
          refine (C3.out _).mono ?_
          rintro e w4 ⟨h1, hb⟩
          have HB4 := Lib.hid (HB3.out.trans (hb.mono HB3.out.size)); clear hb x2 y2
          rcases h1 with ⟨rfl, rfl⟩ | ⟨rfl, ad, rfl⟩
          · go_wp2
            go_ret
            exact ⟨ret_bool (by rw [HR1.out]; simp), HB4.out⟩
          · go_wp2
            go_ret
            exact ⟨ret_bool (by rw [HR1.out]; simp), HB4.out⟩
        · go_wp2
          go_ret
          exact ⟨ret_bool (by rw [HR1.out]; simp), HB3.out⟩
      · go_wp2
        go_ret
        exact ⟨ret_bool (by rw [HR1.out]; simp), HB2.out⟩
    · go_wp2
      go_ret
      exact ⟨ret_bool (by rw [HR1.out]; simp), HB1.out⟩
  · have hp1 : (p == p') = false := beq_eq_false_iff_ne.2 hp
    have hrf : r = false := by rw [HR.out, hp1]; rfl
    have hp2 : decide (p = p') = false := decide_eq_false hp
    subst hrf
    clear hp
    go_enter Try.func28, Try.ntmps28
    go_wp2
    go_ret
    exact ⟨ret_bool (by simp), HB0.out⟩
end Go.Proofs.Ytgkpjeheoinpiaa.Wds
