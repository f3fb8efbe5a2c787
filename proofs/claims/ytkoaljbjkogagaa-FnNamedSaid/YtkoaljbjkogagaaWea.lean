/-
  Lanes in turn, and lanes taken apart: the code's and the model's functions; one contract each.
-/
import Derived.Test.YtkoaljbjkogagaaSld
import Derived.Test.YtkoaljbjkogagaaLan5
import Derived.Deep.RegionWith
import Derived.Deep.RegionHeld3
import Derived.RegionTactic
namespace Go.Proofs.Ytkoaljbjkogagaa.Wds
open Go.RowKit
set_option linter.unusedVariables false

theorem Ret2.no {w w' : World} (hb : Below w.heap.size w w') : Ret2 Ln.no2.1 Ln.no2.2.1 Ln.no2.2.2 w (.returned (.tuple #[.slice none 0 0, .slice none 0 0, .bool false])) w' :=
  ⟨none, 0, 0, none, 0, 0, rfl, Own.nil _ _ _ _, Own.nil _ _ _ _, (fun g o g' o' h => by cases h), Nat.zero_le _, Nat.zero_le _, hb⟩
/-- What a copy leaves that is made at a later moment W of the world w0. -/
def CopyAt (zs : List Int) (w0 W : World) (e : Ending) (w' : World) : Prop :=
  ∃ A n c, e = .returned (.slice A n c) ∧ Own w' W.heap.size w'.heap.size A n zs ∧ n ≤ 1048576 ∧ Below W.heap.size W w' ∧ Below w0.heap.size w0 w'
theorem apart_of {w : World} {lo hi lo' hi' n n' : Nat} {A A' : Option Addr} {zs ys : List Int} (h : Own w lo hi A n zs) (h' : Own w lo' hi' A' n' ys) (hd : hi ≤ lo' ∨ hi' ≤ lo) (hn : 0 < n) (hn' : 0 < n') : Apart A n A' n' := by
  intro g o g' o' e e'
  obtain ⟨k, _, _, f, h1, h2, _⟩ := h.2 hn
  obtain ⟨k', _, _, f', h1', h2', _⟩ := h'.2 hn'
  rw [e] at f
  rw [e'] at f'
  injection f with f
  injection f with f _
  injection f' with f'
  injection f' with f' _
  refine .inl fun hh => ?_
  omega
theorem Ret2.mk_ {w wf : World} {A A' : Option Addr} {n n' c c' lo hi lo' hi' : Nat} {zs ys : List Int} (h : Own wf lo hi A n zs) (h' : Own wf lo' hi' A' n' ys) (hd : hi ≤ lo' ∨ hi' ≤ lo) (l1 : w.heap.size ≤ lo) (l2 : w.heap.size ≤ lo')
    (u1 : hi ≤ wf.heap.size) (u2 : hi' ≤ wf.heap.size) (hn : n ≤ 1048576) (hn' : n' ≤ 1048576) (p : 0 < n) (p' : 0 < n') (hb : Below w.heap.size w wf) :
    Ret2 zs ys true w (.returned (.tuple #[.slice A n c, .slice A' n' c', .bool true])) wf :=
  ⟨A, n, c, A', n', c', rfl, h.more l1 u1, h'.more l2 u2, apart_of h h' hd p p', hn, hn', hb⟩
set_option maxHeartbeats 1000000 in
theorem iInter_yes (b : Int) (A1 A2 : Option Addr) (n c1 c2 : Nat) (xs ys : List Int) (B1 B2 : Nat) (w : World) (hn : n ≤ 1048576) (hn0 : 0 < n) (h1 : Rd w B1 A1 n xs) (h2 : Rd w B2 A2 n ys) (hbo : Ln.both b xs ys = true) :
    Calls Try.prog 9 #[.int .i64 b, .slice A1 n c1, .slice A2 n c2] w (Ret2 (Ln.tab (Ln.weave xs ys) n) (Ln.tab (fun i => Ln.weave xs ys (n + i)) n) true w) := by
  obtain ⟨i0, hi, hz0, hz1, hz2⟩ := info_parts A_info64
  have k1 := areVec_any b A1 A2 n n c1 c2 xs ys B1 B2 w hn hn h1 h2
  rw [hbo] at k1
  have C1 := Lib.hid k1
  have H1 := Lib.hid h1
  have H2 := Lib.hid h2
  clear h1 h2 k1 hbo
  go_enter Try.func9, Try.ntmps9
  go_wp2_with fail
  refine C1.out.mono ?_
  rintro e w1 ⟨rfl, hb⟩
  have HB1 := Lib.hid hb; clear hb
  have HS1 := Lib.hid HB1.out.size
  go_wp2_with (refine wpList_make_blk _ rfl _ _ _ rfl i0 Try.underlying25 hi hz0 hz1 hz2 _ _ _ _ (2 * n) rfl rfl (by simp) (by simp) (by omega) ?_)
  go_loopw [24] (fun i wr => ∃ k : Nat, k ≤ n ∧ i = .int .i64 k ∧ Blk wr w1.heap.size (clls (Ln.fill (Ln.weave xs ys) (2 * n) (2 * k))) ∧ Below w.heap.size w wr ∧ w1.heap.size < wr.heap.size) (fun i _ => n - (intOf i).toNat)
  case atStart =>
    exact ⟨0, Nat.zero_le _, rfl, by rw [Nat.mul_zero, Ln.fill_zero, ← clls_zero]; exact Blk.new _ _, HB1.out.alloc HS1.out _, by simp⟩
  case round =>
    obtain ⟨k, hk, rfl, hblk, hb, hsz⟩ := hrel
    by_cases hlt : k < n
    · obtain ⟨g1, o1, rfl, hg1, hc1⟩ := H1.out.at_ hlt
      obtain ⟨g2, o2, rfl, hg2, hc2⟩ := H2.out.at_ hlt
      have b1 := World.block_lt_of_cell? w _ hc1
      have b2 := World.block_lt_of_cell? w _ hc2
      have hd1 := (hb.cell (p := ⟨g1, o1 + k, none⟩) b1).trans hc1
      have hd2 := (hb.cell (p := ⟨g2, o2 + k, none⟩) b2).trans hc2
      have hl0 := Ln.fill_len (Ln.weave xs ys) (2 * n) (2 * k) (by omega)
      have hc0 := (hblk.cell (2 * k)).trans (clls_get (by rw [hl0]; omega))
      have hc1' := (hblk.cell (2 * k + 1)).trans (clls_get (by rw [hl0]; omega))
      have hf0 := hblk.frozen (2 * k)
      have hf1 := hblk.frozen (2 * k + 1)
      obtain ⟨v0, hv0⟩ : ∃ z, z = (Ln.fill (Ln.weave xs ys) (2 * n) (2 * k)).getD (2 * k) 0 := ⟨_, rfl⟩
      obtain ⟨v1, hv1⟩ : ∃ z, z = (Ln.fill (Ln.weave xs ys) (2 * n) (2 * k)).getD (2 * k + 1) 0 := ⟨_, rfl⟩
      rw [← hv0] at hc0
      rw [← hv1] at hc1'
      obtain ⟨x, hx⟩ : ∃ z, z = xs.getD k 0 := ⟨_, rfl⟩
      obtain ⟨y, hy⟩ : ∃ z, z = ys.getD k 0 := ⟨_, rfl⟩
      rw [← hx] at hd1
      rw [← hy] at hd2
      have HK := Lib.hid ((hblk.set_ (2 * k) (.int .i64 x)).set_ (2 * k + 1) (.int .i64 y)).drew
      have HB := Lib.hid ((hb.setCell (p := ⟨w1.heap.size, 2 * k, none⟩) HS1.out (.int .i64 x)).setCell (p := ⟨w1.heap.size, 2 * k + 1, none⟩) HS1.out (.int .i64 y)).drew
      have HX := Lib.hid (And.intro hx hy)
      have HSZ := Lib.hid hsz
      have i1 : (0 : Int) ≤ (k : Int) := by omega
      have i2 : (k : Int) < (n : Int) := by omega
      have i3 : (2 * (k : Int)) < ((2 * n : Nat) : Int) := by omega
      have i4 : (2 * (k : Int) + 1) < ((2 * n : Nat) : Int) := by omega
      clear hx hy hv0 hv1 hblk hb hl0 hc1 hc2 b1 b2 hsz
      go_wp2
      go_region
      all_goals go_wp2
      all_goals go_roundw
      case rel =>
        obtain ⟨a, b⟩ := HX.out
        refine ⟨k + 1, by omega, by go_num, ?_, HB.out, by simpa [World.setCell] using HSZ.out⟩
        have := HK.out
        have e1 := Ln.fill_set (Ln.weave xs ys) (2 * n) (2 * k) (by omega)
        have e2 := Ln.fill_set (Ln.weave xs ys) (2 * n) (2 * k + 1) (by omega)
        rw [Ln.weave_even, ← a] at e1
        rw [Ln.weave_odd, ← b] at e2
        rw [clls_set, clls_set, e1, e2] at this
        exact this
      case measure => simp [intOf]; omega
    · have hkn : k = n := by omega
      subst hkn
      rw [Ln.fill_all] at hblk
      have ho := Own.of_blk (lo := w.heap.size) hblk (Ln.tab_len _ _) HS1.out
      have oa := ho.cut 0 k (by omega)
      have ob := ho.cut k k (by omega)
      rw [List.drop_zero, Ln.tab_take _ _ _ (show k ≤ 2 * k by omega), Nat.zero_add] at oa
      rw [Ln.tab_drop, show 2 * k - k = k by omega, List.take_of_length_le (by rw [Ln.tab_len]; exact Nat.le_refl _), Nat.zero_add] at ob
      have CH := Lib.hid (fun W => halves_any w1.heap.size 0 (2 * k) k (2 * k) W hn0 rfl hn (Nat.le_refl _))
      have HA := Lib.hid (And.intro oa (And.intro ob hb))
      clear ho oa ob hblk hb
      go_wp2_with fail
      refine (CH.out _).mono ?_
      rintro e w4 ⟨rfl, hb4⟩
      have HB4 := Lib.hid hb4; clear hb4
      go_wp2_with fail
      go_ret3
      obtain ⟨oa, ob, hb⟩ := HA.out
      have s4 := HB4.out.size
      exact ⟨_, k, k, _, k, k, by simp, (oa.below HB4.out).more (Nat.le_refl _) s4, (ob.below HB4.out).more (Nat.le_refl _) s4, (by intro g o g' o' e e'; injection e with e; injection e with e1 e2; injection e' with e'; injection e' with e3 e4; subst e2; subst e4; exact .inr (.inl (by omega))), hn, hn, hb.trans (HB4.out.mono hb.size)⟩
theorem iInterleaveLanes_any (b : Int) (A1 : Option Addr) (n1 c1 : Nat) (xs : List Int) (B1 : Nat) (A2 : Option Addr) (n2 c2 : Nat) (ys : List Int) (B2 : Nat) (w : World)
    (hn1 : n1 ≤ 1048576) (hn2 : n2 ≤ 1048576) (h1 : Rd w B1 A1 n1 xs) (h2 : Rd w B2 A2 n2 ys) :
    Calls Try.prog 9 #[.int .i64 b, .slice A1 n1 c1, .slice A2 n2 c2] w (Ret2 (Ln.interleave b xs ys).1 (Ln.interleave b xs ys).2.1 (Ln.interleave b xs ys).2.2 w) := by
  unfold Ln.interleave
  by_cases hbo : Ln.both b xs ys = true
  · obtain ⟨f1, f2, f3⟩ := Ln.both_len hbo
    have g1 := h1.len
    have g2 := h2.len
    obtain rfl : n2 = n1 := by omega
    rw [hbo, g1]
    exact iInter_yes b A1 A2 n2 c1 c2 xs ys B1 B2 w hn1 (by have := Ln.vec_len f2; omega) h1 h2 hbo
  · have hb' : Ln.both b xs ys = false := by simpa using hbo
    have k1 := areVec_any b A1 A2 n1 n2 c1 c2 xs ys B1 B2 w hn1 hn2 h1 h2
    rw [hb'] at k1
    rw [hb']
    have C1 := Lib.hid k1
    clear k1 h1 h2 hbo hb'
    go_enter Try.func9, Try.ntmps9
    go_wp2_with fail
    refine C1.out.mono ?_
    rintro e w1 ⟨rfl, hb⟩
    have HB := Lib.hid hb; clear hb
    go_wp2_with fail
    go_ret3
    exact Ret2.no HB.out
end Go.Proofs.Ytkoaljbjkogagaa.Wds
