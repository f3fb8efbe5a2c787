/-
  ReorderCode: the model's function.
-/
import Derived.Test.YtbaiaahdjkjjoaaReord
import Derived.Test.YtbaiaahdjkjjoaaSOrder
namespace Go.Proofs.Ytbaiaahdjkjjoaa.Wds
open Go.RowKit
set_option linter.unusedVariables false

set_option maxHeartbeats 1000000 in
theorem sReorderCode_any (A : Option Addr) (n c : Nat) (ss : List Sc.St) (B : Nat) (A' : Option Addr) (n' c' : Nat) (zs : List Int) (B' : Nat) (w : World) (hn : n ≤ 1048576) (hc : n ≤ c) (hn' : n' ≤ 1048576) (hc' : n' ≤ c') (h : RdS w B A n ss) (h' : Rd w B' A' n' zs) :
    Calls Try.prog 23 #[.slice A n c, .slice A' n' c'] w (Ret1S (reorder2 ss zs).1 (reorder2 ss zs).2 w) := by
  obtain ⟨i0, hi, hz0, hz1, hz2⟩ := info_parts A_infoS
  have CV := Lib.hid (sIs3_any A n c ss B w hn h)
  have CO := Lib.hid (fun (W : World) (hb : Below w.heap.size w W) => sOrder_any A n c ss B A' n' c' zs B' W hn hn' hc' (h.below hb) (h'.below hb))
  have hl := h.len
  have hl' := h'.len
  have H := Lib.hid h
  have H' := Lib.hid h'
  clear h h'
  unfold reorder2
  obtain ⟨r, hr⟩ : ∃ v, v = Sc.isOrder ss zs := ⟨_, rfl⟩
  rw [← hr]
  obtain ⟨v, hv⟩ : ∃ v, v = Sc.valid ss := ⟨_, rfl⟩
  obtain ⟨q, hq⟩ : ∃ v, v = Sc.isOrd ss zs := ⟨_, rfl⟩
  have hrr : r = (v && q) := by rw [hr, hv, hq]; rfl
  rw [← hv] at CV
  rw [← hq] at CO
  clear hv hq
  cases v
  · have : r = false := by rw [hrr]; rfl
    subst this
    rw [if_neg (by simp)]
    clear hl hl' hr hrr
    go_enter Try.func23, Try.ntmps23
    go_wp2_with fail
    refine CV.out.mono ?_
    rintro e w1 ⟨rfl, hb⟩
    have HB := Lib.hid hb; clear hb
    go_wp2
    go_ret2
    exact Ret1S.no HB.out
  · cases q
    · have : r = false := by rw [hrr]; rfl
      subst this
      rw [if_neg (by simp)]
      clear hl hl' hr hrr
      go_enter Try.func23, Try.ntmps23
      go_wp2_with fail
      refine CV.out.mono ?_
      rintro e w1 ⟨rfl, hb⟩
      have HB := Lib.hid hb; clear hb
      go_wp2_with fail
      refine (CO.out _ HB.out).mono ?_
      rintro e w2 ⟨rfl, hb2⟩
      have HB2 := Lib.hid (HB.out.trans (hb2.mono HB.out.size)); clear hb2
      go_wp2
      go_ret2
      exact Ret1S.no HB2.out
    · have : r = true := by rw [hrr]; rfl
      subst this
      rw [if_pos rfl]
      have hat := fun k (hk : k < n') => isOrder_at (k := k) hr.symm (by rw [hl']; exact hk)
      have HAT := Lib.hid hat
      have HL := Lib.hid hl
      have HL' := Lib.hid hl'
      have HML := Lib.hid (show (moved ss zs).length = n' by rw [moved, List.length_map, hl'])
      clear hat hr hrr hl hl'
      go_enter Try.func23, Try.ntmps23
      go_wp2_with fail
      refine CV.out.mono ?_
      rintro e w1 ⟨rfl, hb⟩
      have HB := Lib.hid hb; clear hb
      go_wp2_with fail
      refine (CO.out _ HB.out).mono ?_
      rintro e w2 ⟨rfl, hb2⟩
      have HB2 := Lib.hid (HB.out.trans (hb2.mono HB.out.size)); clear hb2 HB
      have H1 := Lib.hid (H.out.below HB2.out)
      have H1' := Lib.hid (H'.out.below HB2.out)
      go_wp2
      go_loopw [6, 7] (fun v i wr => ∃ k : Nat, k ≤ n' ∧ i = .int .i64 k ∧ wr.ownsRow w2.heap.size 57 4 v k (((moved ss zs).take k).flatMap c4) ∧ Below w2.heap.size w2 wr) (fun _ i _ => n' - (intOf i).toNat)
      case atStart => exact ⟨0, Nat.zero_le _, rfl, World.ownsRow_made w2 #[] 0 (Nat.le_refl _) (by decide) rfl, (Below.refl _ _).alloc (Nat.le_refl _) _⟩
      case round =>
        obtain ⟨k, hk, rfl, hown, hb⟩ := hrel
        by_cases hlt : k < n'
        · obtain ⟨g', o', rfl, hg', hc1⟩ := (H1'.out.below hb).at_ hlt
          obtain ⟨j0, j1, j2, j3⟩ := HAT.out k hlt
          obtain ⟨j, hj⟩ : ∃ j, j = zs.getD k 0 := ⟨_, rfl⟩
          have hma := moved_at (c := ss) (o := zs) (k := k) (by rw [HL'.out]; exact hlt)
          rw [← hj] at hc1 j0 j1 hma
          rw [HL.out] at j1
          obtain ⟨y, rfl⟩ := Int.eq_ofNat_of_zero_le j0
          rw [Int.toNat_natCast] at hma
          obtain ⟨g, o, rfl, hg, c0, c1, c2, c3⟩ := (H1.out.below hb).at_ (k := y) (by omega)
          obtain ⟨x, hx⟩ : ∃ x, x = Sc.nth ss y := ⟨_, rfl⟩
          rw [← hx] at c0 c1 c2 c3 hma
          have HX := Lib.hid hma
          obtain ⟨p, d, a, b⟩ := x
          simp only at c0 c1 c2 c3
          have hlt1 : (k : Int) < (n' : Int) := by omega
          have HB := Lib.hid hb
          have hbs := hb.size
          clear hma hx hj hb j2 j3
          obtain ⟨Av, cv, rfl, _⟩ := ownS_form hown
          go_wp2_with (at_builtin; refine wpList_pushS _ rfl _ _ rfl i0 Try.underlying24 hi hz0 hz1 hz2 _ _ _ _ ⟨p, d, a, b⟩ rfl hown rfl (by omega) hbs ?_; intro v' w' hown' hb')
          rw [← HX.out, ← take_nth (by rw [HML.out]; exact hlt)] at hown'
          have HO := Lib.hid hown'
          have HB' := Lib.hid (HB.out.trans hb'); clear hown' hb'
          go_wp2
          go_roundw
          case rel => exact ⟨k + 1, by omega, by go_num, HO.out, HB'.out⟩
          case measure => simp [intOf]; omega
        · have hkn : k = n' := by omega
          subst hkn
          rw [List.take_of_length_le (by rw [HML.out]; exact Nat.le_refl _)] at hown
          have HO := Lib.hid hown
          have HB := Lib.hid hb; clear hown hb
          go_wp2
          go_ret2
          obtain ⟨Av, cv, e, ho⟩ := ownS_form HO.out
          subst e
          exact ⟨Av, k, cv, rfl, ho.more HB2.out.size (Nat.le_refl _), hn', HB2.out.trans (HB.out.mono HB2.out.size)⟩
end Go.Proofs.Ytbaiaahdjkjjoaa.Wds
