/-
  Groups: the model's cells of a group, the least and the greatest one of some numbers. One contract each.
-/
import Derived.Test.YtgkpjeheoinpiaaGpM
import Derived.Test.YtgkpjeheoinpiaaMaxM
import Derived.Test.YtgkpjeheoinpiaaVCode
import Derived.Test.YtgkpjeheoinpiaaSets
import Derived.Test.YtgkpjeheoinpiaaPush
namespace Go.Proofs.Ytgkpjeheoinpiaa.Wds
open Go.RowKit
set_option linter.unusedVariables false

/-- Two numbers are returned. -/
def RetII (x y : Int) (w : World) (e : Ending) (w' : World) : Prop := e = .returned (.tuple #[.int .i64 x, .int .i64 y]) ∧ Below w.heap.size w w'
set_option maxHeartbeats 1000000 in
theorem sEnds_any (A : Option Addr) (n c : Nat) (zs : List Int) (B : Nat) (w : World) (hn : n ≤ 1048576) (h0 : 0 < n) (h : Rd w B A n zs) :
    Calls Try.prog 23 #[.slice A n c] w (RetII (Gp.low zs) (Gp.high zs) w) := by
  have hl := h.len
  obtain ⟨g0, o0, rfl, _, hc0⟩ := h.at_ h0
  rw [show o0 + 0 = o0 from rfl] at hc0
  have H := Lib.hid h
  have HL := Lib.hid hl
  clear h hl
  obtain ⟨z0, hz0⟩ : ∃ z, z = zs.getD 0 0 := ⟨_, rfl⟩
  rw [← hz0] at hc0
  have HZ := Lib.hid hz0; clear hz0
  have i1 : (0 : Int) < (n : Int) := by omega
  have i2 : (0 : Int) ≤ (n : Int) := by omega
  go_enter Try.func23, Try.ntmps23
  go_wp2
  go_loopw [4, 5, 6] (fun l u i wr => ∃ k : Nat, k + 1 ≤ n ∧ i = .int .i64 ((k + 1 : Nat) : Int) ∧ l = .int .i64 (Gp.lowTo zs k) ∧ u = .int .i64 (Gp.highTo zs k) ∧ Below w.heap.size w wr) (fun _ _ i _ => n - (intOf i).toNat)
  case atStart => exact ⟨0, by omega, by simp, by rw [HZ.out]; rfl, by rw [HZ.out]; rfl, Below.refl _ _⟩
  case round =>
    rename World => wr
    obtain ⟨k, hk, rfl, rfl, rfl, hb⟩ := hrel
    have HN1 := Lib.hid (show Gp.lowTo zs (k + 1) = min (Gp.lowTo zs k) (zs.getD (k + 1) 0) from rfl)
    have HN2 := Lib.hid (show Gp.highTo zs (k + 1) = max (Gp.highTo zs k) (zs.getD (k + 1) 0) from rfl)
    by_cases hlt : k + 1 < n
    · obtain ⟨g, o, e, _, hc⟩ := (H.out.below hb).at_ hlt
      injection e with e; injection e with e1 e2; subst e1; subst e2
      obtain ⟨x, hx⟩ : ∃ x, x = zs.getD (k + 1) 0 := ⟨_, rfl⟩
      obtain ⟨y, hy⟩ : ∃ y, y = Gp.lowTo zs k := ⟨_, rfl⟩
      obtain ⟨u, hu⟩ : ∃ y, y = Gp.highTo zs k := ⟨_, rfl⟩
      rw [← hx, ← hy] at HN1
      rw [← hx, ← hu] at HN2
      rw [← hx] at hc
      rw [← hy, ← hu]
      have C1 := Lib.hid (fun W => minM_any y x W)
      have C2 := Lib.hid (fun W => maxM_any u x W)
      have HB := Lib.hid hb; clear hb hx hy hu
      obtain ⟨q, hq⟩ : ∃ q, q = k + 1 := ⟨_, rfl⟩
      rw [← hq] at hlt hc hk HN1 HN2 ⊢
      have j1 : (0 : Int) ≤ (q : Int) := by omega
      have j2 : (q : Int) < (n : Int) := by omega
      have HQ := Lib.hid hq; clear hq
      go_wp2_with fail
      refine (C1.out _).mono ?_
      rintro e w3 ⟨rfl, rfl⟩
      go_wp2_with fail
      refine (C2.out _).mono ?_
      rintro e w3 ⟨rfl, rfl⟩
      go_wp2
      go_roundw
      case rel => exact ⟨q, by omega, by go_num, by rw [HN1.out], by rw [HN2.out], HB.out⟩
      case measure => simp [intOf]; omega
    · have HB := Lib.hid hb; clear hb
      obtain ⟨q, hq⟩ : ∃ q, q = k + 1 := ⟨_, rfl⟩
      have hqn : q = n := by omega
      have HK := Lib.hid (show k = n - 1 by omega)
      obtain ⟨y, hy⟩ : ∃ y, y = Gp.lowTo zs k := ⟨_, rfl⟩
      obtain ⟨u, hu⟩ : ∃ y, y = Gp.highTo zs k := ⟨_, rfl⟩
      have HY := Lib.hid hy
      have HU := Lib.hid hu
      rw [← hy, ← hu]
      rw [← hq]
      clear hq hy hu
      subst hqn
      go_wp2
      go_ret2
      refine ⟨?_, HB.out⟩
      rw [HY.out, HU.out, HK.out]
      simp [Gp.low, Gp.high, HL.out]
set_option maxHeartbeats 2000000 in
theorem sCells_any (A : Option Addr) (n c : Nat) (ss : List Sc.St) (A' : Option Addr) (m c' : Nat) (zs : List Int) (B B' : Nat) (which : Nat) (wi : Int) (hw : which = 0 ∧ wi = 0 ∨ which = 1 ∧ wi = 1 ∨ which = 2 ∧ wi = 2) (w : World) (hm : m ≤ 1048576)
    (h : RdS w B A n ss) (h' : Rd w B' A' m zs) (hv : ∀ k, k < m → 0 ≤ zs.getD k 0 ∧ zs.getD k 0 < (n : Int)) :
    Calls Try.prog 24 #[.slice A n c, .slice A' m c', .int .i64 wi] w (RetL (Gp.cells ss zs which) w) := by
  obtain ⟨i0, hi, hz0, hz1, hz2⟩ := info_parts A_info64
  have hl' := h'.len
  have H := Lib.hid h
  have H' := Lib.hid h'
  have HV := Lib.hid hv
  have HL' := Lib.hid hl'
  obtain ⟨f, hf⟩ : ∃ f, f = fun k => (Gp.cells ss zs which).getD k 0 := ⟨_, rfl⟩
  have hT : Ln.tab f m = Gp.cells ss zs which := by
    have := Ln.tab_self (Gp.cells ss zs which)
    rw [Gp.cells_len, hl'] at this
    rw [hf]; exact this
  have HT := Lib.hid hT
  have HC := Lib.hid (show ∀ k, k < m → f k = Gp.cell which (Sc.nth ss (zs.getD k 0).toNat) from fun k hk => by
    rw [hf]
    show (Gp.cells ss zs which).getD k 0 = _
    rw [Gp.cells, List.getD_eq_getElem?_getD, List.getElem?_map, List.getElem?_eq_getElem (by omega), List.getD_eq_getElem?_getD, List.getElem?_eq_getElem (by omega)]; rfl)
  clear hf
  clear h h' hv hl' hT
  rcases hw with ⟨rfl, rfl⟩ | ⟨rfl, rfl⟩ | ⟨rfl, rfl⟩
  all_goals
    go_enter Try.func24, Try.ntmps24
    go_wp2
    go_loopw [7, 8] (fun v i wr => Pushes f m w v i wr) (fun _ i _ => m - (intOf i).toNat)
    case atStart => exact Pushes.start _ _ _
    case round =>
      rename World => wr
      obtain ⟨k, hk, rfl, hown, hb⟩ := hrel
      by_cases hlt : k < m
      · obtain ⟨g, o, rfl, _, hc⟩ := (H'.out.below hb).at_ hlt
        have hvr := HV.out k hlt
        have hce := HC.out k hlt
        obtain ⟨z, hz⟩ : ∃ z, z = zs.getD k 0 := ⟨_, rfl⟩
        rw [← hz] at hc hvr hce
        obtain ⟨q, rfl⟩ := Int.eq_ofNat_of_zero_le hvr.1
        obtain ⟨g1, o1, rfl, _, c0, c1, c2, c3⟩ := (H.out.below hb).at_ (k := q) (by omega)
        obtain ⟨s, hs⟩ : ∃ s, s = Sc.nth ss q := ⟨_, rfl⟩
        rw [Int.toNat_natCast, ← hs] at hce
        rw [← hs] at c0 c1 c2 c3
        obtain ⟨p, d, a, b⟩ := s
        simp only at c0 c1 c2 c3
        have HE := Lib.hid hce
        have HB := Lib.hid hb
        have HO := Lib.hid hown
        have HSZ := Lib.hid hb.size
        clear hb hown hz hs hce
        have i1 : (0 : Int) ≤ (k : Int) := by omega
        have i2 : (k : Int) < (m : Int) := by omega
        have i3 : (0 : Int) ≤ (q : Int) := by omega
        have i4 : (q : Int) < (n : Int) := by omega
        go_wp2_with (at_builtin; refine wpList_push _ rfl _ _ rfl i0 Try.underlying25 hi hz0 hz1 hz2 _ _ _ _ _ rfl ((HO.out.alloc _).alloc _) (by simp [Act.eval]) (by omega) (by have := HSZ.out; simp; omega) ?_; intro v' w3 hown1 hb1; have HO1 := Lib.hid hown1; have HBB := Lib.hid hb1; clear hown1 hb1)
        go_roundw
        case rel => exact Pushes.step hlt HB.out _ (by rw [HE.out]; rfl) HO1.out ((((Below.refl _ _).alloc HSZ.out _).alloc (by have := HSZ.out; simp; omega) _).trans HBB.out)
        case measure => simp [intOf]; omega
      · have hkn : k = m := by omega
        have HO := Lib.hid hown
        have HB := Lib.hid hb
        clear hown hb
        subst hkn
        go_wp2
        go_ret
        refine RetL.of_row (n := k) ?_ hm HB.out
        rw [← HT.out]
        exact HO.out
end Go.Proofs.Ytgkpjeheoinpiaa.Wds
