/-
  Marking a list of ranges: all their cells get new numbers; only their own block changes. One contract.
-/
import Derived.Test.YtfmplneopmbfoaaDoorStG
namespace Go.Proofs.YtfmplneopmbfoaaDoor.Wds
open Go.RowKit
set_option linter.unusedVariables false

theorem frozenG_of {w : World} {lo hi n : Nat} {A : Option Addr} {ss : List Rg.R} (h : OwnG w lo hi A n ss) {k g o : Nat} (hk : k < n) (hA : A = some ⟨g, o, none⟩) :
    lo ≤ g ∧ g < hi ∧ (∀ i, w.frozen? ⟨g, i, none⟩ = false) ∧ At2 (fun i => w.cell? ⟨g, i, none⟩) (o + k * 2) (Rg.nth ss k) := by
  obtain ⟨g', o', cs, e, h1, h2, hg, hc⟩ := h.2 (by omega)
  subst hA
  injection e with e
  injection e with e1 e2
  subst e1; subst e2
  have hl : k < ss.length := by have := h.1; omega
  have h4 := hc k _ (nthG_get hl)
  exact ⟨h1, h2, fun i => hg.frozen i, (hg.cell _).trans h4.1, (hg.cell _).trans h4.2⟩
theorem At2.lt {cs : Array Value} {o : Nat} {s : Rg.R} (h : At2 (fun i => cs[i]?) o s) : o + 1 < cs.size := (Array.getElem?_eq_some_iff.1 h.2).1
/-- Two stores: one range of an owned row. -/
theorem OwnG.set2 {w : World} {lo hi n g o k : Nat} {ss : List Rg.R} (h : OwnG w lo hi (some ⟨g, o, none⟩) n ss) (hk : k < n) (s : Rg.R) :
    OwnG ((w.setCell ⟨g, o + k * 2, none⟩ (.int .i64 s.f)).setCell ⟨g, o + k * 2 + 1, none⟩ (.int .i64 s.t)) lo hi (some ⟨g, o, none⟩) n (ss.set k s) := by
  refine ⟨by simp [h.1], fun hn => ?_⟩
  obtain ⟨g', o', cs, e, h1, h2, hg, hc⟩ := h.2 (by omega)
  injection e with e
  injection e with e1 e2
  subst e1; subst e2
  have hl : k < ss.length := by have := h.1; omega
  have h4 := At2.lt (hc k _ (nthG_get hl))
  refine ⟨g, o, _, rfl, h1, h2, (hg.set_ (o + k * 2) (.int .i64 s.f)).set_ (o + k * 2 + 1) (.int .i64 s.t), fun j t ht => ?_⟩
  rw [List.getElem?_set] at ht
  by_cases e : k = j
  · subst e
    rw [if_pos rfl, if_pos hl] at ht
    injection ht with ht; subst ht
    refine ⟨?_, ?_⟩
    all_goals
      simp only [Array.getElem?_setIfInBounds, Array.size_setIfInBounds]
    · rw [if_neg (by omega), if_pos trivial, if_pos (by omega)]
    · rw [if_pos trivial, if_pos (by omega)]
  · rw [if_neg e] at ht
    have h5 := hc j t ht
    refine ⟨?_, ?_⟩
    all_goals
      simp only [Array.getElem?_setIfInBounds, Array.size_setIfInBounds]
      rw [if_neg (by omega), if_neg (by omega)]
    · exact h5.1
    · exact h5.2
theorem ch_set2 {lo hi : Nat} {a w : World} (h : Ch lo hi a w) {g i : Nat} (h1 : lo ≤ g) (h2 : g < hi) (v0 v1 : Value) : Ch lo hi a ((w.setCell ⟨g, i, none⟩ v0).setCell ⟨g, i + 1, none⟩ v1) :=
  (h.set_ (p := ⟨g, i, none⟩) h1 h2 _).set_ (p := ⟨g, i + 1, none⟩) h1 h2 _
/-- The marks from k0 on, two a range. -/
def markOfG (k0 : Int) (i : Nat) : Rg.R := ⟨k0 + i * 2, k0 + i * 2 + 1⟩
def marksG (k0 : Int) (n : Nat) : List Rg.R := (List.range n).map (markOfG k0)
theorem marksG_len (k0 : Int) (n : Nat) : (marksG k0 n).length = n := by simp [marksG]
theorem marksG_set (k0 : Int) (ss : List Rg.R) (k : Nat) (h : k < ss.length) : (marksG k0 k ++ ss.drop k).set k (markOfG k0 k) = marksG k0 (k + 1) ++ ss.drop (k + 1) := by
  rw [List.set_append_right _ _ (by rw [marksG_len]; exact Nat.le_refl _), marksG_len, Nat.sub_self, List.drop_eq_getElem_cons h, List.set_cons_zero]
  rw [show marksG k0 (k + 1) = marksG k0 k ++ [markOfG k0 k] by simp [marksG, List.range_succ], List.append_assoc]
  rfl
def MarkedG (k0 : Int) (A : Option Addr) (n lo hi : Nat) (w : World) (e : Ending) (w' : World) : Prop :=
  e = .returned (.int .i64 (k0 + (n : Int) * 2)) ∧ OwnG w' lo hi A n (marksG k0 n) ∧ Ch lo hi w w'
set_option maxHeartbeats 1000000 in
theorem markGS_any (A : Option Addr) (n c : Nat) (ss : List Rg.R) (lo hi : Nat) (k0 : Int) (w : World) (hn : n ≤ 1048576) (hk0 : 0 ≤ k0) (hk1 : k0 ≤ 100000000) (h : OwnG w lo hi A n ss) :
    Calls Tryd.prog 20 #[.slice A n c, .int .i64 k0] w (MarkedG k0 A n lo hi w) := by
  have H := Lib.hid h; clear h
  go_enter Tryd.func20, Tryd.ntmps20
  go_wp2
  go_loopw [1, 5] (fun kv i wr => ∃ k : Nat, k ≤ n ∧ i = .int .i64 k ∧ kv = .int .i64 (k0 + (k : Int) * 2) ∧ OwnG wr lo hi A n (marksG k0 k ++ ss.drop k) ∧ Ch lo hi w wr) (fun _ i _ => n - (intOf i).toNat)
  case atStart => exact ⟨0, Nat.zero_le _, rfl, by simp, by simpa [marksG] using H.out, Ch.refl _ _ _⟩
  case round =>
    obtain ⟨k, hk, rfl, rfl, hown, hch⟩ := hrel
    by_cases hlt : k < n
    · obtain ⟨g, o, rfl, hg, _⟩ := H.out.rd.at_ hlt
      obtain ⟨h1, h2, hf, t0, t1⟩ := frozenG_of hown hlt rfl
      have f0 := hf (o + k * 2)
      have f1 := hf (o + k * 2 + 1)
      obtain ⟨m, hm⟩ : ∃ m : Int, m = k0 + (k : Int) * 2 := ⟨_, rfl⟩
      have HN := Lib.hid (hown.set2 hlt ⟨m, m + 1⟩)
      have HC := Lib.hid (ch_set2 (i := o + k * 2) hch h1 h2 (.int .i64 m) (.int .i64 (m + 1)))
      clear hown hch hf
      have m0 : 0 ≤ m := by omega
      have m1 : m ≤ 110000000 := by omega
      rw [← hm]
      have HM := Lib.hid hm; clear hm
      simp only at t0 t1
      generalize (Rg.nth (marksG k0 k ++ ss.drop k) k) = old at t0 t1
      go_wp2
      go_roundw
      case rel =>
        refine ⟨k + 1, by omega, by go_num, by have := HM.out; go_num, ?_, HC.out⟩
        have := HN.out
        rw [show (⟨m, m + 1⟩ : Rg.R) = markOfG k0 k by rw [HM.out]; rfl, marksG_set k0 ss k (by rw [H.out.len]; exact hlt)] at this
        simp only [markOfG] at this
        rw [← HM.out] at this
        exact this
      case measure => simp [intOf]; omega
    · have hkn : k = n := by omega
      have HALL := Lib.hid (And.intro hown (And.intro hch hkn)); clear hown hch
      subst hkn
      go_wp2
      go_ret
      obtain ⟨hown, hch, _⟩ := HALL.out
      have e : ss.drop k = [] := List.drop_eq_nil_of_le (by rw [H.out.len]; exact Nat.le_refl _)
      rw [e, List.append_nil] at hown
      exact ⟨rfl, hown, hch⟩
end Go.Proofs.YtfmplneopmbfoaaDoor.Wds
